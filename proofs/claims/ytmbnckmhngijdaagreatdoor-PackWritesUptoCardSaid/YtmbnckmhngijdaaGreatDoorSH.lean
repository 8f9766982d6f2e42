/- Contract of the reference's text. -/
import Derived.Test.YtmbnckmhngijdaaGreatDoorSG
namespace Go.Proofs.YtmbnckmhngijdaaGreatDoor
open Go Go.RowKit

/-- bytes in a block that a string may share behind its cells -/
def Mk (w : World) (B : Nat) (v : Value) (l : List UInt8) : Prop :=
  ∃ g cap cur f, v = .slice (some ⟨g, 0, none⟩) l.length cap ∧ B ≤ g ∧ w.heap[g]? = some (.cells cur 5 f) ∧ (f = (0, 0) ∨ cap ≤ f.1) ∧ l.length ≤ cap ∧ cap ≤ maxLen ∧ cur.size = cap ∧ cur.toList.take l.length = c8 l
theorem Mk.rd {w : World} {B : Nat} {v : Value} {l : List UInt8} (h : Mk w B v l) : RdV w v l := by
  obtain ⟨g, cap, cur, f, rfl, h1, h2, h3, h4, h5, h6, h7⟩ := h
  refine .inr ⟨g, cap, rfl, h4, h5, lt_of_block h2, fun k x hx => ?_⟩
  rw [cell_of_row w g k cur 5 f h2]
  have e := c8_get hx
  rw [← h7, List.getElem?_take] at e
  split at e
  · simpa using e
  · cases e
theorem Mk.below {w w' : World} {B : Nat} {v : Value} {l : List UInt8} (h : Mk w B v l) (hb : Below w.heap.size w w') : Mk w' B v l := by
  obtain ⟨g, cap, cur, f, rfl, h1, h2, h3⟩ := h
  exact ⟨g, cap, cur, f, rfl, h1, (hb.block g (lt_of_block h2)).trans h2, h3⟩
theorem Mk.slice {w : World} {B : Nat} {v : Value} {l : List UInt8} (h : Mk w B v l) : ∃ g cap, v = .slice (some ⟨g, 0, none⟩) l.length cap ∧ B ≤ g ∧ l.length ≤ cap ∧ cap ≤ maxLen := by
  obtain ⟨g, cap, cur, f, rfl, h1, h2, h3, h4, h5, _⟩ := h
  exact ⟨g, cap, rfl, h1, h4, h5⟩
theorem Mk.take {w : World} {B g cap n : Nat} {l : List UInt8} (h : Mk w B (.slice (some ⟨g, 0, none⟩) l.length cap) l) (hn : n ≤ l.length) : Mk w B (.slice (some ⟨g, 0, none⟩) n cap) (l.take n) := by
  obtain ⟨g', cap', cur, f, hs, h1, h2, h3, h4, h5, h6, h7⟩ := h
  simp only [Value.slice.injEq, Option.some.injEq, Addr.mk.injEq, and_true, true_and] at hs
  obtain ⟨rfl, rfl⟩ := hs
  have hl : (l.take n).length = n := by rw [List.length_take]; omega
  refine ⟨g, cap, cur, f, by rw [hl], h1, h2, h3, by omega, h5, h6, ?_⟩
  rw [hl]
  have : cur.toList.take n = (cur.toList.take l.length).take n := by rw [List.take_take, Nat.min_eq_left hn]
  rw [this, h7, c8, c8, List.map_take]
theorem heap_set {w : World} {g k : Nat} {cur : Array Value} {e : TypeId} {f : Nat × Nat} (h : w.heap[g]? = some (.cells cur e f)) (u : Value) : (w.setCell ⟨g, k, none⟩ u).heap[g]? = some (.cells (cur.setIfInBounds k u) e f) := by
  have hlt := lt_of_block h
  have h' : w.heap[g] = .cells cur e f := by simpa [Array.getElem?_eq_getElem hlt] using h
  show (w.heap.modify g _)[g]? = _
  rw [Array.getElem?_eq_getElem (by simpa using hlt), Array.getElem_modify_self, h']
  simp [Array.setIfInBounds, go_sem]
theorem mk_free {w : World} {g k cap : Nat} {cur : Array Value} {f : Nat × Nat} (h : w.heap[g]? = some (.cells cur 5 f)) (hf : f = (0, 0) ∨ cap ≤ f.1) (hk : k < cap) : w.frozen? ⟨g, k, none⟩ = false := by
  rcases hf with rfl | hf
  · simp [World.frozen?, h]
  · simp [World.frozen?, h]
    omega
theorem Mk.cell {w : World} {B g cap : Nat} {l : List UInt8} (h : Mk w B (.slice (some ⟨g, 0, none⟩) l.length cap) l) {k : Nat} {x : UInt8} (hx : l[k]? = some x) : w.cell? ⟨g, k, none⟩ = some (.int .u8 x.toNat) ∧ w.frozen? ⟨g, k, none⟩ = false := by
  have hk := (List.getElem?_eq_some_iff.1 hx).1
  obtain ⟨g', cap', cur, f, hs, h1, h2, h3, h4, h5, h6, h7⟩ := h
  simp only [Value.slice.injEq, Option.some.injEq, Addr.mk.injEq, and_true, true_and] at hs
  obtain ⟨rfl, rfl⟩ := hs
  refine ⟨?_, mk_free h2 h3 (by omega)⟩
  rw [cell_of_row w g k cur 5 f h2]
  have e := c8_get hx
  rw [← h7, List.getElem?_take_of_lt hk] at e
  simpa using e
theorem Mk.set {w : World} {B g cap : Nat} {l : List UInt8} (h : Mk w B (.slice (some ⟨g, 0, none⟩) l.length cap) l) (k : Nat) (x : UInt8) : Mk (w.setCell ⟨g, k, none⟩ (.int .u8 x.toNat)) B (.slice (some ⟨g, 0, none⟩) l.length cap) (l.set k x) := by
  obtain ⟨g', cap', cur, f, hs, h1, h2, h3, h4, h5, h6, h7⟩ := h
  simp only [Value.slice.injEq, Option.some.injEq, Addr.mk.injEq, and_true, true_and] at hs
  obtain ⟨rfl, rfl⟩ := hs
  refine ⟨g, cap, _, f, by rw [List.length_set], h1, heap_set h2 _, h3, by rw [List.length_set]; exact h4, h5, by simp; exact h6, ?_⟩
  rw [List.length_set, Array.toList_setIfInBounds, List.take_set, h7, c8_set]
set_option maxHeartbeats 1000000 in
theorem run_append_mk (w : World) (ty : TypeId) (B : Nat) (v : Value) (l : List UInt8) (h : Mk w B v l) (gx cx : Nat) (x : UInt8) (hx : w.cell? ⟨gx, 0, none⟩ = some (.int .u8 x.toNat)) (hn : l.length ≤ 10000000) (hB : B ≤ w.heap.size) :
    ∃ v' w', (Builtin.append_ #[72, 72] ty #[v, .slice (some ⟨gx, 0, none⟩) 1 cx]).run Tryz.prog w = .ok v' w' ∧ Mk w' B v' (l ++ [x]) ∧ w.grownBy w' v.ownBlock := by
  obtain ⟨i0, hi, hz0, hz1, hz2⟩ := info_parts infoB
  obtain ⟨g, cap, cur, f, rfl, h1, h2, h3, h4, h5, h6, h7⟩ := h
  have hnews : ∀ j u, [Value.int .u8 x.toNat][j]? = some u → w.cell? ((⟨gx, 0, none⟩ : Addr).add j) = some u := by
    intro j u hu
    cases j with
    | zero => simp at hu; rw [← hu, add_addr]; exact hx
    | succ j => simp at hu
  have hll : (l ++ [x]).length = l.length + 1 := by simp
  by_cases hroom : l.length + 1 ≤ cap
  · have hf := run_firstCells_some (P := Tryz.prog) w 1 1 ⟨gx, 0, none⟩ 1 cx [.int .u8 x.toNat] rfl hnews
    have hlt : l.length < cur.size := by omega
    have hcell : w.cell? ⟨g, l.length, none⟩ = some (cur[l.length]) := by rw [cell_of_row w g _ cur 5 f h2, Array.getElem?_eq_getElem hlt]
    have hfr := mk_free h2 h3 (show l.length < cap by omega)
    have hst : (storeCells ⟨g, l.length, none⟩ [Value.int .u8 x.toNat]).run Tryz.prog w = .ok () (w.setCell ⟨g, l.length, none⟩ (.int .u8 x.toNat)) := by
      simp [storeCells, Addr.add_lit, run_store_int, stored, hcell, hfr]
    refine ⟨.slice (some ⟨g, 0, none⟩) (l.length + 1) cap, w.setCell ⟨g, l.length, none⟩ (.int .u8 x.toNat), ?_, ⟨g, cap, _, f, by rw [hll], h1, heap_set h2 _, h3, by omega, h5, by simp; exact h6, ?_⟩, ?_⟩
    · simp [Builtin.append_, run_underlying Tryz.underlying72, sizeOf, typeInfo, hi, hz1, Builtin.lenOf, hroom, hf, Addr.add_lit, hst]
    · rw [hll, Array.toList_setIfInBounds]
      have hlc : l.length < cur.toList.length := by simpa using hlt
      rw [List.take_succ_eq_append_getElem (by rw [List.length_set]; exact hlc), List.take_set, List.getElem_set_self, List.set_eq_of_length_le (by rw [List.length_take]; omega), h7]
      simp [c8]
    · exact ⟨rfl, rfl, rfl, by simp [go_sem], fun k _ hk => Below.heap_setCell w ⟨g, l.length, none⟩ _ k (fun e => hk (by rw [e]; rfl))⟩
  · have holds : ∀ j u, (c8 l)[j]? = some u → w.cell? ((⟨g, 0, none⟩ : Addr).add j) = some u := by
      intro j u hu
      rw [add_addr, Nat.zero_add, cell_of_row w g j cur 5 f h2]
      rw [← h7, List.getElem?_take] at hu
      split at hu
      · simpa using hu
      · cases hu
    have hr := run_append_grow (P := Tryz.prog) w 72 ty 5 i0 (.int .u8 0) Tryz.underlying72 hi hz0 ⟨g, 0, none⟩ l.length cap (c8 l) (by rw [hz1]; simp) holds ⟨gx, 0, none⟩ 1 cx [.int .u8 x.toNat] (by rw [hz1]; rfl) hnews (by omega) (by omega) (growslice_fits (by omega) (by rw [hz2]; omega))
    have hge := grownCap_ge w (l.length + 1) cap 5
    have hcm : grownCap w (l.length + 1) cap 5 ≤ maxLen := grownCap_le_maxLen w (l.length + 1) cap 5 (by unfold maxLen; omega)
    refine ⟨_, _, hr, ⟨w.heap.size, _, _, (0, 0), by rw [hll], hB, heap_alloc_new w.drew _, .inl rfl, by rw [hll]; exact hge, hcm, ?_, ?_⟩, ⟨rfl, rfl, rfl, by simp, fun k hk _ => _root_.Go.heap_alloc_old w.drew _ (by simpa using hk)⟩⟩
    · rw [zc_list]; simp; omega
    · rw [zc_list]
      simp only [Array.toList_append]
      rw [show c8 l ++ [Value.int .u8 x.toNat] = c8 (l ++ [x]) by simp [c8], show (l ++ [x]).length = (c8 (l ++ [x])).length by simp]
      exact List.take_left
theorem appM {w : World} {ops : Array Oper} {rest : List Oper} {o : Oper} {a : Act} {Q : Exit → Act → World → Prop} (hgd : o.guard = none) (s x : Operand)
    (ho : o.op = .call { callee := .builtin .append, args := #[s, x], argTypes := #[72, 72] }) (B : Nat) (v : Value) (l : List UInt8) (hs : a.eval s = v) (h : Mk w B v l)
    (gx cx : Nat) (b : UInt8) (hx : a.eval x = .slice (some ⟨gx, 0, none⟩) 1 cx) (hc : w.cell? ⟨gx, 0, none⟩ = some (.int .u8 b.toNat)) (hn : l.length ≤ 10000000) (hB : B ≤ w.heap.size)
    (hK : ∀ v' w', Hid (Mk w' B v' (l ++ [b])) → Hid (w.grownBy w' v.ownBlock) → wpList Tryz.prog ops Q rest (a.put o.dst v') w') :
    wpList Tryz.prog ops Q (o :: rest) a w := by
  refine wpList_plain hgd fun K hK' => ?_
  obtain ⟨v', w', hr, h2, h3⟩ := run_append_mk w o.type B v l h gx cx b hc hn hB
  unfold Oper.wp execOp
  simp only [ho, resolve, invoke, builtin, Sem.run_bind, Sem.run_pure, Result.andThen_ok, List.map_toArray, List.map_cons, List.map_nil, hs, hx, hr]
  exact hK' _ _ (hK v' w' h2 h3)
def TexR (r : Option (List UInt8)) (w : World) (e : Ending) (w' : World) : Prop :=
  Below w.heap.size w w' ∧
  match r with
  | none => e = .returned (.tuple #[.slice none 0 0, .int .i64 1])
  | some l => ∃ v, e = .returned (.tuple #[v, .int .i64 0]) ∧ RdV w' v l
theorem conv_mk {W' : World} {g : Nat} {s : ByteArray} {cap : Nat} (B : Nat) (hB : B ≤ g) (h1 : s.size ≤ cap) (h2 : cap ≤ maxLen) (h : ∃ cur f, W'.heap[g]? = some (.cells cur 5 f) ∧ cur.size ≤ f.1 ∧ cur.size = cap ∧ cur.toList.take s.size = c8 s.data.toList) : Mk W' B (.slice (some ⟨g, 0, none⟩) s.size cap) s.data.toList := by
  obtain ⟨cur, f, h3, h4, h5, h6⟩ := h
  exact ⟨g, cap, cur, f, rfl, hB, h3, .inr (by omega), h1, h2, h5, h6⟩
set_option maxRecDepth 100000 in
set_option maxHeartbeats 2000000 in
theorem t64_Hall (c : UInt8) (gt : Bool) (k : Int) (s : ByteArray) (w : World) (hc : c = 72) (hk : k = -1) (hs : s.size ≤ 1200000) :
    Calls Tryz.prog 64 #[.agg #[.int .u8 c.toNat, .bool gt, .int .i64 k], .string s] w (TexR (hexN s.size s.data.toList) w) := by
  have e72 := u8_eq (n := 72) (k := 72) rfl hc
  have hk0 := Blk.new w #[.int .u8 c.toNat, .bool gt, .int .i64 k] 60
  have hb0 := bSelf w (.cells #[.int .u8 c.toNat, .bool gt, .int .i64 k] 60)
  have C43 := fun W => t43_all s W hs
  subst hk
  clear hc
  cases hr : hexN s.size s.data.toList with
  | none =>
    rw [hr] at C43
    clear hr
    go_enter Tryz.func64, Tryz.ntmps64
    go_upto_region 1 with fail
    generalize w.alloc (.cells #[.int .u8 c.toNat, .bool gt, .int .i64 (-1)] 60) = W at *
    have d0 := hk0.cell 0 rfl
    have d2 := hk0.cell 2 rfl
    have HB0 := Lib.hid hb0
    clear hb0 hk0
    go_wp2_with fail
    refine (C43 _).mono ?_
    rintro e1 w1 ⟨hb1, rfl⟩
    have HB1 := Lib.hid (bThen HB0.out hb1)
    clear hb1
    go_wp2
    go_ret2
    exact ⟨HB1.out, rfl⟩
  | some b =>
    rw [hr] at C43
    clear hr
    go_enter Tryz.func64, Tryz.ntmps64
    go_upto_region 1 with fail
    generalize w.alloc (.cells #[.int .u8 c.toNat, .bool gt, .int .i64 (-1)] 60) = W at *
    have d0 := hk0.cell 0 rfl
    have d2 := hk0.cell 2 rfl
    have HB0 := Lib.hid hb0
    clear hb0 hk0
    go_wp2_with fail
    refine (C43 _).mono ?_
    rintro e1 w1 ⟨hb1, v1, rfl, hr1⟩
    have HB1 := Lib.hid (bThen HB0.out hb1)
    have HR1 := Lib.hid (rdV_row hr1)
    obtain ⟨a1, c1, rfl⟩ := row_slice hr1
    clear hb1 hr1
    go_wp2
    go_ret2
    exact ⟨HB1.out, _, rfl, HR1.out⟩
set_option maxRecDepth 100000 in
set_option maxHeartbeats 2000000 in
theorem t64_Hcnt (c : UInt8) (gt : Bool) (k : Int) (s : ByteArray) (w : World) (hc : c = 72) (N : Nat) (hk : (k = -2 ∧ N = 1) ∨ k = (N : Int)) (hN2 : N ≤ 1000) (hs : s.size ≤ 1200000) :
    Calls Tryz.prog 64 #[.agg #[.int .u8 c.toNat, .bool gt, .int .i64 k], .string s] w (TexR (hexN N s.data.toList) w) := by
  have e72 := u8_eq (n := 72) (k := 72) rfl hc
  have hk0 := Blk.new w #[.int .u8 c.toNat, .bool gt, .int .i64 k] 60
  have hb0 := bSelf w (.cells #[.int .u8 c.toNat, .bool gt, .int .i64 k] 60)
  have C43 := fun W => t43_cnt s N W hs hN2
  have k2 : ((N : Int) == -2) = false := by rw [beq_eq_false_iff_ne]; omega
  have hNi : (N : Int) ≤ 1000 := by omega
  clear hc
  rcases hk with ⟨rfl, rfl⟩ | rfl
  · cases hr : hexN 1 s.data.toList with
    | none =>
      rw [hr] at C43
      clear hr
      go_enter Tryz.func64, Tryz.ntmps64
      go_upto_region 1 with fail
      generalize w.alloc (.cells #[.int .u8 c.toNat, .bool gt, .int .i64 (-2)] 60) = W at *
      have d0 := hk0.cell 0 rfl
      have d2 := hk0.cell 2 rfl
      have HB0 := Lib.hid hb0
      clear hb0 hk0
      go_wp2_with fail
      refine (C43 _).mono ?_
      rintro e1 w1 ⟨hb1, rfl⟩
      have HB1 := Lib.hid (bThen HB0.out hb1)
      clear hb1
      go_wp2
      go_ret2
      exact ⟨HB1.out, rfl⟩
    | some b =>
      rw [hr] at C43
      clear hr
      go_enter Tryz.func64, Tryz.ntmps64
      go_upto_region 1 with fail
      generalize w.alloc (.cells #[.int .u8 c.toNat, .bool gt, .int .i64 (-2)] 60) = W at *
      have d0 := hk0.cell 0 rfl
      have d2 := hk0.cell 2 rfl
      have HB0 := Lib.hid hb0
      clear hb0 hk0
      go_wp2_with fail
      refine (C43 _).mono ?_
      rintro e1 w1 ⟨hb1, v1, rfl, hr1⟩
      have HB1 := Lib.hid (bThen HB0.out hb1)
      have HR1 := Lib.hid (rdV_row hr1)
      obtain ⟨a1, c1, rfl⟩ := row_slice hr1
      clear hb1 hr1
      go_wp2
      go_ret2
      exact ⟨HB1.out, _, rfl, HR1.out⟩
  · cases hr : hexN N s.data.toList with
    | none =>
      rw [hr] at C43
      clear hr
      go_enter Tryz.func64, Tryz.ntmps64
      go_upto_region 1 with fail
      generalize w.alloc (.cells #[.int .u8 c.toNat, .bool gt, .int .i64 (N : Int)] 60) = W at *
      have d0 := hk0.cell 0 rfl
      have d2 := hk0.cell 2 rfl
      have HB0 := Lib.hid hb0
      clear hb0 hk0
      go_wp2_with fail
      refine (C43 _).mono ?_
      rintro e1 w1 ⟨hb1, rfl⟩
      have HB1 := Lib.hid (bThen HB0.out hb1)
      clear hb1
      go_wp2
      go_ret2
      exact ⟨HB1.out, rfl⟩
    | some b =>
      rw [hr] at C43
      clear hr
      go_enter Tryz.func64, Tryz.ntmps64
      go_upto_region 1 with fail
      generalize w.alloc (.cells #[.int .u8 c.toNat, .bool gt, .int .i64 (N : Int)] 60) = W at *
      have d0 := hk0.cell 0 rfl
      have d2 := hk0.cell 2 rfl
      have HB0 := Lib.hid hb0
      clear hb0 hk0
      go_wp2_with fail
      refine (C43 _).mono ?_
      rintro e1 w1 ⟨hb1, v1, rfl, hr1⟩
      have HB1 := Lib.hid (bThen HB0.out hb1)
      have HR1 := Lib.hid (rdV_row hr1)
      obtain ⟨a1, c1, rfl⟩ := row_slice hr1
      clear hb1 hr1
      go_wp2
      go_ret2
      exact ⟨HB1.out, _, rfl, HR1.out⟩
set_option maxRecDepth 100000 in
set_option maxHeartbeats 2000000 in
theorem t64_all (c : UInt8) (gt : Bool) (k : Int) (s : ByteArray) (w : World) (h72 : c ≠ 72) (hk : k = -1) (hs : s.size ≤ 1200000) :
    Calls Tryz.prog 64 #[.agg #[.int .u8 c.toNat, .bool gt, .int .i64 k], .string s] w (TexR (some (if c = 90 then s.data.toList ++ [0] else s.data.toList)) w) := by
  have hsi : (s.size : Int) ≤ 1200000 := by omega
  have hsl : s.data.toList.length = s.size := rfl
  have hk0 := Blk.new w #[.int .u8 c.toNat, .bool gt, .int .i64 k] 60
  have hb0 := bSelf w (.cells #[.int .u8 c.toNat, .bool gt, .int .i64 k] 60)
  have e72 := u8_ne (n := 72) (k := 72) rfl h72
  subst hk
  by_cases h90 : c = 90
  · have e90 := u8_eq (n := 90) (k := 90) rfl h90
    rw [if_pos h90]
    clear h72 h90
    go_enter Tryz.func64, Tryz.ntmps64
    go_upto_region 1 with fail
    generalize w.alloc (.cells #[.int .u8 c.toNat, .bool gt, .int .i64 (-1)] 60) = W at *
    obtain ⟨cap, W1, hcv, hb1, -, -, hcap, hcm, hcur⟩ := conv_sb W s (by omega)
    have HMK := Lib.hid (conv_mk (w.heap.size + 1) (by have := hk0.lt; omega) hcap hcm hcur)
    have HB1 := Lib.hid (bThen hb0 hb1)
    have HK1 := Lib.hid (blkDown hk0 hb1)
    have hcapi : (s.size : Int) ≤ cap := by omega
    obtain ⟨g, hg⟩ : ∃ g, W.heap.size = g := ⟨_, rfl⟩
    rw [hg] at hcv HMK
    have HGW : Hid (w.heap.size ≤ g) := by show _ ≤ _; have := hb0.size; omega
    have d0 := hk0.cell 0 rfl
    have d2 := hk0.cell 2 rfl
    have x0 := HK1.out.cell 0 rfl
    have x2 := HK1.out.cell 2 rfl
    clear hb0 hk0 hb1 hcur hg
    have HM2 := Lib.hid (HMK.out.below (bSelf W1 (.cells #[.int .u8 (0 : UInt8).toNat] 5)))
    have HC2 : Hid ((W1.alloc (.cells #[.int .u8 (0 : UInt8).toNat] 5)).cell? ⟨W1.heap.size, 0, none⟩ = some (.int .u8 (0 : UInt8).toNat)) := (newAt W1 #[.int .u8 (0 : UInt8).toNat] 5 _ (c8 [0]) rfl rfl).cell 0 rfl
    have hn : s.data.toList.length ≤ 10000000 := by omega
    have HBS : Hid (w.heap.size + 1 ≤ (W1.alloc (.cells #[.int .u8 (0 : UInt8).toNat] 5)).heap.size) := by show _ ≤ _; have := HK1.out.lt; simp only [World.alloc, Array.size_push]; omega
    have HBZ : Hid (w.heap.size ≤ (W1.alloc (.cells #[.int .u8 (0 : UInt8).toNat] 5)).heap.size) := (bAl HB1.out _).size
    clear hsl hcm
    go_wp2_with (at_builtin; refine appM rfl _ _ rfl (w.heap.size + 1) (.slice (some ⟨g, 0, none⟩) s.size cap) s.data.toList rfl HM2.out W1.heap.size 1 0 rfl HC2.out hn HBS.out ?_; intro v6 w6 hm6 hgrow6; obtain ⟨g6, c6, rfl, -⟩ := hm6.out.slice)
    have HB6 : Hid (Below w.heap.size w w6) := (bAl HB1.out _).grown hgrow6.out HBZ.out (fun j hj => by cases hj; exact HGW.out)
    clear hgrow6
    have hrd6 : RdV w6 (.slice (some ⟨g6, 0, none⟩) (s.size + 1) c6) (s.data.toList ++ [0]) := by
      have h := hm6.out.rd
      rwa [show (s.data.toList ++ [(0 : UInt8)]).length = s.size + 1 by simp] at h
    have HRD6 := Lib.hid hrd6
    clear hrd6
    go_ret2
    exact ⟨HB6.out, _, rfl, HRD6.out⟩
  · have e90 := u8_ne (n := 90) (k := 90) rfl h90
    rw [if_neg h90]
    clear h72 h90
    go_enter Tryz.func64, Tryz.ntmps64
    go_upto_region 1 with fail
    generalize w.alloc (.cells #[.int .u8 c.toNat, .bool gt, .int .i64 (-1)] 60) = W at *
    obtain ⟨cap, W1, hcv, hb1, -, -, hcap, hcm, hcur⟩ := conv_sb W s (by omega)
    have HMK := Lib.hid (conv_mk (w.heap.size + 1) (by have := hk0.lt; omega) hcap hcm hcur)
    have HB1 := Lib.hid (bThen hb0 hb1)
    have HK1 := Lib.hid (blkDown hk0 hb1)
    have hcapi : (s.size : Int) ≤ cap := by omega
    obtain ⟨g, hg⟩ : ∃ g, W.heap.size = g := ⟨_, rfl⟩
    rw [hg] at hcv HMK
    have HGW : Hid (w.heap.size ≤ g) := by show _ ≤ _; have := hb0.size; omega
    have d0 := hk0.cell 0 rfl
    have d2 := hk0.cell 2 rfl
    have x0 := HK1.out.cell 0 rfl
    have x2 := HK1.out.cell 2 rfl
    clear hb0 hk0 hb1 hcur hg
    clear hsl hcm
    go_wp2
    go_ret2
    exact ⟨HB1.out, _, rfl, HMK.out.rd⟩
def FilI (l : List UInt8) (N : Nat) (z : UInt8) (w : World) (v : Value) (wr : World) : Prop :=
  ∃ m : Nat, l.length + m ≤ max N l.length ∧ Hid (Mk wr w.heap.size v (l ++ List.replicate m z)) ∧ Hid (Below w.heap.size w wr)
theorem mk_same {w : World} {B : Nat} {v : Value} {l l' : List UInt8} (h : Mk w B v l) (e : l = l') : Mk w B v l' := e ▸ h
def lenV : Value → Nat | .slice _ n _ => n | _ => 0
theorem set_last (l : List UInt8) (n : Nat) (x : UInt8) (h : (l.take n).length = n) (hn : 1 ≤ n) : (l.take n).set (n - 1) x = l.take (n - 1) ++ [x] := by
  obtain ⟨m, rfl⟩ : ∃ m, n = m + 1 := ⟨n - 1, by omega⟩
  have hm : m < l.length := by rw [List.length_take] at h; omega
  rw [Nat.add_sub_cancel, List.take_succ_eq_append_getElem hm, List.set_append_right _ _ (by rw [List.length_take]; omega)]
  have : m - (l.take m).length = 0 := by rw [List.length_take]; omega
  rw [this]; rfl
set_option maxRecDepth 100000 in
set_option maxHeartbeats 4000000 in
theorem t64_cnt (c : UInt8) (gt : Bool) (k : Int) (N : Nat) (s : ByteArray) (w : World) (h72 : c ≠ 72) (hk : (k = -2 ∧ N = 1) ∨ k = (N : Int)) (hN : 1 ≤ N) (hN2 : N ≤ 1000) (hs : s.size ≤ 1200000) :
    Calls Tryz.prog 64 #[.agg #[.int .u8 c.toNat, .bool gt, .int .i64 k], .string s] w (TexR (some (if N < s.data.toList.length then (if c = 90 then s.data.toList.take (N - 1) ++ [0] else s.data.toList.take N) else s.data.toList ++ List.replicate (N - s.data.toList.length) (if c = 65 then 32 else 0))) w) := by
  have hsi : (s.size : Int) ≤ 1200000 := by omega
  have hsl : s.data.toList.length = s.size := rfl
  have hk0 := Blk.new w #[.int .u8 c.toNat, .bool gt, .int .i64 k] 60
  have hb0 := bSelf w (.cells #[.int .u8 c.toNat, .bool gt, .int .i64 k] 60)
  have e72 := u8_ne (n := 72) (k := 72) rfl h72
  have k1 : ((N : Int) == -1) = false := by rw [beq_eq_false_iff_ne]; omega
  have k2 : ((N : Int) == -2) = false := by rw [beq_eq_false_iff_ne]; omega
  have hNi : (N : Int) ≤ 1000 := by omega
  have hN1 : (1 : Int) ≤ N := by omega
  rcases hk with ⟨rfl, rfl⟩ | rfl
  · by_cases hlt : 1 < s.size
    · have hlti : (1 : Int) < (s.size : Int) := by omega
      have hni : (1 : Int) ≤ (s.size : Int) := by omega
      have hlen : (s.data.toList.take 1).length = 1 := by rw [List.length_take]; omega
      have HLT : Hid (1 ≤ s.data.toList.length) := by show _ ≤ _; omega
      by_cases h90 : c = 90
      · have HFE : Hid ((if 1 < s.data.toList.length then (if c = 90 then s.data.toList.take (1 - 1) ++ [0] else s.data.toList.take 1) else s.data.toList ++ List.replicate (1 - s.data.toList.length) (if c = 65 then 32 else 0)) = s.data.toList.take (1 - 1) ++ [0]) := by show _ = _; rw [if_pos (by omega), if_pos h90]
        rw [HFE.out]
        have H90 := Lib.hid h90
        clear HFE h90
        go_enter Tryz.func64, Tryz.ntmps64
        go_upto_region 1 with fail
        generalize w.alloc (.cells #[.int .u8 c.toNat, .bool gt, .int .i64 (-2)] 60) = W at *
        obtain ⟨cap, W1, hcv, hb1, -, -, hcap, hcm, hcur⟩ := conv_sb W s (by omega)
        have HMK := Lib.hid (conv_mk (w.heap.size + 1) (by have := hk0.lt; omega) hcap hcm hcur)
        have HB1 := Lib.hid (bThen hb0 hb1)
        have HK1 := Lib.hid (blkDown hk0 hb1)
        have hcapi : (s.size : Int) ≤ cap := by omega
        obtain ⟨g, hg⟩ : ∃ g, W.heap.size = g := ⟨_, rfl⟩
        rw [hg] at hcv HMK
        have HGW : Hid (w.heap.size ≤ g) := by show _ ≤ _; have := hb0.size; omega
        have d0 := hk0.cell 0 rfl
        have d2 := hk0.cell 2 rfl
        have x0 := HK1.out.cell 0 rfl
        have x2 := HK1.out.cell 2 rfl
        clear hb0 hk0 hb1 hcur hg
        have e90 := u8_eq (n := 90) (k := 90) rfl H90.out
        have HT := Lib.hid (HMK.out.take HLT.out)
        have hnc : (1 : Int) ≤ (cap : Int) := by omega
        obtain ⟨y, hy⟩ : ∃ y, (s.data.toList.take 1)[0]? = some y := ⟨_, List.getElem?_eq_getElem (by omega)⟩
        have HT2 : Hid (Mk W1 (w.heap.size + 1) (.slice (some ⟨g, 0, none⟩) (s.data.toList.take 1).length cap) (s.data.toList.take 1)) := by show Mk _ _ _ _; rw [hlen]; exact HT.out
        obtain ⟨hcell, hfr⟩ := HT2.out.cell hy
        have hst := HT2.out.set (0) 0
        have HST : Hid (Mk (W1.setCell ⟨g, 0, none⟩ (.int .u8 0)) (w.heap.size + 1) (.slice (some ⟨g, 0, none⟩) 1 cap) (s.data.toList.take (1 - 1) ++ [0])) := by
          rw [hlen] at hst
          exact mk_same (l := (s.data.toList.take 1).set (0) 0) hst (set_last s.data.toList 1 0 hlen hN)
        have HBT : Hid (Below w.heap.size w (W1.setCell ⟨g, 0, none⟩ (.int .u8 0))) := bSet HB1.out g (0) HGW.out _
        have hm1 : (1 : Int) - 1 = ((0 : Nat) : Int) := by omega
        have hm2 : ((1 : Int) - 1).toNat = 0 := by omega
        have hm3 : ((0 : Nat) : Int) < 1 := by omega
        have HRX : Hid (RdV (W1.setCell ⟨g, 0, none⟩ (.int .u8 0)) (.slice (some ⟨g, 0, none⟩) 1 cap) (s.data.toList.take (1 - 1) ++ [0])) := by
          have h := HST.out.rd
          exact h
        clear hst hy hsl hcm h72 hlen hlt hcap
        go_wp2_with fail
        go_loopw [7] (fun v wr => v = .slice (some ⟨g, 0, none⟩) 1 cap ∧ wr = W1.setCell ⟨g, 0, none⟩ (.int .u8 0)) (fun _ _ => 0)
        case atStart => exact ⟨by first | rfl | trivial, by first | rfl | trivial⟩
        case round =>
          obtain ⟨rfl, rfl⟩ := hrel
          go_wp2
          go_ret2
          exact ⟨HBT.out, _, rfl, HRX.out⟩
      · have e90 := u8_ne (n := 90) (k := 90) rfl h90
        have HFE : Hid ((if 1 < s.data.toList.length then (if c = 90 then s.data.toList.take (1 - 1) ++ [0] else s.data.toList.take 1) else s.data.toList ++ List.replicate (1 - s.data.toList.length) (if c = 65 then 32 else 0)) = s.data.toList.take 1) := by show _ = _; rw [if_pos (by omega), if_neg h90]
        rw [HFE.out]
        clear HFE
        go_enter Tryz.func64, Tryz.ntmps64
        go_upto_region 1 with fail
        generalize w.alloc (.cells #[.int .u8 c.toNat, .bool gt, .int .i64 (-2)] 60) = W at *
        obtain ⟨cap, W1, hcv, hb1, -, -, hcap, hcm, hcur⟩ := conv_sb W s (by omega)
        have HMK := Lib.hid (conv_mk (w.heap.size + 1) (by have := hk0.lt; omega) hcap hcm hcur)
        have HB1 := Lib.hid (bThen hb0 hb1)
        have HK1 := Lib.hid (blkDown hk0 hb1)
        have hcapi : (s.size : Int) ≤ cap := by omega
        obtain ⟨g, hg⟩ : ∃ g, W.heap.size = g := ⟨_, rfl⟩
        rw [hg] at hcv HMK
        have HGW : Hid (w.heap.size ≤ g) := by show _ ≤ _; have := hb0.size; omega
        have d0 := hk0.cell 0 rfl
        have d2 := hk0.cell 2 rfl
        have x0 := HK1.out.cell 0 rfl
        have x2 := HK1.out.cell 2 rfl
        clear hb0 hk0 hb1 hcur hg
        have HT := Lib.hid (HMK.out.take HLT.out)
        have hnc : (1 : Int) ≤ (cap : Int) := by omega
        clear hsl hcm h72 h90 hlen hlt hcap
        go_wp2_with fail
        go_loopw [7] (fun v wr => v = .slice (some ⟨g, 0, none⟩) 1 cap ∧ wr = W1) (fun _ _ => 0)
        case atStart => exact ⟨by first | rfl | trivial, by first | rfl | trivial⟩
        case round =>
          obtain ⟨rfl, rfl⟩ := hrel
          go_wp2
          go_ret2
          exact ⟨HB1.out, _, rfl, HT.out.rd⟩
    · have hlti : ¬ ((1 : Int) < (s.size : Int)) := by omega
      have hltd : decide ((1 : Int) < (s.size : Int)) = false := decide_eq_false hlti
      obtain ⟨z, hz⟩ : ∃ z : UInt8, (if c = 65 then (32 : UInt8) else 0) = z := ⟨_, rfl⟩
      obtain ⟨K, hK⟩ : ∃ K, 1 - s.data.toList.length = K := ⟨_, rfl⟩
      have HFE : Hid ((if 1 < s.data.toList.length then (if c = 90 then s.data.toList.take (1 - 1) ++ [0] else s.data.toList.take 1) else s.data.toList ++ List.replicate (1 - s.data.toList.length) (if c = 65 then 32 else 0)) = s.data.toList ++ List.replicate K z) := by show _ = _; rw [if_neg (by omega), hz, hK]
      rw [HFE.out]
      have HKK := Lib.hid hK
      clear HFE hK
      go_enter Tryz.func64, Tryz.ntmps64
      go_upto_region 1 with fail
      generalize w.alloc (.cells #[.int .u8 c.toNat, .bool gt, .int .i64 (-2)] 60) = W at *
      obtain ⟨cap, W1, hcv, hb1, -, -, hcap, hcm, hcur⟩ := conv_sb W s (by omega)
      have HMK := Lib.hid (conv_mk (w.heap.size + 1) (by have := hk0.lt; omega) hcap hcm hcur)
      have HB1 := Lib.hid (bThen hb0 hb1)
      have HK1 := Lib.hid (blkDown hk0 hb1)
      have hcapi : (s.size : Int) ≤ cap := by omega
      obtain ⟨g, hg⟩ : ∃ g, W.heap.size = g := ⟨_, rfl⟩
      rw [hg] at hcv HMK
      have HGW : Hid (w.heap.size ≤ g) := by show _ ≤ _; have := hb0.size; omega
      have d0 := hk0.cell 0 rfl
      have d2 := hk0.cell 2 rfl
      have x0 := HK1.out.cell 0 rfl
      have x2 := HK1.out.cell 2 rfl
      clear hb0 hk0 hb1 hcur hg
      have HMS : Hid (Mk W1 (w.heap.size + 1) (.slice (some ⟨g, 0, none⟩) s.size cap) (s.data.toList ++ List.replicate 0 z)) := mk_same HMK.out (by simp)
      have hle : s.size ≤ 1 := by omega
      have HLE := Lib.hid hle
      clear hcm h72 hlt hcap hsl hle
      go_wp2_with fail
      go_loopw [7] (fun v wr => ∃ m : Nat, s.size + m ≤ 1 ∧ Hid (Mk wr (w.heap.size + 1) v (s.data.toList ++ List.replicate m z)) ∧ Hid (Blk wr w.heap.size 60 [.int .u8 c.toNat, .bool gt, .int .i64 (-2)]) ∧ Hid (Below w.heap.size w wr)) (fun v _ => 1 - lenV v)
      case atStart => exact ⟨0, HLE.out, HMS, HK1, HB1⟩
      case round =>
        obtain ⟨m, hm, hmk, hkb, hbl⟩ := hrel
        have hlm : (s.data.toList ++ List.replicate m z).length = s.size + m := by simp
        have HLM := Lib.hid hlm
        obtain ⟨g', cap', rfl, hgg, hll, -⟩ := hmk.out.slice
        rw [hlm] at hll ⊢
        have hmk2 := hmk.out
        rw [hlm] at hmk2
        have HMK2 := Lib.hid hmk2
        have HRDX : Hid (RdV wr (.slice (some ⟨g', 0, none⟩) (s.size + m) cap') (s.data.toList ++ List.replicate m z)) := by
          have h := hmk.out.rd
          rwa [hlm] at h
        have HGG := Lib.hid hgg
        clear hmk2 hmk hlm hgg
        by_cases hq : s.size + m < 1
        · have hqi : ((s.size + m : Nat) : Int) < (1 : Int) := by omega
          have hqi2 : (s.size : Int) + m < (1 : Int) := by omega
          by_cases h65 : c = 65
          · have e65 := u8_eq (n := 65) (k := 65) rfl h65
            have hz32 : z = 32 := by rw [← hz, if_pos h65]
            subst hz32
            clear hz h65
            have x0 := hkb.out.cell 0 rfl
            have HM2 := Lib.hid (HMK2.out.below (bSelf wr (.cells #[.int .u8 (32 : UInt8).toNat] 5)))
            have HC2 : Hid ((wr.alloc (.cells #[.int .u8 (32 : UInt8).toNat] 5)).cell? ⟨wr.heap.size, 0, none⟩ = some (.int .u8 (32 : UInt8).toNat)) := (newAt wr #[.int .u8 (32 : UInt8).toNat] 5 _ (c8 [32]) rfl rfl).cell 0 rfl
            have hn : (s.data.toList ++ List.replicate m (32 : UInt8)).length ≤ 10000000 := by rw [HLM.out]; omega
            have HBS : Hid (w.heap.size + 1 ≤ (wr.alloc (.cells #[.int .u8 (32 : UInt8).toNat] 5)).heap.size) := by show _ ≤ _; have := hkb.out.lt; simp only [World.alloc, Array.size_push]; omega
            have HBZ : Hid (w.heap.size ≤ (wr.alloc (.cells #[.int .u8 (32 : UInt8).toNat] 5)).heap.size) := (bAl hbl.out _).size
            have HKA := Lib.hid (hkb.out.alloc (.cells #[.int .u8 (32 : UInt8).toNat] 5))
            go_wp2_with (at_builtin; refine appM rfl _ _ rfl (w.heap.size + 1) (.slice (some ⟨g', 0, none⟩) (s.size + m) cap') (s.data.toList ++ List.replicate m 32) rfl HM2.out wr.heap.size 1 32 rfl HC2.out hn HBS.out ?_; intro v6 w6 hm6 hgrow6; obtain ⟨g6, c6, rfl, -⟩ := hm6.out.slice)
            have HB6 : Hid (Below w.heap.size w w6) := (bAl hbl.out _).grown hgrow6.out HBZ.out (fun j hj => by cases hj; exact Nat.le_trans (Nat.le_succ _) HGG.out)
            have HK6 : Hid (Blk w6 w.heap.size 60 [.int .u8 c.toNat, .bool gt, .int .i64 (-2)]) := (Kp.grown hgrow6.out).blk HKA.out (fun h => by have h2 := Option.some.inj h; have h3 := HGG.out; dsimp only at h2; omega)
            have HM7 : Hid (Mk w6 (w.heap.size + 1) (.slice (some ⟨g6, 0, none⟩) (s.size + (m + 1)) c6) (s.data.toList ++ List.replicate (m + 1) 32)) := by
              have h := hm6.out
              have e : (s.data.toList ++ List.replicate m (32 : UInt8) ++ [32]).length = s.size + (m + 1) := by rw [List.length_append, List.length_append, List.length_replicate]; rfl
              rw [e] at h
              exact mk_same h (by rw [List.replicate_succ', List.append_assoc])
            clear hgrow6 hm6
            go_roundw
            case rel => exact ⟨m + 1, by omega, HM7, HK6, HB6⟩
            case measure => simp [lenV]; omega
          · have e65 := u8_ne (n := 65) (k := 65) rfl h65
            have hz32 : z = 0 := by rw [← hz, if_neg h65]
            subst hz32
            clear hz h65
            have x0 := hkb.out.cell 0 rfl
            have HM2 := Lib.hid (HMK2.out.below (bSelf wr (.cells #[.int .u8 (0 : UInt8).toNat] 5)))
            have HC2 : Hid ((wr.alloc (.cells #[.int .u8 (0 : UInt8).toNat] 5)).cell? ⟨wr.heap.size, 0, none⟩ = some (.int .u8 (0 : UInt8).toNat)) := (newAt wr #[.int .u8 (0 : UInt8).toNat] 5 _ (c8 [0]) rfl rfl).cell 0 rfl
            have hn : (s.data.toList ++ List.replicate m (0 : UInt8)).length ≤ 10000000 := by rw [HLM.out]; omega
            have HBS : Hid (w.heap.size + 1 ≤ (wr.alloc (.cells #[.int .u8 (0 : UInt8).toNat] 5)).heap.size) := by show _ ≤ _; have := hkb.out.lt; simp only [World.alloc, Array.size_push]; omega
            have HBZ : Hid (w.heap.size ≤ (wr.alloc (.cells #[.int .u8 (0 : UInt8).toNat] 5)).heap.size) := (bAl hbl.out _).size
            have HKA := Lib.hid (hkb.out.alloc (.cells #[.int .u8 (0 : UInt8).toNat] 5))
            go_wp2_with (at_builtin; refine appM rfl _ _ rfl (w.heap.size + 1) (.slice (some ⟨g', 0, none⟩) (s.size + m) cap') (s.data.toList ++ List.replicate m 0) rfl HM2.out wr.heap.size 1 0 rfl HC2.out hn HBS.out ?_; intro v6 w6 hm6 hgrow6; obtain ⟨g6, c6, rfl, -⟩ := hm6.out.slice)
            have HB6 : Hid (Below w.heap.size w w6) := (bAl hbl.out _).grown hgrow6.out HBZ.out (fun j hj => by cases hj; exact Nat.le_trans (Nat.le_succ _) HGG.out)
            have HK6 : Hid (Blk w6 w.heap.size 60 [.int .u8 c.toNat, .bool gt, .int .i64 (-2)]) := (Kp.grown hgrow6.out).blk HKA.out (fun h => by have h2 := Option.some.inj h; have h3 := HGG.out; dsimp only at h2; omega)
            have HM7 : Hid (Mk w6 (w.heap.size + 1) (.slice (some ⟨g6, 0, none⟩) (s.size + (m + 1)) c6) (s.data.toList ++ List.replicate (m + 1) 0)) := by
              have h := hm6.out
              have e : (s.data.toList ++ List.replicate m (0 : UInt8) ++ [0]).length = s.size + (m + 1) := by rw [List.length_append, List.length_append, List.length_replicate]; rfl
              rw [e] at h
              exact mk_same h (by rw [List.replicate_succ', List.append_assoc])
            clear hgrow6 hm6
            go_roundw
            case rel => exact ⟨m + 1, by omega, HM7, HK6, HB6⟩
            case measure => simp [lenV]; omega
        · have hqi : ¬ (((s.size + m : Nat) : Int) < (1 : Int)) := by omega
          have hqi2 : ¬ ((s.size : Int) + m < (1 : Int)) := by omega
          have hqd : decide (((s.size + m : Nat) : Int) < (1 : Int)) = false := decide_eq_false hqi
          have hqd2 : decide ((s.size : Int) + m < (1 : Int)) = false := decide_eq_false hqi2
          have hmK : K = m := by have h1 := HKK.out; have h2 : s.data.toList.length = s.size := rfl; omega
          clear HKK
          subst hmK
          clear hq hz
          go_wp2
          go_ret2
          exact ⟨hbl.out, _, rfl, HRDX.out⟩
  · by_cases hlt : N < s.size
    · have hlti : (N : Int) < (s.size : Int) := by omega
      have hni : (N : Int) ≤ (s.size : Int) := by omega
      have hlen : (s.data.toList.take N).length = N := by rw [List.length_take]; omega
      have HLT : Hid (N ≤ s.data.toList.length) := by show _ ≤ _; omega
      by_cases h90 : c = 90
      · have HFE : Hid ((if N < s.data.toList.length then (if c = 90 then s.data.toList.take (N - 1) ++ [0] else s.data.toList.take N) else s.data.toList ++ List.replicate (N - s.data.toList.length) (if c = 65 then 32 else 0)) = s.data.toList.take (N - 1) ++ [0]) := by show _ = _; rw [if_pos (by omega), if_pos h90]
        rw [HFE.out]
        have H90 := Lib.hid h90
        clear HFE h90
        go_enter Tryz.func64, Tryz.ntmps64
        go_upto_region 1 with fail
        generalize w.alloc (.cells #[.int .u8 c.toNat, .bool gt, .int .i64 (N : Int)] 60) = W at *
        obtain ⟨cap, W1, hcv, hb1, -, -, hcap, hcm, hcur⟩ := conv_sb W s (by omega)
        have HMK := Lib.hid (conv_mk (w.heap.size + 1) (by have := hk0.lt; omega) hcap hcm hcur)
        have HB1 := Lib.hid (bThen hb0 hb1)
        have HK1 := Lib.hid (blkDown hk0 hb1)
        have hcapi : (s.size : Int) ≤ cap := by omega
        obtain ⟨g, hg⟩ : ∃ g, W.heap.size = g := ⟨_, rfl⟩
        rw [hg] at hcv HMK
        have HGW : Hid (w.heap.size ≤ g) := by show _ ≤ _; have := hb0.size; omega
        have d0 := hk0.cell 0 rfl
        have d2 := hk0.cell 2 rfl
        have x0 := HK1.out.cell 0 rfl
        have x2 := HK1.out.cell 2 rfl
        clear hb0 hk0 hb1 hcur hg
        have e90 := u8_eq (n := 90) (k := 90) rfl H90.out
        have HT := Lib.hid (HMK.out.take HLT.out)
        have hnc : (N : Int) ≤ (cap : Int) := by omega
        obtain ⟨y, hy⟩ : ∃ y, (s.data.toList.take N)[N - 1]? = some y := ⟨_, List.getElem?_eq_getElem (by omega)⟩
        have HT2 : Hid (Mk W1 (w.heap.size + 1) (.slice (some ⟨g, 0, none⟩) (s.data.toList.take N).length cap) (s.data.toList.take N)) := by show Mk _ _ _ _; rw [hlen]; exact HT.out
        obtain ⟨hcell, hfr⟩ := HT2.out.cell hy
        have hst := HT2.out.set (N - 1) 0
        have HST : Hid (Mk (W1.setCell ⟨g, N - 1, none⟩ (.int .u8 0)) (w.heap.size + 1) (.slice (some ⟨g, 0, none⟩) N cap) (s.data.toList.take (N - 1) ++ [0])) := by
          rw [hlen] at hst
          exact mk_same (l := (s.data.toList.take N).set (N - 1) 0) hst (set_last s.data.toList N 0 hlen hN)
        have HBT : Hid (Below w.heap.size w (W1.setCell ⟨g, N - 1, none⟩ (.int .u8 0))) := bSet HB1.out g (N - 1) HGW.out _
        have hm1 : (N : Int) - 1 = ((N - 1 : Nat) : Int) := by omega
        have hm2 : ((N : Int) - 1).toNat = N - 1 := by omega
        have hm3 : ((N - 1 : Nat) : Int) < N := by omega
        have HRX : Hid (RdV (W1.setCell ⟨g, N - 1, none⟩ (.int .u8 0)) (.slice (some ⟨g, 0, none⟩) N cap) (s.data.toList.take (N - 1) ++ [0])) := by
          have h := HST.out.rd
          exact h
        clear hst hy hsl hcm h72 hlen hlt hcap
        go_wp2_with fail
        go_loopw [7] (fun v wr => v = .slice (some ⟨g, 0, none⟩) N cap ∧ wr = W1.setCell ⟨g, N - 1, none⟩ (.int .u8 0)) (fun _ _ => 0)
        case atStart => exact ⟨by first | rfl | trivial, by first | rfl | trivial⟩
        case round =>
          obtain ⟨rfl, rfl⟩ := hrel
          go_wp2
          go_ret2
          exact ⟨HBT.out, _, rfl, HRX.out⟩
      · have e90 := u8_ne (n := 90) (k := 90) rfl h90
        have HFE : Hid ((if N < s.data.toList.length then (if c = 90 then s.data.toList.take (N - 1) ++ [0] else s.data.toList.take N) else s.data.toList ++ List.replicate (N - s.data.toList.length) (if c = 65 then 32 else 0)) = s.data.toList.take N) := by show _ = _; rw [if_pos (by omega), if_neg h90]
        rw [HFE.out]
        clear HFE
        go_enter Tryz.func64, Tryz.ntmps64
        go_upto_region 1 with fail
        generalize w.alloc (.cells #[.int .u8 c.toNat, .bool gt, .int .i64 (N : Int)] 60) = W at *
        obtain ⟨cap, W1, hcv, hb1, -, -, hcap, hcm, hcur⟩ := conv_sb W s (by omega)
        have HMK := Lib.hid (conv_mk (w.heap.size + 1) (by have := hk0.lt; omega) hcap hcm hcur)
        have HB1 := Lib.hid (bThen hb0 hb1)
        have HK1 := Lib.hid (blkDown hk0 hb1)
        have hcapi : (s.size : Int) ≤ cap := by omega
        obtain ⟨g, hg⟩ : ∃ g, W.heap.size = g := ⟨_, rfl⟩
        rw [hg] at hcv HMK
        have HGW : Hid (w.heap.size ≤ g) := by show _ ≤ _; have := hb0.size; omega
        have d0 := hk0.cell 0 rfl
        have d2 := hk0.cell 2 rfl
        have x0 := HK1.out.cell 0 rfl
        have x2 := HK1.out.cell 2 rfl
        clear hb0 hk0 hb1 hcur hg
        have HT := Lib.hid (HMK.out.take HLT.out)
        have hnc : (N : Int) ≤ (cap : Int) := by omega
        clear hsl hcm h72 h90 hlen hlt hcap
        go_wp2_with fail
        go_loopw [7] (fun v wr => v = .slice (some ⟨g, 0, none⟩) N cap ∧ wr = W1) (fun _ _ => 0)
        case atStart => exact ⟨by first | rfl | trivial, by first | rfl | trivial⟩
        case round =>
          obtain ⟨rfl, rfl⟩ := hrel
          go_wp2
          go_ret2
          exact ⟨HB1.out, _, rfl, HT.out.rd⟩
    · have hlti : ¬ ((N : Int) < (s.size : Int)) := by omega
      have hltd : decide ((N : Int) < (s.size : Int)) = false := decide_eq_false hlti
      obtain ⟨z, hz⟩ : ∃ z : UInt8, (if c = 65 then (32 : UInt8) else 0) = z := ⟨_, rfl⟩
      obtain ⟨K, hK⟩ : ∃ K, N - s.data.toList.length = K := ⟨_, rfl⟩
      have HFE : Hid ((if N < s.data.toList.length then (if c = 90 then s.data.toList.take (N - 1) ++ [0] else s.data.toList.take N) else s.data.toList ++ List.replicate (N - s.data.toList.length) (if c = 65 then 32 else 0)) = s.data.toList ++ List.replicate K z) := by show _ = _; rw [if_neg (by omega), hz, hK]
      rw [HFE.out]
      have HKK := Lib.hid hK
      clear HFE hK
      go_enter Tryz.func64, Tryz.ntmps64
      go_upto_region 1 with fail
      generalize w.alloc (.cells #[.int .u8 c.toNat, .bool gt, .int .i64 (N : Int)] 60) = W at *
      obtain ⟨cap, W1, hcv, hb1, -, -, hcap, hcm, hcur⟩ := conv_sb W s (by omega)
      have HMK := Lib.hid (conv_mk (w.heap.size + 1) (by have := hk0.lt; omega) hcap hcm hcur)
      have HB1 := Lib.hid (bThen hb0 hb1)
      have HK1 := Lib.hid (blkDown hk0 hb1)
      have hcapi : (s.size : Int) ≤ cap := by omega
      obtain ⟨g, hg⟩ : ∃ g, W.heap.size = g := ⟨_, rfl⟩
      rw [hg] at hcv HMK
      have HGW : Hid (w.heap.size ≤ g) := by show _ ≤ _; have := hb0.size; omega
      have d0 := hk0.cell 0 rfl
      have d2 := hk0.cell 2 rfl
      have x0 := HK1.out.cell 0 rfl
      have x2 := HK1.out.cell 2 rfl
      clear hb0 hk0 hb1 hcur hg
      have HMS : Hid (Mk W1 (w.heap.size + 1) (.slice (some ⟨g, 0, none⟩) s.size cap) (s.data.toList ++ List.replicate 0 z)) := mk_same HMK.out (by simp)
      have hle : s.size ≤ N := by omega
      have HLE := Lib.hid hle
      clear hcm h72 hlt hcap hsl hle
      go_wp2_with fail
      go_loopw [7] (fun v wr => ∃ m : Nat, s.size + m ≤ N ∧ Hid (Mk wr (w.heap.size + 1) v (s.data.toList ++ List.replicate m z)) ∧ Hid (Blk wr w.heap.size 60 [.int .u8 c.toNat, .bool gt, .int .i64 (N : Int)]) ∧ Hid (Below w.heap.size w wr)) (fun v _ => N - lenV v)
      case atStart => exact ⟨0, HLE.out, HMS, HK1, HB1⟩
      case round =>
        obtain ⟨m, hm, hmk, hkb, hbl⟩ := hrel
        have hlm : (s.data.toList ++ List.replicate m z).length = s.size + m := by simp
        have HLM := Lib.hid hlm
        obtain ⟨g', cap', rfl, hgg, hll, -⟩ := hmk.out.slice
        rw [hlm] at hll ⊢
        have hmk2 := hmk.out
        rw [hlm] at hmk2
        have HMK2 := Lib.hid hmk2
        have HRDX : Hid (RdV wr (.slice (some ⟨g', 0, none⟩) (s.size + m) cap') (s.data.toList ++ List.replicate m z)) := by
          have h := hmk.out.rd
          rwa [hlm] at h
        have HGG := Lib.hid hgg
        clear hmk2 hmk hlm hgg
        by_cases hq : s.size + m < N
        · have hqi : ((s.size + m : Nat) : Int) < (N : Int) := by omega
          have hqi2 : (s.size : Int) + m < (N : Int) := by omega
          by_cases h65 : c = 65
          · have e65 := u8_eq (n := 65) (k := 65) rfl h65
            have hz32 : z = 32 := by rw [← hz, if_pos h65]
            subst hz32
            clear hz h65
            have x0 := hkb.out.cell 0 rfl
            have HM2 := Lib.hid (HMK2.out.below (bSelf wr (.cells #[.int .u8 (32 : UInt8).toNat] 5)))
            have HC2 : Hid ((wr.alloc (.cells #[.int .u8 (32 : UInt8).toNat] 5)).cell? ⟨wr.heap.size, 0, none⟩ = some (.int .u8 (32 : UInt8).toNat)) := (newAt wr #[.int .u8 (32 : UInt8).toNat] 5 _ (c8 [32]) rfl rfl).cell 0 rfl
            have hn : (s.data.toList ++ List.replicate m (32 : UInt8)).length ≤ 10000000 := by rw [HLM.out]; omega
            have HBS : Hid (w.heap.size + 1 ≤ (wr.alloc (.cells #[.int .u8 (32 : UInt8).toNat] 5)).heap.size) := by show _ ≤ _; have := hkb.out.lt; simp only [World.alloc, Array.size_push]; omega
            have HBZ : Hid (w.heap.size ≤ (wr.alloc (.cells #[.int .u8 (32 : UInt8).toNat] 5)).heap.size) := (bAl hbl.out _).size
            have HKA := Lib.hid (hkb.out.alloc (.cells #[.int .u8 (32 : UInt8).toNat] 5))
            go_wp2_with (at_builtin; refine appM rfl _ _ rfl (w.heap.size + 1) (.slice (some ⟨g', 0, none⟩) (s.size + m) cap') (s.data.toList ++ List.replicate m 32) rfl HM2.out wr.heap.size 1 32 rfl HC2.out hn HBS.out ?_; intro v6 w6 hm6 hgrow6; obtain ⟨g6, c6, rfl, -⟩ := hm6.out.slice)
            have HB6 : Hid (Below w.heap.size w w6) := (bAl hbl.out _).grown hgrow6.out HBZ.out (fun j hj => by cases hj; exact Nat.le_trans (Nat.le_succ _) HGG.out)
            have HK6 : Hid (Blk w6 w.heap.size 60 [.int .u8 c.toNat, .bool gt, .int .i64 (N : Int)]) := (Kp.grown hgrow6.out).blk HKA.out (fun h => by have h2 := Option.some.inj h; have h3 := HGG.out; dsimp only at h2; omega)
            have HM7 : Hid (Mk w6 (w.heap.size + 1) (.slice (some ⟨g6, 0, none⟩) (s.size + (m + 1)) c6) (s.data.toList ++ List.replicate (m + 1) 32)) := by
              have h := hm6.out
              have e : (s.data.toList ++ List.replicate m (32 : UInt8) ++ [32]).length = s.size + (m + 1) := by rw [List.length_append, List.length_append, List.length_replicate]; rfl
              rw [e] at h
              exact mk_same h (by rw [List.replicate_succ', List.append_assoc])
            clear hgrow6 hm6
            go_roundw
            case rel => exact ⟨m + 1, by omega, HM7, HK6, HB6⟩
            case measure => simp [lenV]; omega
          · have e65 := u8_ne (n := 65) (k := 65) rfl h65
            have hz32 : z = 0 := by rw [← hz, if_neg h65]
            subst hz32
            clear hz h65
            have x0 := hkb.out.cell 0 rfl
            have HM2 := Lib.hid (HMK2.out.below (bSelf wr (.cells #[.int .u8 (0 : UInt8).toNat] 5)))
            have HC2 : Hid ((wr.alloc (.cells #[.int .u8 (0 : UInt8).toNat] 5)).cell? ⟨wr.heap.size, 0, none⟩ = some (.int .u8 (0 : UInt8).toNat)) := (newAt wr #[.int .u8 (0 : UInt8).toNat] 5 _ (c8 [0]) rfl rfl).cell 0 rfl
            have hn : (s.data.toList ++ List.replicate m (0 : UInt8)).length ≤ 10000000 := by rw [HLM.out]; omega
            have HBS : Hid (w.heap.size + 1 ≤ (wr.alloc (.cells #[.int .u8 (0 : UInt8).toNat] 5)).heap.size) := by show _ ≤ _; have := hkb.out.lt; simp only [World.alloc, Array.size_push]; omega
            have HBZ : Hid (w.heap.size ≤ (wr.alloc (.cells #[.int .u8 (0 : UInt8).toNat] 5)).heap.size) := (bAl hbl.out _).size
            have HKA := Lib.hid (hkb.out.alloc (.cells #[.int .u8 (0 : UInt8).toNat] 5))
            go_wp2_with (at_builtin; refine appM rfl _ _ rfl (w.heap.size + 1) (.slice (some ⟨g', 0, none⟩) (s.size + m) cap') (s.data.toList ++ List.replicate m 0) rfl HM2.out wr.heap.size 1 0 rfl HC2.out hn HBS.out ?_; intro v6 w6 hm6 hgrow6; obtain ⟨g6, c6, rfl, -⟩ := hm6.out.slice)
            have HB6 : Hid (Below w.heap.size w w6) := (bAl hbl.out _).grown hgrow6.out HBZ.out (fun j hj => by cases hj; exact Nat.le_trans (Nat.le_succ _) HGG.out)
            have HK6 : Hid (Blk w6 w.heap.size 60 [.int .u8 c.toNat, .bool gt, .int .i64 (N : Int)]) := (Kp.grown hgrow6.out).blk HKA.out (fun h => by have h2 := Option.some.inj h; have h3 := HGG.out; dsimp only at h2; omega)
            have HM7 : Hid (Mk w6 (w.heap.size + 1) (.slice (some ⟨g6, 0, none⟩) (s.size + (m + 1)) c6) (s.data.toList ++ List.replicate (m + 1) 0)) := by
              have h := hm6.out
              have e : (s.data.toList ++ List.replicate m (0 : UInt8) ++ [0]).length = s.size + (m + 1) := by rw [List.length_append, List.length_append, List.length_replicate]; rfl
              rw [e] at h
              exact mk_same h (by rw [List.replicate_succ', List.append_assoc])
            clear hgrow6 hm6
            go_roundw
            case rel => exact ⟨m + 1, by omega, HM7, HK6, HB6⟩
            case measure => simp [lenV]; omega
        · have hqi : ¬ (((s.size + m : Nat) : Int) < (N : Int)) := by omega
          have hqi2 : ¬ ((s.size : Int) + m < (N : Int)) := by omega
          have hqd : decide (((s.size + m : Nat) : Int) < (N : Int)) = false := decide_eq_false hqi
          have hqd2 : decide ((s.size : Int) + m < (N : Int)) = false := decide_eq_false hqi2
          have hmK : K = m := by have h1 := HKK.out; have h2 : s.data.toList.length = s.size := rfl; omega
          clear HKK
          subst hmK
          clear hq hz
          go_wp2
          go_ret2
          exact ⟨hbl.out, _, rfl, HRDX.out⟩
end Go.Proofs.YtmbnckmhngijdaaGreatDoor
