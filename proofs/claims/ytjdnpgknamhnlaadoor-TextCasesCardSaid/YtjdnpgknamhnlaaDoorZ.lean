/- Contracts of Reverse: the program's and the reference's. -/
import Derived.Test.YtjdnpgknamhnlaaDoorY
import Derived.Test.YtjdnpgknamhnlaaDoorT
import Derived.Deep.RegionHeld3
import Derived.Deep.AppendLies
namespace Go.Proofs.YtjdnpgknamhnlaaDoor
open Go Go.RowKit Go.Shelf

set_option maxRecDepth 100000 in
set_option maxHeartbeats 1000000 in
theorem t39_arg (s : ByteArray) (e : Int) (w : World) (hT : Lib.Utf8Tabs 0 1 w) (hs : s.size ≤ 9223372036854775807) (hbad : isEnc e = false ∨ 100000 < s.size) :
    Calls Tryd.prog 39 #[.string s, .int .i64 e] w fun e' w' => e' = .returned (.tuple #[.string ⟨#[]⟩, .int .i64 1]) ∧ Below w.heap.size w w' := by
  cases he : isEnc e with
  | false =>
    have cc := c47_no e w he
    clear he hbad
    go_enter Tryd.func39, Tryd.ntmps39
    go_wp2_with (go_at_call 47; refine cc.mono ?_; rintro e' w1 ⟨rfl, hb1⟩)
    go_ret2
    exact ⟨rfl, hb1.alloc hb1.size _⟩
  | true =>
    have hbig : 100000 < s.size := hbad.resolve_left (by simp [he])
    have cc := c47 e w hT he
    have hsm := Lib.hid (decide_eq_true hbig)
    clear he hbad
    go_enter Tryd.func39, Tryd.ntmps39
    go_wp2_with fail
    refine cc.mono ?_
    rintro e' w1 ⟨⟨c, rfl, kv, kn, kc, lb, rfl, hcod⟩, hb1⟩
    go_wp2_with fail
    refine (c48_1 s true hsm.out _ _ hs (by simp) (by simp)).mono ?_
    rintro e' w2 ⟨rfl, rfl⟩
    go_wp2
    go_ret2
    exact ⟨rfl, (hb1.alloc hb1.size _).alloc (by have := hb1.size; simp; omega) _⟩

def backP (ps : List (ByteArray × Int)) (k : Nat) : List ByteArray := (textsP (ps.drop k)).reverse
theorem backP_length (ps : List (ByteArray × Int)) (k : Nat) : (backP ps k).length = ps.length - k := by simp [backP, textsP]
theorem backP_last (ps : List (ByteArray × Int)) : backP ps ps.length = [] := by simp [backP, textsP]
theorem backP_step (ps : List (ByteArray × Int)) (k : Nat) (h : k < ps.length) : backP ps k = backP ps (k + 1) ++ [ps[k].1] := by
  unfold backP
  rw [List.drop_eq_getElem_cons h, show textsP (ps[k] :: ps.drop (k + 1)) = ps[k].1 :: textsP (ps.drop (k + 1)) from rfl, List.reverse_cons]
theorem backP_zero (ps : List (ByteArray × Int)) : backP ps 0 = textsP ps.reverse := by simp [backP, textsP]
theorem sumS_back {nx : ByteArray → Nat × Int} (ok : NxOk nx) (s : ByteArray) : sumS (backP (parts nx s) 0) = s.size := by
  rw [backP_zero]
  exact turn_size ok s

set_option maxRecDepth 100000 in
set_option maxHeartbeats 2000000 in
theorem t39 (s : ByteArray) (e : Int) (w : World) (hT : Lib.Utf8Tabs 0 1 w) (hs : s.size ≤ 100000) (he : isEnc e = true) :
    Calls Tryd.prog 39 #[.string s, .int .i64 e] w fun e' w' => e' = .returned (.tuple #[.string (turn (nxOf e) s), .int .i64 0]) ∧ Below w.heap.size w w' := by
  have cc := c47 e w hT he
  have hsm := Lib.hid (decide_eq_false (show ¬ 100000 < s.size by omega))
  have hsum := Lib.hid (sumS_back (nxOf_ok e) s)
  have hturn := Lib.hid (show turn (nxOf e) s = glue (backP (parts (nxOf e) s) 0) by rw [backP_zero]; rfl)
  clear he
  obtain ⟨i0, hi, hz0, hz1, hz2⟩ := info_parts infoStr
  go_enter Tryd.func39, Tryd.ntmps39
  go_wp2_with fail
  refine cc.mono ?_
  rintro e' w1 ⟨⟨c, rfl, kv, kn, kc, lb, rfl, hcod⟩, hb1⟩
  go_wp2_with fail
  refine (c48_1 s false hsm.out _ _ (by omega) (by simp) (by simp)).mono ?_
  rintro e' w2 ⟨rfl, rfl⟩
  have hB2 : Below w.heap.size w ((w1.alloc (.cells #[.func (.func kv) #[] #[], .func (.func kn) #[] lb, .func (.func kc) #[] lb] 64)).alloc (.cells #[.string s] 9)) := (hb1.alloc hb1.size _).alloc (by have := hb1.size; simp; omega) _
  have hB1 : Below w1.heap.size w1 ((w1.alloc (.cells #[.func (.func kv) #[] #[], .func (.func kn) #[] lb, .func (.func kc) #[] lb] 64)).alloc (.cells #[.string s] 9)) := ((Below.refl _ w1).alloc (Nat.le_refl _) _).alloc (by simp) _
  have c5 := c52' hcod.toNextOk (.func (.func kv) #[] #[]) (.func (.func kc) #[] lb) s hs _ hB1 (by simp; omega)
  have hpl := parts_length (nxOf_ok e) s.size s rfl
  have hle := Lib.hid (parts_le (nxOf_ok e) s)
  have hmn := Lib.hid (fun k => offN_mono (parts (nxOf e) s) (Nat.le_add_right k 1))
  have hex := Lib.hid (fun k h => parts_extract (nxOf_ok e) k s h)
  have hstep := Lib.hid (backP_step (parts (nxOf e) s))
  have hlast := Lib.hid (backP_last (parts (nxOf e) s))
  have hblen := Lib.hid (backP_length (parts (nxOf e) s) 0)
  go_wp2_with fail
  refine c5.mono ?_
  rintro e' w3 ⟨g, cap, rfl, hg1, hg2, hcell, hb3⟩
  have HC := Lib.hid hcell
  clear hcell
  have hB3 := hB2.trans (hb3.mono hB2.size)
  generalize parts (nxOf e) s = ps at *
  go_wp2_with fail
  go_loopw [9, 10] (fun v i wr => ∃ k : Nat, k ≤ ps.length ∧ i = .int .i64 k ∧ wr.ownsRow w3.heap.size 9 1 v (ps.length - k) ((backP ps k).map Value.string) ∧ Below w3.heap.size w3 wr) (fun _ i _ => (Go.RowKit.intOf i).toNat)
  case atStart => exact ⟨ps.length, Nat.le_refl _, by simp, by rw [hlast.out, Nat.sub_self]; exact World.ownsRow_nil _ _ _ _, Below.refl _ _⟩
  case round =>
    obtain ⟨k, hk, rfl, hrow, hB⟩ := hrel
    obtain ⟨ao, cap', rfl⟩ := row_slice hrow
    rcases k with _ | k
    · rw [Nat.sub_zero] at hrow
      have hjr : JoinRead wr (.slice ao (ps.length - 0) cap') (backP ps 0) := joinRead_of_row (by rw [hblen.out]; exact hrow)
      have cJ := c54 (backP ps 0) _ wr hjr (by rw [hsum.out]; omega) (by rw [hblen.out]; omega)
      go_wp2_with fail
      refine cJ.mono ?_
      rintro e1 w4 ⟨rfl, hb4⟩
      go_wp2
      go_ret2
      exact ⟨by rw [hturn.out]; rfl, hB3.trans ((hB.mono hB3.size).trans (hb4.mono (by have := hB.size; have := hB3.size; omega)))⟩
    · have hk1 : (0 : Int) < ((k : Int) + 1) := by omega
      have x0 := (hB.cell (p := ⟨g, k, none⟩) hg2).trans (HC.out k (by omega))
      have x1 := (hB.cell (p := ⟨g, k + 1, none⟩) hg2).trans (HC.out (k + 1) hk)
      have hab := hmn.out k
      have hbs := hle.out (k + 1)
      have hcut : Go.RowKit.Hid (s.extract (offN ps k) (offN ps (k + 1)) = ps[k].1) := hex.out k (by omega)
      have hst := Lib.hid (hstep.out k (by omega))
      obtain ⟨a, ha⟩ : ∃ a, offN ps k = a := ⟨_, rfl⟩
      obtain ⟨b, hb⟩ : ∃ b, offN ps (k + 1) = b := ⟨_, rfl⟩
      rw [ha] at x0 hab hcut
      rw [hb] at x1 hab hbs hcut
      clear ha hb
      have hab' : (a : Int) ≤ b := by omega
      have hbs' : (b : Int) ≤ s.size := by omega
      have hik : (k : Int) < ps.length + 1 := by omega
      have hik1 : (k : Int) + 1 < ps.length + 1 := by omega
      have z0 : (0 : Int) ≤ (k : Int) := Int.natCast_nonneg _
      have z1 : (0 : Int) ≤ (k : Int) + 1 := by omega
      have z2 : IntKind.i64.wrap (k : Int) = (k : Int) := by rw [IntKind.wrap_i64]; omega
      have z4 : IntKind.i64.wrap ((k : Int) + 1 - 1) = (k : Int) := by rw [Int.add_sub_cancel]; exact z2
      have z3 : ((k : Int) + 1).toNat = k + 1 := by omega
      have hgw : g < wr.heap.size := by have := hB.size; omega
      have hne : (Value.slice ao (ps.length - (k + 1)) cap').ownBlock ≠ some g := fun h => by
        have := (hrow.lt g h).1
        omega
      go_wp2_with fail
      go_region_held3 (fun w' => w'.cell? ⟨g, k, none⟩ = some (.int .i64 a) ∧ w'.cell? ⟨g, k + 1, none⟩ = some (.int .i64 b))
        (first
          | go_keep
          | (go_split_ands
             refine ⟨?_, ?_⟩
             · (rw [hgrow.cell_far _ (by simp; omega) (Ne.symm hne)]; assumption)
             · (rw [hgrow.cell_far _ (by simp; omega) (Ne.symm hne)]; assumption)))
        ((refine step_append_lies _ (by rfl) _ _ _ (by rfl) w3.heap.size 9 i0 _ 1 16 Tryd.underlying76 hi hz0 hz1 hz2 rfl (by omega) _ _ _ (by rfl) ((hrow.alloc _).drew)
            ⟨wr.heap.size, 0, none⟩ 1 1 [.string (s.extract a b)] (by rfl) (by rfl) (World.news_of_block (cs := #[.string (s.extract a b)]) (t := 9) (fr := (0, 0)) (heap_alloc_new wr _)) (by simp [Value.oneCell'])
            (by omega) (by unfold maxLen; omega) (by omega) (by have := hB.size; simp; omega) (wr.heap.size + 1) (by simp) ?_; intro gg cap2 w4 hown1 hgrow hat hlt))
      go_wp2
      go_roundw
      case rel =>
        have hB4 : Below w3.heap.size w3 w4 := ((hB.alloc hB.size _).drew).grown hgrow (by have := hB.size; simp; omega) (fun j hj => (hrow.lt j hj).1)
        refine ⟨k, by omega, rfl, ?_, hB4⟩
        rw [hst.out, List.map_append, show ps.length - k = ps.length - (k + 1) + 1 by omega, ← hcut.out]
        exact hown1
      case measure => simp [Go.RowKit.intOf]

set_option maxRecDepth 100000 in
set_option maxHeartbeats 1000000 in
theorem r40_arg (s : ByteArray) (e : Int) (w : World) (hs : s.size ≤ 9223372036854775807) (hbad : isEnc e = false ∨ 100000 < s.size) :
    Calls Tryd.prog 40 #[.string s, .int .i64 e] w fun e' w' => e' = .returned (.tuple #[.string ⟨#[]⟩, .int .i64 1]) ∧ Below w.heap.size w w' := by
  have hb : Go.RowKit.Hid ((!isEnc e || decide (100000 < s.size)) = true) := by
    show _ = _
    rcases hbad with h | h
    · rw [h]; rfl
    · rw [decide_eq_true h]; simp
  clear hbad
  go_enter Tryd.func40, Tryd.ntmps40
  go_wp2_with fail
  refine (c49_1 e s true hb.out _ _ hs (by simp) (by simp)).mono ?_
  rintro e' w2 ⟨rfl, rfl⟩
  go_wp2
  go_ret2
  exact ⟨rfl, (Below.refl _ _).alloc (Nat.le_refl _) _⟩

def backQ (ps : List (ByteArray × Int)) (k : Nat) : List (ByteArray × Int) := (ps.drop k).reverse
theorem backQ_last (ps : List (ByteArray × Int)) : backQ ps ps.length = [] := by simp [backQ]
theorem backQ_step (ps : List (ByteArray × Int)) (k : Nat) (h : k < ps.length) : backQ ps k = backQ ps (k + 1) ++ [ps[k]] := by
  unfold backQ
  rw [List.drop_eq_getElem_cons h, List.reverse_cons]
theorem backQ_length (ps : List (ByteArray × Int)) (k : Nat) : (backQ ps k).length = ps.length - k := by simp [backQ]

set_option maxRecDepth 100000 in
set_option maxHeartbeats 2000000 in
theorem r40 (s : ByteArray) (e : Int) (w : World) (hs : s.size ≤ 100000) (he : isEnc e = true) :
    Calls Tryd.prog 40 #[.string s, .int .i64 e] w fun e' w' => e' = .returned (.tuple #[.string (turn (nxOf e) s), .int .i64 0]) ∧ Below w.heap.size w w' := by
  have hb : Go.RowKit.Hid ((!isEnc e || decide (100000 < s.size)) = false) := by
    show _ = _
    rw [he, decide_eq_false (show ¬ 100000 < s.size by omega)]; rfl
  have hB1 : Below w.heap.size w (w.alloc (.cells #[.string s] 9)) := (Below.refl _ _).alloc (Nat.le_refl _) _
  have cP := c50 e he s hs (w.alloc (.cells #[.string s] 9))
  have hpl := parts_length (nxOf_ok e) s.size s rfl
  have hsum := Lib.hid (turn_size (nxOf_ok e) s)
  have hturn := Lib.hid (show turn (nxOf e) s = glue (textsP (backQ (parts (nxOf e) s) 0)) from rfl)
  clear he
  obtain ⟨i0, hi, hz0, hz1, hz2⟩ := info_parts infoPart
  go_enter Tryd.func40, Tryd.ntmps40
  go_wp2_with fail
  refine (c49_1 e s false hb.out _ _ (by omega) (by simp) (by simp)).mono ?_
  rintro e' w2 ⟨rfl, rfl⟩
  go_wp2_with fail
  refine cP.mono ?_
  rintro e' w3 ⟨v, rfl, hrow, hb3⟩
  have hB3 := hB1.trans (hb3.mono hB1.size)
  obtain ⟨ao, cap, rfl, hcells⟩ := partsRead_of_row hrow
  have HC := Lib.hid hcells
  clear hcells hrow cP
  generalize parts (nxOf e) s = ps at *
  have hstep := Lib.hid (backQ_step ps)
  have hlast := Lib.hid (backQ_last ps)
  have hblen := Lib.hid (backQ_length ps 0)
  have hpl2 : (ps.length : Int) ≤ s.size := by omega
  go_wp2
  go_loopw [7, 8] (fun v i wr => ∃ k : Nat, k ≤ ps.length ∧ i = .int .i64 ((k : Int) - 1) ∧ wr.ownsRow w3.heap.size 72 2 v (ps.length - k) (cellsP (backQ ps k)) ∧ Below w3.heap.size w3 wr) (fun _ i _ => (Go.RowKit.intOf i + 1).toNat)
  case atStart => exact ⟨ps.length, Nat.le_refl _, by go_num, by rw [hlast.out, Nat.sub_self]; exact World.ownsRow_nil _ _ _ _, Below.refl _ _⟩
  case round =>
    obtain ⟨k, hk, rfl, hrow, hB⟩ := hrel
    obtain ⟨ao', cap', rfl⟩ := row_slice hrow
    rcases k with _ | k
    · rw [Nat.sub_zero] at hrow
      have hpr : PartsRead wr (.slice ao' (ps.length - 0) cap') (backQ ps 0) := by
        have : wr.ownsRow w3.heap.size 72 2 (.slice ao' (ps.length - 0) cap') (backQ ps 0).length (cellsP (backQ ps 0)) := by rw [hblen.out]; exact hrow
        exact partsRead_of_row this
      have cJ := c59 (backQ ps 0) _ wr hpr (by have h1 : (glue (textsP (backQ ps 0))).size = s.size := by rw [← hturn.out]; exact hsum.out
                                               have h2 : sumS (textsP (backQ ps 0)) = s.size := h1
                                               omega) (by rw [hblen.out]; omega)
      go_wp2_with fail
      refine cJ.mono ?_
      rintro e1 w4 ⟨rfl, hb4⟩
      go_wp2
      go_ret2
      exact ⟨by rw [hturn.out]; rfl, hB3.trans ((hB.mono hB3.size).trans (hb4.mono (by have := hB.size; have := hB3.size; omega)))⟩
    · obtain ⟨g, off, rfl, hgs, hx0, hx1⟩ := HC.out k (by omega)
      have hst := Lib.hid (hstep.out k (by omega))
      obtain ⟨p, hp⟩ : ∃ p, ps[k] = p := ⟨_, rfl⟩
      rw [hp] at hst
      simp only [hp] at hx0 hx1
      clear hp
      have y0 := (hB.cell (p := ⟨g, off + k * 2, none⟩) hgs).trans hx0
      have y1 := (hB.cell (p := ⟨g, off + k * 2 + 1, none⟩) hgs).trans hx1
      clear hx0 hx1
      have hik : (k : Int) < ps.length := by omega
      go_wp2_with (at_builtin; refine wpList_append_own _ rfl _ _ 69 rfl w3.heap.size 72 i0 (.agg #[.string ⟨#[]⟩, .int .i64 0]) 2 24 Tryd.underlying69 hi hz0 hz1 hz2 rfl (by decide) _ _ _ rfl (hrow.alloc _) ⟨wr.heap.size, 0, none⟩ 1 1 [.string p.1, .int .i64 p.2] rfl rfl (cell_two_new _ _ _ _) (by simp [Value.oneCell']) (by unfold maxLen; omega) (by omega) (by have := hB.size; simp; omega) ?_; intro v' w4 hown' hgrow _; obtain ⟨g', cap'', rfl⟩ := ownsRow_succ hown')
      go_roundw
      case rel =>
        have hB4 : Below w3.heap.size w3 w4 := (hB.alloc hB.size _).grown hgrow (by have := hB.size; simp; omega) (fun j hj => (hrow.lt j hj).1)
        refine ⟨k, by omega, by go_num, ?_, hB4⟩
        rw [hst.out, cellsP_snoc, show ps.length - k = ps.length - (k + 1) + 1 by omega]
        exact hown'
      case measure => simp [Go.RowKit.intOf]
end Go.Proofs.YtjdnpgknamhnlaaDoor
