/- Contracts of the reader: goTo, takeNumbers. -/
import Derived.Test.YtmbnckmhngijdaaGreatDoorX
namespace Go.Proofs.YtmbnckmhngijdaaGreatDoor
open Go Go.RowKit

theorem info50 : (Tryz.prog.info? 50).map (fun i => (i.zero, i.size, i.bytes)) = some (some (.agg #[.bool false, .int .i64 0, .string ⟨#[]⟩]), 3, 32) := by kernel_rfl
def Itm.cs (x : Itm) : Array Value := #[.bool x.t, .int .i64 x.i, .string x.str]
def icells (xs : List Itm) : List Value := xs.flatMap fun x => x.cs.toList
theorem icells_snoc (xs : List Itm) (x : Itm) : icells (xs ++ [x]) = icells xs ++ x.cs.toList := by simp [icells]
/-- items in memory that are the call's own -/
def Is (w : World) (B : Nat) (v : Value) (xs : List Itm) : Prop := w.ownsRow B 50 3 v xs.length (icells xs)
theorem Is.below {W W' : World} {B : Nat} {v : Value} {xs : List Itm} (h : Is W B v xs) (hb : Below W.heap.size W W') : Is W' B v xs := ownsRow_below h hb
theorem is_len {w : World} {B : Nat} {v : Value} {xs : List Itm} {x : Itm} (h : Is w B v (xs ++ [x])) : w.ownsRow B 50 3 v (xs.length + 1) (icells (xs ++ [x])) := by
  unfold Is at h; rw [List.length_append] at h; exact h
theorem is_of {w : World} {B : Nat} {v : Value} {xs : List Itm} {x : Itm} (h : w.ownsRow B 50 3 v (xs.length + 1) (icells (xs ++ [x]))) : Is w B v (xs ++ [x]) := by
  unfold Is; rw [List.length_append]; exact h
theorem app50 {w : World} {ops : Array Oper} {rest : List Oper} {o : Oper} {a : Act} {Q : Exit → Act → World → Prop} (hgd : o.guard = none) (s x : Operand)
    (ho : o.op = .call { callee := .builtin .append, args := #[s, x], argTypes := #[22, 22] }) (base : Nat) (v : Value) (xs : List Itm) (hs : a.eval s = v) (hown : Is w base v xs)
    (g c : Nat) (d : Itm) (hx : a.eval x = .slice (some ⟨g, 0, none⟩) 1 c) (hc : Blk w g 50 d.cs.toList) (hn : xs.length ≤ 100000000) (hbase : base ≤ w.heap.size)
    (h : ∀ v' w', Hid (Is w' base v' (xs ++ [d])) → Hid (w.grownBy w' v.ownBlock) → wpList Tryz.prog ops Q rest (a.put o.dst v') w') :
    wpList Tryz.prog ops Q (o :: rest) a w := by
  obtain ⟨i0, hi, hz0, hz1, hz2⟩ := info_parts info50
  refine wpList_append_own w hgd s x 22 ho base 50 i0 (.agg #[.bool false, .int .i64 0, .string ⟨#[]⟩]) 3 32 Tryz.underlying22 hi hz0 hz1 hz2 rfl (by decide) v xs.length (icells xs) hs hown ⟨g, 0, none⟩ 1 c d.cs.toList hx rfl ?_ ?_ (by unfold maxLen; omega) (by omega) hbase (fun v' w' h1 h2 _ => h v' w' ?_ h2)
  · intro j u hu
    rw [add_addr, Nat.zero_add]
    exact hc.cell j hu
  · intro u hu
    simp only [Itm.cs, List.mem_cons, List.mem_nil_iff, or_false] at hu
    rcases hu with rfl | rfl | rfl <;> rfl
  · show World.ownsRow _ _ _ _ _ _ _
    rw [icells_snoc, List.length_append]
    exact h1

/-- a reader: its bytes, the place, its items -/
structure Rs (w : World) (B gr : Nat) (s : ByteArray) (p : Nat) (iv : Value) (xs : List Itm) : Prop where
  blk : Blk w gr 92 [.string s, .int .i64 p, iv]
  row : Is w B iv xs
  place : p ≤ s.size
theorem Rs.cells {w : World} {B gr p : Nat} {s : ByteArray} {iv : Value} {xs : List Itm} (h : Rs w B gr s p iv xs) : w.cell? ⟨gr, 0, none⟩ = some (.string s) ∧ w.cell? ⟨gr, 1, none⟩ = some (.int .i64 p) ∧ w.cell? ⟨gr, 2, none⟩ = some iv :=
  ⟨h.blk.cell 0 rfl, h.blk.cell 1 rfl, h.blk.cell 2 rfl⟩
theorem Rs.below {w w' : World} {B gr p : Nat} {s : ByteArray} {iv : Value} {xs : List Itm} (h : Rs w B gr s p iv xs) (hb : Below w.heap.size w w') : Rs w' B gr s p iv xs := ⟨blkDown h.blk hb, h.row.below hb, h.place⟩
/-- the blocks that a reader's functions may change -/
def RsS (B gr : Nat) (w : World) (k : Nat) : Prop := k = gr ∨ (B ≤ k ∧ ∃ cs, w.heap[k]? = some (.cells cs 50 (0, 0)))
theorem RsS.trans {B gr : Nat} {w w1 w2 : World} (h : Kp (RsS B gr w) w w1) (k : Kp (RsS B gr w1) w1 w2) : Kp (RsS B gr w) w w2 :=
  h.trans k fun g hg => by
    rcases hg with rfl | ⟨h1, cs, h2⟩
    · exact .inl (.inl rfl)
    · rcases Nat.lt_or_ge g w.heap.size with h3 | h3
      · by_cases h4 : RsS B gr w g
        · exact .inl h4
        · exact .inl (.inr ⟨h1, cs, (h.block g h3 h4).symm.trans h2⟩)
      · exact .inr h3
theorem RsS.own {w : World} {B gr size n : Nat} {v : Value} {xs : List Value} (h : w.ownsRow B 50 size v n xs) {g : Nat} (hg : v.ownBlock = some g) : RsS B gr w g := by
  rcases h.2 with ⟨rfl, _⟩ | ⟨g', cap, cur, rfl, h1, h2, _⟩
  · simp [Value.ownBlock] at hg
  · simp [Value.ownBlock] at hg
    subst hg
    exact .inr ⟨h1, cur, h2⟩
theorem RsS.not {w : World} {B gr g : Nat} {e : TypeId} {cs : List Value} (h : Blk w g e cs) (he : e ≠ 50) (hne : g ≠ gr) : ¬ RsS B gr w g := by
  rintro (h1 | ⟨_, c, h1⟩)
  · exact hne h1
  · have h2 := h1.symm.trans h
    simp at h2
    exact he h2.2.symm
theorem RsS.ge {B gr : Nat} {w : World} (hg : B ≤ gr) {k : Nat} (h : RsS B gr w k) : B ≤ k := by
  rcases h with rfl | ⟨h, _⟩
  · exact hg
  · exact h
/-- what a reader's function tells: an error, or the reader's new state -/
def RdR (B gr : Nat) (s : ByteArray) (r : Except Nat Rt) (w : World) (e : Ending) (w' : World) : Prop :=
  Kp (RsS B gr w) w w' ∧
  match r with
  | .error x => e = .returned (.int .i64 x) ∧ x ≠ 0
  | .ok st => e = .returned (.int .i64 0) ∧ ∃ iv', Rs w' B gr s st.1 iv' st.2
theorem RdR.bad {B gr : Nat} {s : ByteArray} {r : Except Nat Rt} {w w' : World} {x : Nat} (hr : Hid (r = .error x)) (hx : x ≠ 0) (hk : Kp (RsS B gr w) w w') : RdR B gr s r w (.returned (.int .i64 x)) w' := by
  unfold RdR; rw [hr.out]; exact ⟨hk, rfl, hx⟩
theorem RdR.good {B gr : Nat} {s : ByteArray} {r : Except Nat Rt} {w w' : World} {p : Nat} {iv : Value} {xs : List Itm} (hr : Hid (r = .ok (p, xs))) (hk : Kp (RsS B gr w) w w') (h : Rs w' B gr s p iv xs) : RdR B gr s r w (.returned (.int .i64 0)) w' := by
  unfold RdR; rw [hr.out]; exact ⟨hk, rfl, iv, h⟩
theorem t70_bad (B gr p n : Nat) (iv : Value) (xs : List Itm) (s : ByteArray) (w : World) (h : Rs w B gr s p iv xs) (hn : s.size < n) :
    Calls Tryz.prog 70 #[.pointer (some ⟨gr, 0, none⟩), .int .i64 n] w fun e w' => e = .returned (.int .i64 14) ∧ w' = w := by
  obtain ⟨h0, h1, h2⟩ := h.cells
  have hni : (s.size : Int) < n := by omega
  clear h hn
  go_enter Tryz.func70, Tryz.ntmps70
  go_wp2
  go_ret
  exact ⟨rfl, rfl⟩
theorem t70_good (B gr p n : Nat) (iv : Value) (xs : List Itm) (s : ByteArray) (w : World) (h : Rs w B gr s p iv xs) (hn : n ≤ s.size) :
    Calls Tryz.prog 70 #[.pointer (some ⟨gr, 0, none⟩), .int .i64 n] w fun e w' => e = .returned (.int .i64 0) ∧ Kp (RsS B gr w) w w' ∧ Rs w' B gr s n iv xs := by
  obtain ⟨h0, h1, h2⟩ := h.cells
  have hni : (n : Int) ≤ s.size := by omega
  have f1 := h.blk.free 1
  have HR := Lib.hid h
  clear h
  go_enter Tryz.func70, Tryz.ntmps70
  go_wp2
  go_ret
  have hk := HR.out.blk.set 1 (.int .i64 n)
  exact ⟨rfl, (Kp.set w gr 1 _).weaken (fun g h => .inl h), ⟨hk, (Kp.set w gr 1 (.int .i64 n)).row HR.out.row (fun g' hg' e => by subst e; exact own_ne HR.out.row HR.out.blk (by decide) hg'), hn⟩⟩

/-! ### what a number takes -/
theorem decodeGo_w (s : ByteArray) (h : 0 < s.size) : 1 ≤ (Lib.decodeGo s).2 ∧ (Lib.decodeGo s).2 ≤ s.size := by
  unfold Lib.decodeGo
  rw [if_neg (by omega), Lib.decode_at]
  unfold Lib.decodeN
  repeat' split
  all_goals (constructor <;> simp only <;> omega)
theorem sevR_len : ∀ (f i u : Nat) (l : List UInt8) (v : Int × Nat), sevR f i u l = .ok v → i + 1 ≤ v.2 ∧ v.2 ≤ i + l.length
  | f, i, u, [], v, h => by cases f <;> simp [sevR] at h
  | 0, i, u, b :: l, v, h => by simp [sevR] at h
  | f + 1, i, u, b :: l, v, h => by
    unfold sevR at h
    split at h
    · cases h; simp only [List.length_cons]; omega
    · have := sevR_len f (i + 1) _ l v h
      simp only [List.length_cons]; omega
theorem numberR_len {d : Dir} {l : List UInt8} {v : Int × Nat} (hc : numC d.c = true) (h : numberR chrP d l = .ok v) : 1 ≤ v.2 ∧ v.2 ≤ l.length := by
  unfold numberR at h
  split at h
  · cases h
  · rename_i hlen
    split at h
    · unfold chrP at h
      split at h
      · cases h
      · cases h
        exact decodeGo_w ⟨l.toArray⟩ (by show 0 < l.length; omega)
    · rename_i h85
      split at h
      · split at h
        · cases h
        · have := sevR_len 9 0 0 l v h; omega
      · rename_i h119
        have hs := size_fix hc h85 h119
        split at h
        · cases h
        · cases h; simp only; omega
theorem Gl.lt {w : World} (h : Gl w) : 5 ≤ w.heap.size := by
  obtain ⟨_, _, _, h4⟩ := h
  have : 4 < w.heap.size := World.block_lt_of_cell? w _ (h4 0 (by decide)).1
  omega
theorem Gl.belowB {w w' : World} {B : Nat} (h : Gl w) (h5 : 5 ≤ B) (hb : Below B w w') : Gl w' := by
  obtain ⟨⟨m, h1⟩, ⟨te, pe, h2⟩, h3, h4⟩ := h
  exact ⟨⟨m, (hb.cell (p := ⟨0, 0, none⟩) (by show 0 < B; omega)).trans h1⟩, ⟨te, pe, (hb.cell (p := ⟨2, 0, none⟩) (by show 2 < B; omega)).trans h2⟩, fun c hc => (hb.cell (p := ⟨3, _, none⟩) (by show 3 < B; omega)).trans (h3 c hc), fun i hi => ⟨(hb.cell (p := ⟨4, _, none⟩) (by show 4 < B; omega)).trans (h4 i hi).1, (hb.cell (p := ⟨4, _, none⟩) (by show 4 < B; omega)).trans (h4 i hi).2⟩⟩
theorem extract_drop (s : ByteArray) (p : Nat) : (s.extract p s.size).data.toList = s.data.toList.drop p := by
  rw [ByteArray.data_extract, Array.toList_extract]
  simp only [List.extract_eq_take_drop]
  rw [List.take_of_length_le]
  simp
theorem numbersR_stop {s : List UInt8} {d : Dir} {f p : Nat} {xs : List Itm} (ha : d.all = true) (h : s.length - p < max (sizeC d.c) 1) : numbersR chrP s d (f + 1) (p, xs) = .ok (p, xs) := by
  unfold numbersR
  rw [if_pos ⟨ha, by simpa [List.length_drop] using h⟩]
theorem numbersR_go {s : List UInt8} {d : Dir} {f p : Nat} {xs : List Itm} (h : ¬ (d.all = true ∧ s.length - p < max (sizeC d.c) 1)) : numbersR chrP s d (f + 1) (p, xs) = match numberR chrP d (s.drop p) with | .error e => .error e | .ok v => numbersR chrP s d f (p + v.2, xs ++ [⟨false, v.1, []⟩]) := by
  rw [numbersR]
  rw [if_neg (by simpa [List.length_drop] using h)]
  rfl
theorem numbersR_len {s : List UInt8} {d : Dir} : ∀ (f : Nat) (st st' : Rt), numbersR chrP s d f st = .ok st' → st'.2.length ≤ st.2.length + f
  | 0, st, st', h => by cases h; omega
  | f + 1, st, st', h => by
    unfold numbersR at h
    split at h
    · cases h; omega
    · split at h
      · cases h
      · have := numbersR_len f _ st' h
        simp only [List.length_append, List.length_cons, List.length_nil] at this
        omega
def NumL (B gr : Nat) (s : ByteArray) (d : Dir) (F n0 : Nat) (R : Except Nat Rt) (W : World) (i : Value) (wr : World) : Prop :=
  ∃ (j p : Nat) (iv : Value) (xs : List Itm), j ≤ F ∧ i = .int .i64 j ∧ xs.length ≤ n0 + j ∧ (d.all = true → j ≤ p) ∧ Hid (Rs wr B gr s p iv xs) ∧ Hid (numbersR chrP s.data.toList d (F - j) (p, xs) = R) ∧ Hid (Kp (RsS B gr W) W wr)
def numF (d : Dir) (s : ByteArray) : Nat := if d.all then s.size + 1 else d.n
set_option maxRecDepth 100000 in
set_option maxHeartbeats 4000000 in
theorem t71_true (B gr p : Nat) (iv : Value) (xs : List Itm) (s : ByteArray) (d : Dir) (w : World) (hG : Gl w) (h5 : 5 ≤ B) (h : Rs w B gr s p iv xs) (hB : B ≤ gr) (hs : s.size ≤ 1000000) (hd : d.n ≤ 1000) (hc : numC d.c = true) (hal : d.all = true) (hx : xs.length ≤ 60000000) :
    Calls Tryz.prog 71 #[.pointer (some ⟨gr, 0, none⟩), .agg #[.int .u8 d.c.toNat, .bool true, .int .i64 (sizeC d.c), .bool d.great, .bool true, .int .i64 d.n]] w (RdR B gr s (numbersR chrP s.data.toList d (numF d s) (p, xs)) w) := by
  have hni : (d.n : Int) ≤ 1000 := by omega
  have hsi : (s.size : Int) ≤ 1000000 := by omega
  have h8 := sizeC_le d.c
  have h8i : (sizeC d.c : Int) ≤ 8 := by omega
  have hgw := h.blk.lt
  have hsl : s.data.toList.length = s.size := rfl
  have hb0 := bSelf w (.cells #[.int .u8 d.c.toNat, .bool true, .int .i64 (sizeC d.c), .bool d.great, .bool true, .int .i64 d.n] 81)
  have hk0 := Blk.new w #[.int .u8 d.c.toNat, .bool true, .int .i64 (sizeC d.c), .bool d.great, .bool true, .int .i64 d.n] 81
  obtain ⟨F, hF⟩ : ∃ F, numF d s = F := ⟨_, rfl⟩
  have hFe : F = s.size + 1 := by rw [← hF]; unfold numF; rw [hal]; rfl
  have hFb : F ≤ 1000001 := by omega
  have HW := Lib.hid h
  have HG := Lib.hid hG
  have HAL := Lib.hid hal
  rw [hF]
  obtain ⟨R, hR⟩ : ∃ R, numbersR chrP s.data.toList d F (p, xs) = R := ⟨_, rfl⟩
  rw [hR]
  have HR0 := Lib.hid hR
  clear h hG hF hR hal
  go_enter Tryz.func71, Tryz.ntmps71
  go_upto_region 2 with fail
  generalize w.alloc (.cells #[.int .u8 d.c.toNat, .bool true, .int .i64 (sizeC d.c), .bool d.great, .bool true, .int .i64 d.n] 81) = W at *
  have HK0 := Lib.hid hk0
  have HB0 := Lib.hid hb0
  clear hk0 hb0
  go_loopw [5] (fun i wr => NumL B gr s d F xs.length R W i wr) (fun i _ => F - (intOf i).toNat)
  case atStart => exact ⟨0, p, iv, xs, Nat.zero_le _, rfl, Nat.le_refl _, fun _ => Nat.zero_le _, HW.out.below HB0.out, HR0, Kp.refl _ _⟩
  case round =>
    obtain ⟨j, p', iv', xs', hj, rfl, hxl, hjp, hw', hnr, hkp⟩ := hrel
    have kd := hkp.out.blk HK0.out (RsS.not HK0.out (by decide) (by have := hgw; omega))
    obtain ⟨d0, d1, d2, d3, d4, d5⟩ := kd.six
    have HKD := Lib.hid kd
    obtain ⟨h0, h1, h2⟩ := hw'.out.cells
    obtain ⟨ao, cap, rfl⟩ := row_slice hw'.out.row
    have hpl := hw'.out.place
    have hpi : (p' : Int) ≤ s.size := by omega
    have hji : (j : Int) ≤ 1000001 := by omega
    obtain ⟨t, ht⟩ : ∃ t : ByteArray, s.extract p' s.size = t := ⟨_, rfl⟩
    have htl : t.data.toList = s.data.toList.drop p' := by rw [← ht]; exact extract_drop s p'
    have htz : t.size = s.size - p' := by rw [← ht]; simp
    have htzi : (t.size : Int) ≤ 1000000 := by omega
    have htz2 : t.size ≤ 1000000 := by omega
    have HTL := Lib.hid htl
    have HTZ := Lib.hid htz
    have HJP := Lib.hid hjp
    have hBW : Below B W wr := hkp.out.below (fun g hg => RsS.ge hB hg) (by have := HB0.out.size; omega)
    have HGR := Lib.hid (HG.out.belowB h5 ((HB0.out.mono (by omega)).trans hBW))
    clear kd htl htz hjp hBW
    have hjF : j < F := by have := HJP.out HAL.out; omega
    by_cases hst : t.size < max (sizeC d.c) 1
    · have hsti : (t.size : Int) < max (sizeC d.c : Int) 1 := by omega
      have HE : Hid (R = .ok (p', xs')) := by
        show _ = _
        rw [← hnr.out, show F - j = (F - (j + 1)) + 1 by omega]
        exact numbersR_stop HAL.out (by have := HTZ.out; omega)
      have HTT := Lib.hid ht
      clear ht hnr hst
      have htt := HTT.out
      go_upto_region 4 with fail
      go_quiet (fail)
      clear h0 h1 h2 htt
      go_wp2
      go_ret
      refine RdR.good HE (RsS.trans (Kp.of _ HB0.out) (RsS.trans hkp.out (Kp.of _ (below_drewN (Below.refl _ wr) _)))) (hw'.out.below (below_drewN (Below.refl _ wr) _))
    · have hsti : decide ((t.size : Int) < max (sizeC d.c : Int) 1) = false := decide_eq_false (by omega)
      have HGO : Hid (¬ (d.all = true ∧ s.data.toList.length - p' < max (sizeC d.c) 1)) := fun h => hst (by have := HTZ.out; have := h.2; omega)
      clear hst
      have C := fun (n : Nat) => t94 d true true d.n t (wr.drewN n) (HGR.out.below (below_drewN (Below.refl _ wr) n)) hc htz2
      have HNL : Hid (∀ v, numberR chrP d t.data.toList = .ok v → 1 ≤ v.2 ∧ v.2 ≤ t.data.toList.length) := fun v hv => numberR_len hc hv
      have HST : Hid ((match numberR chrP d t.data.toList with | .error e => .error e | .ok v => numbersR chrP s.data.toList d (F - (j + 1)) (p' + v.2, xs' ++ [⟨false, v.1, []⟩])) = R) := by
        show _ = _
        rw [← hnr.out, show F - j = (F - (j + 1)) + 1 by omega, numbersR_go HGO.out, HTL.out]
      have HTT := Lib.hid ht
      have HNRR := hnr
      clear ht hnr HGO
      have htt := HTT.out
      go_upto_region 4 with fail
      go_quiet (fail)
      clear h0 h1 h2 htt
      go_wp2_with fail
      refine (C _).mono ?_
      rintro e1 w1 ⟨hb1, hr1⟩
      have hb1 : Below wr.heap.size wr w1 := (below_drewN (Below.refl _ wr) _).trans hb1
      cases hres : numberR chrP d t.data.toList with
      | error y =>
        rw [hres] at hr1
        obtain ⟨rfl, hy⟩ := hr1
        have HE : Hid (R = .error y) := by show _ = _; rw [← HST.out, hres]
        have hyy : ((y : Int) == 0) = false := by rw [beq_eq_false_iff_ne]; omega
        have hyn : ((y : Int) != 0) = true := by simp only [bne, hyy, Bool.not_false]
        have HY := Lib.hid hy
        have HK1 : Hid (Kp (RsS B gr W) W w1) := RsS.trans hkp.out (Kp.of _ hb1)
        clear hres hy hb1 hyy d0 d1 d2 d3 d4 d5
        go_wp2
        go_ret
        exact RdR.bad HE HY.out (RsS.trans (Kp.of _ HB0.out) HK1.out)
      | ok v =>
        obtain ⟨v, z⟩ := v
        rw [hres] at hr1
        obtain rfl := hr1
        obtain ⟨hz1, hz2⟩ := HNL.out _ hres
        have hz3 : t.data.toList.length = t.size := rfl
        have HS2 : Hid (numbersR chrP s.data.toList d (F - (j + 1)) (p' + z, xs' ++ [⟨false, v, []⟩]) = R) := by show _ = _; rw [← HST.out, hres]
        have hzi : (z : Int) ≤ 1000000 := by omega
        have htz := HTZ.out
        have HK1 : Hid (Kp (RsS B gr W) W w1) := RsS.trans hkp.out (Kp.of _ hb1)
        have HR1 := Lib.hid (hw'.out.below hb1)
        have hpz : p' + z ≤ s.size := by simp only at hz2; omega
        have hpzi : (p' : Int) + z ≤ s.size := by omega
        have hz1 : 1 ≤ z := hz1
        obtain ⟨_, h1, h2⟩ := HR1.out.cells
        have HB1 := Lib.hid hb1
        have hBw1 : B ≤ w1.heap.size := by have := HR1.out.blk.lt; omega
        have hx2 : xs'.length ≤ 100000000 := by omega
        clear hres hz2 hz3 htz hb1 d0 d1 d2 d3 d4 d5 C HST HNL
        have HIS := Lib.hid (HR1.out.row.below (bSelf w1 (.cells #[.bool false, .int .i64 v, .string ⟨#[]⟩] 50)))
        have HBX := Lib.hid (HR1.out.blk.alloc (.cells #[.bool false, .int .i64 v, .string ⟨#[]⟩] 50))
        have HNE := Lib.hid (own_ne HIS.out HBX.out (by decide))
        have HNW : Hid (Blk (w1.alloc (.cells #[.bool false, .int .i64 v, .string ⟨#[]⟩] 50)) w1.heap.size 50 (Itm.cs ⟨false, v, []⟩).toList) := newAt _ _ _ _ _ rfl rfl
        have hBs : B ≤ (w1.alloc (.cells #[.bool false, .int .i64 v, .string ⟨#[]⟩] 50)).heap.size := by simp; omega
        have HBS := Lib.hid hBs
        clear hBs
        go_wp2_with (at_builtin; refine app50 rfl _ _ rfl B (.slice ao xs'.length cap) xs' rfl HIS.out w1.heap.size 1 ⟨false, v, []⟩ rfl HNW.out hx2 HBS.out ?_; intro v6 w6 hown6 hgrow6; have hk6 := (Kp.grown hgrow6.out).blk HBX.out HNE.out; have g1 := hk6.cell 1 rfl; have g2 := hk6.cell 2 rfl; have f1 := hk6.free 1; have f2 := hk6.free 2; have HK6 := Lib.hid hk6; clear hk6 h1 h2; have h7 : Hid (w6.ownsRow B 50 3 v6 (xs'.length + 1) (icells (xs' ++ [⟨false, v, []⟩]))) := is_len hown6.out; obtain ⟨a6, c6, rfl⟩ := row_slice h7.out)
        have hkk := (HK6.out.set 2 (.slice a6 (xs'.length + 1) c6)).set 1 (.int .i64 ((p' : Int) + z))
        have k0 : Kp (RsS B gr w1) w1 (w1.alloc (.cells #[.bool false, .int .i64 v, .string ⟨#[]⟩] 50)) := Kp.of _ (bSelf w1 _)
        have k1 : Kp (RsS B gr (w1.alloc (.cells #[.bool false, .int .i64 v, .string ⟨#[]⟩] 50))) (w1.alloc (.cells #[.bool false, .int .i64 v, .string ⟨#[]⟩] 50)) w6 := (Kp.grown hgrow6.out).weaken (fun g h => RsS.own HIS.out h)
        have k2 : Kp (RsS B gr w6) w6 (w6.setCell ⟨gr, 2, none⟩ (.slice a6 (xs'.length + 1) c6)) := (Kp.set w6 gr 2 _).weaken (fun g h => .inl h)
        have hne6 : ∀ g', Value.ownBlock (.slice a6 (xs'.length + 1) c6) = some g' → ¬ g' = gr := fun g' hg' e => by subst e; exact own_ne h7.out HK6.out (by decide) hg'
        have k3 := ((Kp.set (w6.setCell ⟨gr, 2, none⟩ (.slice a6 (xs'.length + 1) c6)) gr 1 (.int .i64 ((p' : Int) + z))).weaken (T := RsS B gr (w6.setCell ⟨gr, 2, none⟩ (.slice a6 (xs'.length + 1) c6))) (fun g h => .inl h))
        have r6 := (Kp.set (w6.setCell ⟨gr, 2, none⟩ (.slice a6 (xs'.length + 1) c6)) gr 1 (.int .i64 ((p' : Int) + z))).row ((Kp.set w6 gr 2 (.slice a6 (xs'.length + 1) c6)).row h7.out hne6) hne6
        have HK9 := Lib.hid (RsS.trans HK1.out (RsS.trans k0 (RsS.trans k1 (RsS.trans k2 k3))))
        have HR9 : Hid (Rs ((w6.setCell ⟨gr, 2, none⟩ (.slice a6 (xs'.length + 1) c6)).setCell ⟨gr, 1, none⟩ (.int .i64 ((p' : Int) + z))) B gr s (p' + z) (.slice a6 (xs'.length + 1) c6) (xs' ++ [⟨false, v, []⟩])) := by
          refine ⟨?_, is_of r6, hpz⟩
          have e : ((p' + z : Nat) : Int) = (p' : Int) + z := by omega
          rw [e]; exact hkk
        clear hkk k0 k1 k2 k3 hne6 r6 hgrow6 hown6 h7 g1 g2 f1 f2
        go_roundw
        case rel => exact ⟨j + 1, p' + z, _, xs' ++ [⟨false, v, []⟩], by omega, by go_num, by rw [List.length_append]; simp only [List.length_cons, List.length_nil]; omega, (fun h => by have := HJP.out h; omega), HR9, HS2, HK9⟩
        case measure => simp [intOf]; omega
set_option maxRecDepth 100000 in
set_option maxHeartbeats 4000000 in
theorem t71_false (B gr p : Nat) (iv : Value) (xs : List Itm) (s : ByteArray) (d : Dir) (w : World) (hG : Gl w) (h5 : 5 ≤ B) (h : Rs w B gr s p iv xs) (hB : B ≤ gr) (hs : s.size ≤ 1000000) (hd : d.n ≤ 1000) (hc : numC d.c = true) (hal : d.all = false) (hx : xs.length ≤ 60000000) :
    Calls Tryz.prog 71 #[.pointer (some ⟨gr, 0, none⟩), .agg #[.int .u8 d.c.toNat, .bool true, .int .i64 (sizeC d.c), .bool d.great, .bool false, .int .i64 d.n]] w (RdR B gr s (numbersR chrP s.data.toList d (numF d s) (p, xs)) w) := by
  have hni : (d.n : Int) ≤ 1000 := by omega
  have hsi : (s.size : Int) ≤ 1000000 := by omega
  have h8 := sizeC_le d.c
  have h8i : (sizeC d.c : Int) ≤ 8 := by omega
  have hgw := h.blk.lt
  have hsl : s.data.toList.length = s.size := rfl
  have hb0 := bSelf w (.cells #[.int .u8 d.c.toNat, .bool true, .int .i64 (sizeC d.c), .bool d.great, .bool false, .int .i64 d.n] 81)
  have hk0 := Blk.new w #[.int .u8 d.c.toNat, .bool true, .int .i64 (sizeC d.c), .bool d.great, .bool false, .int .i64 d.n] 81
  obtain ⟨F, hF⟩ : ∃ F, numF d s = F := ⟨_, rfl⟩
  have hFe : F = d.n := by rw [← hF]; unfold numF; rw [hal]; rfl
  have hFb : F ≤ 1000001 := by omega
  have HW := Lib.hid h
  have HG := Lib.hid hG
  have HAL := Lib.hid hal
  rw [hF]
  obtain ⟨R, hR⟩ : ∃ R, numbersR chrP s.data.toList d F (p, xs) = R := ⟨_, rfl⟩
  rw [hR]
  have HR0 := Lib.hid hR
  clear h hG hF hR hal
  go_enter Tryz.func71, Tryz.ntmps71
  go_upto_region 2 with fail
  generalize w.alloc (.cells #[.int .u8 d.c.toNat, .bool true, .int .i64 (sizeC d.c), .bool d.great, .bool false, .int .i64 d.n] 81) = W at *
  have HK0 := Lib.hid hk0
  have HB0 := Lib.hid hb0
  clear hk0 hb0
  go_loopw [5] (fun i wr => NumL B gr s d F xs.length R W i wr) (fun i _ => F - (intOf i).toNat)
  case atStart => exact ⟨0, p, iv, xs, Nat.zero_le _, rfl, Nat.le_refl _, fun _ => Nat.zero_le _, HW.out.below HB0.out, HR0, Kp.refl _ _⟩
  case round =>
    obtain ⟨j, p', iv', xs', hj, rfl, hxl, hjp, hw', hnr, hkp⟩ := hrel
    have kd := hkp.out.blk HK0.out (RsS.not HK0.out (by decide) (by have := hgw; omega))
    obtain ⟨d0, d1, d2, d3, d4, d5⟩ := kd.six
    have HKD := Lib.hid kd
    obtain ⟨h0, h1, h2⟩ := hw'.out.cells
    obtain ⟨ao, cap, rfl⟩ := row_slice hw'.out.row
    have hpl := hw'.out.place
    have hpi : (p' : Int) ≤ s.size := by omega
    have hji : (j : Int) ≤ 1000001 := by omega
    obtain ⟨t, ht⟩ : ∃ t : ByteArray, s.extract p' s.size = t := ⟨_, rfl⟩
    have htl : t.data.toList = s.data.toList.drop p' := by rw [← ht]; exact extract_drop s p'
    have htz : t.size = s.size - p' := by rw [← ht]; simp
    have htzi : (t.size : Int) ≤ 1000000 := by omega
    have htz2 : t.size ≤ 1000000 := by omega
    have HTL := Lib.hid htl
    have HTZ := Lib.hid htz
    have HJP := Lib.hid hjp
    have hBW : Below B W wr := hkp.out.below (fun g hg => RsS.ge hB hg) (by have := HB0.out.size; omega)
    have HGR := Lib.hid (HG.out.belowB h5 ((HB0.out.mono (by omega)).trans hBW))
    clear kd htl htz hjp hBW
    by_cases hlt : j < F
    · have hlti : (j : Int) < d.n := by omega
      have HGO : Hid (¬ (d.all = true ∧ s.data.toList.length - p' < max (sizeC d.c) 1)) := fun h => by have := HAL.out; rw [h.1] at this; cases this
      have C := fun (n : Nat) => t94 d true false d.n t (wr.drewN n) (HGR.out.below (below_drewN (Below.refl _ wr) n)) hc htz2
      have HNL : Hid (∀ v, numberR chrP d t.data.toList = .ok v → 1 ≤ v.2 ∧ v.2 ≤ t.data.toList.length) := fun v hv => numberR_len hc hv
      have HST : Hid ((match numberR chrP d t.data.toList with | .error e => .error e | .ok v => numbersR chrP s.data.toList d (F - (j + 1)) (p' + v.2, xs' ++ [⟨false, v.1, []⟩])) = R) := by
        show _ = _
        rw [← hnr.out, show F - j = (F - (j + 1)) + 1 by omega, numbersR_go HGO.out, HTL.out]
      have HTT := Lib.hid ht
      have HNRR := hnr
      clear ht hnr HGO
      have htt := HTT.out
      go_upto_region 4 with fail
      go_quiet (fail)
      clear h0 h1 h2 htt
      go_wp2_with fail
      refine (C _).mono ?_
      rintro e1 w1 ⟨hb1, hr1⟩
      have hb1 : Below wr.heap.size wr w1 := (below_drewN (Below.refl _ wr) _).trans hb1
      cases hres : numberR chrP d t.data.toList with
      | error y =>
        rw [hres] at hr1
        obtain ⟨rfl, hy⟩ := hr1
        have HE : Hid (R = .error y) := by show _ = _; rw [← HST.out, hres]
        have hyy : ((y : Int) == 0) = false := by rw [beq_eq_false_iff_ne]; omega
        have hyn : ((y : Int) != 0) = true := by simp only [bne, hyy, Bool.not_false]
        have HY := Lib.hid hy
        have HK1 : Hid (Kp (RsS B gr W) W w1) := RsS.trans hkp.out (Kp.of _ hb1)
        clear hres hy hb1 hyy d0 d1 d2 d3 d4 d5
        go_wp2
        go_ret
        exact RdR.bad HE HY.out (RsS.trans (Kp.of _ HB0.out) HK1.out)
      | ok v =>
        obtain ⟨v, z⟩ := v
        rw [hres] at hr1
        obtain rfl := hr1
        obtain ⟨hz1, hz2⟩ := HNL.out _ hres
        have hz3 : t.data.toList.length = t.size := rfl
        have HS2 : Hid (numbersR chrP s.data.toList d (F - (j + 1)) (p' + z, xs' ++ [⟨false, v, []⟩]) = R) := by show _ = _; rw [← HST.out, hres]
        have hzi : (z : Int) ≤ 1000000 := by omega
        have htz := HTZ.out
        have HK1 : Hid (Kp (RsS B gr W) W w1) := RsS.trans hkp.out (Kp.of _ hb1)
        have HR1 := Lib.hid (hw'.out.below hb1)
        have hpz : p' + z ≤ s.size := by simp only at hz2; omega
        have hpzi : (p' : Int) + z ≤ s.size := by omega
        have hz1 : 1 ≤ z := hz1
        obtain ⟨_, h1, h2⟩ := HR1.out.cells
        have HB1 := Lib.hid hb1
        have hBw1 : B ≤ w1.heap.size := by have := HR1.out.blk.lt; omega
        have hx2 : xs'.length ≤ 100000000 := by omega
        clear hres hz2 hz3 htz hb1 d0 d1 d2 d3 d4 d5 C HST HNL
        have HIS := Lib.hid (HR1.out.row.below (bSelf w1 (.cells #[.bool false, .int .i64 v, .string ⟨#[]⟩] 50)))
        have HBX := Lib.hid (HR1.out.blk.alloc (.cells #[.bool false, .int .i64 v, .string ⟨#[]⟩] 50))
        have HNE := Lib.hid (own_ne HIS.out HBX.out (by decide))
        have HNW : Hid (Blk (w1.alloc (.cells #[.bool false, .int .i64 v, .string ⟨#[]⟩] 50)) w1.heap.size 50 (Itm.cs ⟨false, v, []⟩).toList) := newAt _ _ _ _ _ rfl rfl
        have hBs : B ≤ (w1.alloc (.cells #[.bool false, .int .i64 v, .string ⟨#[]⟩] 50)).heap.size := by simp; omega
        have HBS := Lib.hid hBs
        clear hBs
        go_wp2_with (at_builtin; refine app50 rfl _ _ rfl B (.slice ao xs'.length cap) xs' rfl HIS.out w1.heap.size 1 ⟨false, v, []⟩ rfl HNW.out hx2 HBS.out ?_; intro v6 w6 hown6 hgrow6; have hk6 := (Kp.grown hgrow6.out).blk HBX.out HNE.out; have g1 := hk6.cell 1 rfl; have g2 := hk6.cell 2 rfl; have f1 := hk6.free 1; have f2 := hk6.free 2; have HK6 := Lib.hid hk6; clear hk6 h1 h2; have h7 : Hid (w6.ownsRow B 50 3 v6 (xs'.length + 1) (icells (xs' ++ [⟨false, v, []⟩]))) := is_len hown6.out; obtain ⟨a6, c6, rfl⟩ := row_slice h7.out)
        have hkk := (HK6.out.set 2 (.slice a6 (xs'.length + 1) c6)).set 1 (.int .i64 ((p' : Int) + z))
        have k0 : Kp (RsS B gr w1) w1 (w1.alloc (.cells #[.bool false, .int .i64 v, .string ⟨#[]⟩] 50)) := Kp.of _ (bSelf w1 _)
        have k1 : Kp (RsS B gr (w1.alloc (.cells #[.bool false, .int .i64 v, .string ⟨#[]⟩] 50))) (w1.alloc (.cells #[.bool false, .int .i64 v, .string ⟨#[]⟩] 50)) w6 := (Kp.grown hgrow6.out).weaken (fun g h => RsS.own HIS.out h)
        have k2 : Kp (RsS B gr w6) w6 (w6.setCell ⟨gr, 2, none⟩ (.slice a6 (xs'.length + 1) c6)) := (Kp.set w6 gr 2 _).weaken (fun g h => .inl h)
        have hne6 : ∀ g', Value.ownBlock (.slice a6 (xs'.length + 1) c6) = some g' → ¬ g' = gr := fun g' hg' e => by subst e; exact own_ne h7.out HK6.out (by decide) hg'
        have k3 := ((Kp.set (w6.setCell ⟨gr, 2, none⟩ (.slice a6 (xs'.length + 1) c6)) gr 1 (.int .i64 ((p' : Int) + z))).weaken (T := RsS B gr (w6.setCell ⟨gr, 2, none⟩ (.slice a6 (xs'.length + 1) c6))) (fun g h => .inl h))
        have r6 := (Kp.set (w6.setCell ⟨gr, 2, none⟩ (.slice a6 (xs'.length + 1) c6)) gr 1 (.int .i64 ((p' : Int) + z))).row ((Kp.set w6 gr 2 (.slice a6 (xs'.length + 1) c6)).row h7.out hne6) hne6
        have HK9 := Lib.hid (RsS.trans HK1.out (RsS.trans k0 (RsS.trans k1 (RsS.trans k2 k3))))
        have HR9 : Hid (Rs ((w6.setCell ⟨gr, 2, none⟩ (.slice a6 (xs'.length + 1) c6)).setCell ⟨gr, 1, none⟩ (.int .i64 ((p' : Int) + z))) B gr s (p' + z) (.slice a6 (xs'.length + 1) c6) (xs' ++ [⟨false, v, []⟩])) := by
          refine ⟨?_, is_of r6, hpz⟩
          have e : ((p' + z : Nat) : Int) = (p' : Int) + z := by omega
          rw [e]; exact hkk
        clear hkk k0 k1 k2 k3 hne6 r6 hgrow6 hown6 h7 g1 g2 f1 f2
        go_roundw
        case rel => exact ⟨j + 1, p' + z, _, xs' ++ [⟨false, v, []⟩], by omega, by go_num, by rw [List.length_append]; simp only [List.length_cons, List.length_nil]; omega, (fun h => by have := HJP.out h; omega), HR9, HS2, HK9⟩
        case measure => simp [intOf]; omega
    · have hlti : d.n ≤ j := by omega
      have HE : Hid (R = .ok (p', xs')) := by
        show _ = _
        rw [← hnr.out, show F - j = 0 by omega]; rfl
      clear ht hnr hlt
      go_wp2
      go_ret
      exact RdR.good HE (RsS.trans (Kp.of _ HB0.out) hkp.out) hw'.out
end Go.Proofs.YtmbnckmhngijdaaGreatDoor
