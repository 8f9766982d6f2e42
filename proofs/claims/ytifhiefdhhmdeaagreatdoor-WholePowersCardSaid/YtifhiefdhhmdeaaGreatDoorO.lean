/- Contracts of the integers' sums by value, opposite, minus, compare. -/
import Derived.Test.YtifhiefdhhmdeaaGreatDoorN
namespace Go.Proofs.YtifhiefdhhmdeaaGreatDoor
open Go Go.RowKit

theorem t91 (x y : Int) (b c : Bool) (va vb : Value) (w : World) (hb : b = decide (x < 0)) (hc : c = decide (y < 0)) (hA : Nt w va x.natAbs) (hB : Nt w vb y.natAbs) (hl : Lw x.natAbs ≤ 900000) (hl' : Lw y.natAbs ≤ 900000) :
    Calls Tryz.prog 91 #[.agg #[.bool b, va], .agg #[.bool c, vb]] w (IntR (x + y) w) := by
  by_cases hx : x < 0 <;> by_cases hy : y < 0
  · have e1 : b = true := by simp [hb, hx]
    have e2 : c = true := by simp [hc, hy]
    rw [e1, e2]
    exact t91s true va vb _ _ w hA hB hl hl' (x + y) (by omega) (by rw [Bool.eq_iff_iff]; simp; omega)
  · have e1 : b = true := by simp [hb, hx]
    have e2 : c = false := by simp [hc]; omega
    rw [e1, e2]
    by_cases h : x.natAbs < y.natAbs
    · exact t91lt true false va vb _ _ w rfl hA hB hl hl' h (x + y) (by omega) (by rw [Bool.eq_iff_iff]; simp; omega)
    · exact t91ge true false va vb _ _ w rfl hA hB hl hl' (by omega) (x + y) (by omega) (by rw [Bool.eq_iff_iff]; simp; omega)
  · have e1 : b = false := by simp [hb]; omega
    have e2 : c = true := by simp [hc, hy]
    rw [e1, e2]
    by_cases h : x.natAbs < y.natAbs
    · exact t91lt false true va vb _ _ w rfl hA hB hl hl' h (x + y) (by omega) (by rw [Bool.eq_iff_iff]; simp; omega)
    · exact t91ge false true va vb _ _ w rfl hA hB hl hl' (by omega) (x + y) (by omega) (by rw [Bool.eq_iff_iff]; simp; omega)
  · have e1 : b = false := by simp [hb]; omega
    have e2 : c = false := by simp [hc]; omega
    rw [e1, e2]
    exact t91s false va vb _ _ w hA hB hl hl' (x + y) (by omega) (by rw [Bool.eq_iff_iff]; simp; omega)
theorem mul_sign (x y : Int) : ((decide (x < 0) != decide (y < 0)) && decide (0 < x.natAbs * y.natAbs)) = decide (x * y < 0) := by
  have hp : 0 < x.natAbs * y.natAbs ↔ x ≠ 0 ∧ y ≠ 0 := by
    rw [Nat.pos_iff_ne_zero, ne_eq, Nat.mul_eq_zero]; omega
  rw [Bool.eq_iff_iff]
  simp only [Bool.and_eq_true, bne_iff_ne, decide_eq_true_eq, hp]
  by_cases hx : x < 0 <;> by_cases hy : y < 0
  · have := Int.mul_pos_of_neg_of_neg hx hy
    simp [hx, hy]; omega
  · by_cases h0 : y = 0
    · subst h0; simp
    · have := Int.mul_neg_of_neg_of_pos hx (show 0 < y by omega)
      simp [hx, hy, this, h0]; omega
  · by_cases h0 : x = 0
    · subst h0; simp
    · have := Int.mul_neg_of_pos_of_neg (show 0 < x by omega) hy
      simp [hx, hy, this, h0]; omega
  · have := Int.mul_nonneg (show 0 ≤ x by omega) (show 0 ≤ y by omega)
    simp [hx, hy]; omega
theorem t95I (x y : Int) (b c : Bool) (va vb : Value) (w : World) (hb : b = decide (x < 0)) (hc : c = decide (y < 0)) (hA : Nt w va x.natAbs) (hB : Nt w vb y.natAbs) (hl : Lw x.natAbs ≤ 900000) (hl' : Lw y.natAbs ≤ 900000) :
    Calls Tryz.prog 95 #[.agg #[.bool b, va], .agg #[.bool c, vb]] w (IntR (x * y) w) := by
  subst hb hc
  exact t95 _ _ va vb _ _ w hA hB hl hl' (x * y) (Int.natAbs_mul x y) (mul_sign x y)
/-- a value of a natural is no cell of an integer -/
theorem Nt.ne67 {w : World} {v : Value} {n g : Nat} {cs : List Value} (h : Nt w v n) (hb : Blk w g 67 cs) : v.ownBlock ≠ some g := by
  intro hg
  rcases row_cases h with ⟨_, h2 | ⟨g', cs', h2, _, _, h5, _⟩⟩
  · rw [h2.1] at hg; cases hg
  · rw [h2] at hg
    simp [Value.ownBlock] at hg
    subst hg
    have h9 : some (Obj.cells cs'.toArray 143 (0, 0)) = some (Obj.cells cs.toArray 67 (0, 0)) := h5.symm.trans hb
    simp at h9
theorem t135 (b : Bool) (v : Value) (n : Nat) (w : World) (hv : Nt w v n) :
    Calls Tryz.prog 135 #[.agg #[.bool b, v]] w fun e w' => e = .returned (.agg #[.bool (!b && decide (0 < n)), v]) ∧ Below w.heap.size w w' := by
  have hb0 : Below w.heap.size w ((w.alloc (.cells #[.bool b, v] 67)).alloc (.cells #[.bool false, .slice none 0 0] 67)) := ((Below.refl _ _).alloc (Nat.le_refl _) _).alloc (by simp) _
  have c := t73 (!b) v n _ (hv.below hb0)
  obtain ⟨p, cap, rfl, -, -, -⟩ := hv.cells
  have C := Lib.hid c
  have HB := Lib.hid hb0
  have HR : Hid (Blk ((w.alloc (.cells #[.bool b, .slice p (Lw n) cap] 67)).alloc (.cells #[.bool false, .slice none 0 0] 67)) (w.heap.size + 1) 67 [.bool false, .slice none 0 0]) := by
    have := Blk.new (w.alloc (.cells #[.bool b, .slice p (Lw n) cap] 67)) #[.bool false, .slice none 0 0] 67
    show Blk _ _ _ _
    simpa using this
  clear c hb0 hv
  go_enter Tryz.func135, Tryz.ntmps135
  go_wp2_with fail
  refine C.out.mono ?_
  rintro e w1 ⟨rfl, hb1⟩
  have hr := HR.out.below hb1 HR.out.lt
  have r0 := hr.cell 0 rfl
  have r1 := hr.cell 1 rfl
  have f0 := hr.free 0
  have f1 := hr.free 1
  have HR1 := Lib.hid hr
  clear hr
  go_wp2
  have g0 : (w1.setCell ⟨w.heap.size + 1, 0, none⟩ (.bool (!b && decide (0 < n)))).cell? ⟨w.heap.size + 1, 0, none⟩ = some (.bool (!b && decide (0 < n))) := (HR1.out.set 0 _).cell 0 rfl
  have g1 : ((w1.setCell ⟨w.heap.size + 1, 0, none⟩ (.bool (!b && decide (0 < n)))).setCell ⟨w.heap.size + 1, 1, none⟩ (.slice p (Lw n) cap)).cell? ⟨w.heap.size + 1, 1, none⟩ = some (.slice p (Lw n) cap) := ((HR1.out.set 0 _).set 1 _).cell 1 rfl
  refine bodyPost_ret (v := .agg #[.bool (!b && decide (0 < n)), .slice p (Lw n) cap]) (by simp [results, Tryz.results135, go_sem, g0, g1]) rfl ?_
  exact ⟨rfl, ((HB.out.trans (hb1.mono HB.out.size)).setCell (by simp) _).setCell (by simp) _⟩
end Go.Proofs.YtifhiefdhhmdeaaGreatDoor
