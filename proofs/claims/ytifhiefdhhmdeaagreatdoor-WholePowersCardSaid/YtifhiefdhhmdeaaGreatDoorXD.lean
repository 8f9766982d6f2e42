/- The reference's Quotient, Div, Gcd, Bits, Root. -/
import Derived.Test.YtifhiefdhhmdeaaGreatDoorQ
import Derived.Test.YtifhiefdhhmdeaaGreatDoorXB
import Derived.Test.YtifhiefdhhmdeaaGreatDoorXC
import Derived.Test.YtifhiefdhhmdeaaGreatDoorZJ
namespace Go.Proofs.YtifhiefdhhmdeaaGreatDoor
open Go Go.RowKit

def NmR2 (q r : Int) (w : World) (e : Ending) (w' : World) : Prop := ∃ v u, e = .returned (.tuple #[.agg #[.bool (decide (q < 0)), v], .agg #[.bool (decide (r < 0)), u]]) ∧ Dg w' v q.natAbs ∧ Dg w' u r.natAbs ∧ Below w.heap.size w w'
/-- what lies in memory while Quotient runs -/
structure Qt (w W : World) (b : Bool) (va : Value) (c : Bool) (vb : Value) : Prop where
  ka : Blk W w.heap.size 73 [.bool b, va]
  kb : Blk W (w.heap.size + 1) 73 [.bool c, vb]
  k2 : Blk W (w.heap.size + 1 + 1) 73 [.bool false, .slice none 0 0]
  k3 : Blk W (w.heap.size + 1 + 1 + 1) 73 [.bool false, .slice none 0 0]
  bel : Below w.heap.size w W
theorem Qt.next {w W W' : World} {b c : Bool} {va vb : Value} (h : Qt w W b va c vb) (hb : Below W.heap.size W W') : Qt w W' b va c vb :=
  ⟨h.ka.below hb h.ka.lt, h.kb.below hb h.kb.lt, h.k2.below hb h.k2.lt, h.k3.below hb h.k3.lt, h.bel.trans (hb.mono h.bel.size)⟩
theorem Qt.mk0 (w : World) (b c : Bool) (va vb : Value) : Qt w ((((w.alloc (.cells #[.bool b, va] 73)).alloc (.cells #[.bool c, vb] 73)).alloc (.cells #[.bool false, .slice none 0 0] 73)).alloc (.cells #[.bool false, .slice none 0 0] 73)) b va c vb := by
  have hx := bx3_mk 73 w #[.bool b, va] #[.bool c, vb]
  have h4 := Blk.new ((((w.alloc (.cells #[.bool b, va] 73)).alloc (.cells #[.bool c, vb] 73)).alloc (.cells #[.bool false, .slice none 0 0] 73))) #[.bool false, .slice none 0 0] 73
  simp at h4
  exact ⟨hx.bx.alloc _, hx.by'.alloc _, hx.res.alloc _, h4, hx.below.trans ((bSelf0 _ _).mono hx.below.size)⟩
/-- a row of digits is no cell of a number -/
theorem Dg.ne73 {w : World} {v : Value} {n g : Nat} {cs : List Value} (h : Dg w v n) (hb : Blk w g 73 cs) : v.ownBlock ≠ some g := by
  intro hg
  rcases row_cases h with ⟨_, h2 | ⟨g', cs', h2, _, _, h5, _⟩⟩
  · rw [h2.1] at hg; cases hg
  · rw [h2] at hg
    simp [Value.ownBlock] at hg
    subst hg
    have h9 : some (Obj.cells cs'.toArray 3 (0, 0)) = some (Obj.cells cs.toArray 73 (0, 0)) := h5.symm.trans hb
    simp at h9
theorem quo_end {w W : World} {b c b1 b2 : Bool} {va vb v u : Value} {q r : Int} (h : Qt w W b va c vb) (hv : Dg W v q.natAbs) (hu : Dg W u r.natAbs) (h1 : b1 = decide (q < 0)) (h2 : b2 = decide (r < 0)) :
    NmR2 q r w (.returned (.tuple #[.agg #[.bool b1, v], .agg #[.bool b2, u]])) ((((W.setCell ⟨w.heap.size + 1 + 1, 0, none⟩ (.bool b1)).setCell ⟨w.heap.size + 1 + 1, 1, none⟩ v).setCell ⟨w.heap.size + 1 + 1 + 1, 0, none⟩ (.bool b2)).setCell ⟨w.heap.size + 1 + 1 + 1, 1, none⟩ u) := by
  have a1 := hv.ne73 h.k2
  have a2 := hv.ne73 h.k3
  have a3 := hu.ne73 h.k2
  have a4 := hu.ne73 h.k3
  refine ⟨v, u, by rw [h1, h2], (((hv.setCell a1).setCell a1).setCell a2).setCell a2, (((hu.setCell a3).setCell a3).setCell a4).setCell a4, ?_⟩
  exact (((h.bel.setCell (p := ⟨w.heap.size + 1 + 1, 0, none⟩) (by show w.heap.size ≤ w.heap.size + 1 + 1; omega) _).setCell (p := ⟨w.heap.size + 1 + 1, 1, none⟩) (by show w.heap.size ≤ w.heap.size + 1 + 1; omega) _).setCell (p := ⟨w.heap.size + 1 + 1 + 1, 0, none⟩) (by show w.heap.size ≤ w.heap.size + 1 + 1 + 1; omega) _).setCell (p := ⟨w.heap.size + 1 + 1 + 1, 1, none⟩) (by show w.heap.size ≤ w.heap.size + 1 + 1 + 1; omega) _
theorem quo_cells {w W : World} {b c b1 b2 : Bool} {va vb v u : Value} (h : Qt w W b va c vb) :
    (W.setCell ⟨w.heap.size + 1 + 1, 0, none⟩ (.bool b1)).cell? ⟨w.heap.size + 1 + 1, 0, none⟩ = some (.bool b1) ∧
    ((W.setCell ⟨w.heap.size + 1 + 1, 0, none⟩ (.bool b1)).setCell ⟨w.heap.size + 1 + 1, 1, none⟩ v).cell? ⟨w.heap.size + 1 + 1, 1, none⟩ = some v ∧
    (((W.setCell ⟨w.heap.size + 1 + 1, 0, none⟩ (.bool b1)).setCell ⟨w.heap.size + 1 + 1, 1, none⟩ v).setCell ⟨w.heap.size + 1 + 1 + 1, 0, none⟩ (.bool b2)).cell? ⟨w.heap.size + 1 + 1 + 1, 0, none⟩ = some (.bool b2) ∧
    ((((W.setCell ⟨w.heap.size + 1 + 1, 0, none⟩ (.bool b1)).setCell ⟨w.heap.size + 1 + 1, 1, none⟩ v).setCell ⟨w.heap.size + 1 + 1 + 1, 0, none⟩ (.bool b2)).setCell ⟨w.heap.size + 1 + 1 + 1, 1, none⟩ u).cell? ⟨w.heap.size + 1 + 1 + 1, 1, none⟩ = some u := by
  have hA := (h.k2.set 0 (.bool b1)).set 1 v
  have hB : Blk ((W.setCell ⟨w.heap.size + 1 + 1, 0, none⟩ (.bool b1)).setCell ⟨w.heap.size + 1 + 1, 1, none⟩ v) (w.heap.size + 1 + 1 + 1) 73 [.bool false, .slice none 0 0] := (h.k3.setOther _ _ (by simp)).setOther _ _ (by simp)
  exact ⟨(h.k2.set 0 _).cell 0 rfl, hA.cell 1 rfl, (hB.set 0 _).cell 0 rfl, ((hB.set 0 _).set 1 _).cell 1 rfl⟩
theorem one_dg (w : World) : Dg (w.alloc (.cells #[.int .i64 1] 3)) (.slice (some ⟨w.heap.size, 0, none⟩) 1 1) 1 := by
  have h := ownsRow_mono (built_row w 1) (Nat.zero_le _)
  simpa [Dg, dgs, dgsF] using h
theorem fq_same (x y : Int) (b : Bool) (h1 : b = decide (x < 0)) (h2 : b = decide (y < 0)) (_hy : y ≠ 0) :
    (false && decide (0 < x.natAbs / y.natAbs)) = decide (fq x y < 0) ∧ (b && decide (0 < x.natAbs % y.natAbs)) = decide (fr x y < 0) ∧ (fq x y).natAbs = x.natAbs / y.natAbs ∧ (fr x y).natAbs = x.natAbs % y.natAbs := by
  have hb : (b != b) = false := by simp
  have h := fq_fr_plain x y b b ((b != b) && decide (0 < x.natAbs / y.natAbs)) (b && decide (0 < x.natAbs % y.natAbs)) _ _ h1 h2 rfl rfl rfl rfl (.inr hb)
  rw [hb] at h
  exact h
theorem fq_other (x y : Int) (b c : Bool) (h1 : b = decide (x < 0)) (h2 : c = decide (y < 0)) (hbc : (b == c) = false) (hy : y ≠ 0) :
    (x.natAbs % y.natAbs = 0 → (true && decide (0 < x.natAbs / y.natAbs)) = decide (fq x y < 0) ∧ (c && decide (0 < x.natAbs % y.natAbs)) = decide (fr x y < 0) ∧ (fq x y).natAbs = x.natAbs / y.natAbs ∧ (fr x y).natAbs = x.natAbs % y.natAbs) ∧
    (x.natAbs % y.natAbs ≠ 0 → (true && decide (0 < x.natAbs / y.natAbs + 1)) = decide (fq x y < 0) ∧ (c && decide (0 < y.natAbs - x.natAbs % y.natAbs)) = decide (fr x y < 0) ∧ (fq x y).natAbs = x.natAbs / y.natAbs + 1 ∧ (fr x y).natAbs = y.natAbs - x.natAbs % y.natAbs) := by
  have hd : (decide (x < 0) != decide (y < 0)) = true := by
    rw [← h1, ← h2, bne_iff_ne]
    intro h
    rw [h] at hbc
    simp at hbc
  have hlt := Nat.mod_lt x.natAbs (show 0 < y.natAbs by omega)
  unfold fq fr
  generalize x.natAbs / y.natAbs = Q at *
  generalize x.natAbs % y.natAbs = R at *
  subst h1 h2
  have hxy : (x < 0 ∧ ¬ y < 0) ∨ (¬ x < 0 ∧ y < 0) := by
    by_cases hx : x < 0 <;> by_cases hyn : y < 0
    · simp [hx, hyn] at hd
    · exact .inl ⟨hx, hyn⟩
    · exact .inr ⟨hx, hyn⟩
    · simp [hx, hyn] at hd
  rw [hd]
  refine ⟨fun h0 => ?_, fun h0 => ?_⟩
  · subst h0
    simp
    try omega
  · simp only [h0, ne_eq, not_false_eq_true, and_self, if_true]
    rcases hxy with ⟨hx, hyn⟩ | ⟨hx, hyn⟩
    · simp only [hx, hyn, if_true, decide_false, Bool.false_and, Bool.true_and]
      refine ⟨?_, ?_, by omega, by omega⟩
      · rw [decide_eq_decide]; omega
      · symm; simp; omega
    · simp only [hx, hyn, if_false, decide_true, Bool.true_and]
      refine ⟨?_, ?_, by omega, by omega⟩
      · rw [decide_eq_decide]; omega
      · rw [decide_eq_decide]; omega
set_option maxRecDepth 100000 in
set_option maxHeartbeats 4000000 in
theorem t67 (x y : Int) (b c : Bool) (va vb : Value) (w : World) (hb : b = decide (x < 0)) (hc : c = decide (y < 0)) (hy : y ≠ 0) (hA : Dg w va x.natAbs) (hB : Dg w vb y.natAbs) (hl : Ld x.natAbs ≤ 90000) (hl' : Ld y.natAbs ≤ 90000) :
    Calls Tryz.prog 67 #[.agg #[.bool b, va], .agg #[.bool c, vb]] w (NmR2 (fq x y) (fr x y) w) := by
  obtain ⟨pa, ca, rfl, -, -, -⟩ := hA.cells
  obtain ⟨pb, cb, rfl, -, -, -⟩ := hB.cells
  have S0 := Lib.hid (Qt.mk0 w b c (.slice pa (Ld x.natAbs) ca) (.slice pb (Ld y.natAbs) cb))
  have HB := Lib.hid hB
  have C1 := Lib.hid (t125 _ _ x.natAbs y.natAbs _ (hA.below S0.out.bel) (hB.below S0.out.bel) (by omega) (by omega) (by omega))
  have HSM := Lib.hid (fun (h : b = c) => fq_same x y b hb (h.trans hc) hy)
  have HOT := Lib.hid (fun h => fq_other x y b c hb hc h hy)
  have HY0 : Hid (0 < y.natAbs) := by show _ < _; omega
  have HLQ : Hid (Ld (x.natAbs / y.natAbs) ≤ 90000) := Nat.le_trans (Ld_mono (Nat.div_le_self _ _)) hl
  have HLY := Lib.hid hl'
  clear hA hB hb hc hy hl hl'
  go_enter Tryz.func67, Tryz.ntmps67
  go_wp2_with fail
  refine C1.out.mono ?_
  rintro e w1 ⟨v1, u1, rfl, hq, hr, hb1⟩
  have S := Lib.hid (S0.out.next hb1)
  have HQ := Lib.hid hq
  have HR := Lib.hid hr
  obtain ⟨pq, cq, rfl, -, -, -⟩ := hq.cells
  obtain ⟨pr, cr, rfl, -, -, -⟩ := hr.cells
  have h1 := S.out.ka.cell 0 rfl
  have h2 := S.out.kb.cell 0 rfl
  clear S0 C1 hq hr hb1
  by_cases hbc : b = c
  · subst hbc
    have hs := HSM.out rfl
    have HS := Lib.hid hs
    clear hs HSM HOT
    have j0 : w1.drew.cell? ⟨w.heap.size + 1, 0, none⟩ = some (.bool b) := h2
    have hg2 : w.heap.size + 1 + 1 + 1 < w1.heap.size := S.out.k3.lt
    obtain ⟨b1, hb1⟩ : ∃ b1 : Bool, b1 = (false && decide (0 < x.natAbs / y.natAbs)) := ⟨_, rfl⟩
    obtain ⟨b2, hb2⟩ : ∃ b2 : Bool, b2 = (b && decide (0 < x.natAbs % y.natAbs)) := ⟨_, rfl⟩
    have D1 := Lib.hid (fun (W : World) (h : Dg W (.slice pq (Ld (x.natAbs / y.natAbs)) cq) (x.natAbs / y.natAbs)) => hb1 ▸ t79 false (.slice pq (Ld (x.natAbs / y.natAbs)) cq) (x.natAbs / y.natAbs) W h)
    have D2 := Lib.hid (fun (W : World) (h : Dg W (.slice pr (Ld (x.natAbs % y.natAbs)) cr) (x.natAbs % y.natAbs)) => hb2 ▸ t79 b (.slice pr (Ld (x.natAbs % y.natAbs)) cr) (x.natAbs % y.natAbs) W h)
    have HF : Hid (b1 = decide (fq x y < 0) ∧ b2 = decide (fr x y < 0) ∧ (fq x y).natAbs = x.natAbs / y.natAbs ∧ (fr x y).natAbs = x.natAbs % y.natAbs) := by show _ ∧ _; rw [hb1, hb2]; exact HS.out
    clear hb1 hb2
    go_wp2_with fail
    go_region_held3 (fun w' => w'.cell? ⟨w.heap.size + 1, 0, none⟩ = some (.bool b))
      (first
        | exact j0
        | exact j1
        | exact j2
        | exact cell_far (cell_far j2 (by omega)) (by omega)
        | exact cell_far (cell_far (cell_far (cell_far j2 (by omega)) (by omega)) (by omega)) (by omega)
        | fail "nokeep")
      (first
        | (go_at_call 79; (with_reducible refine (D1.out _ (HQ.out.below (Below.refl _ _).drew)).mono ?_); rintro e w7 ⟨rfl, hb7⟩; have j1 := below_cell hb7 j0)
        | (go_at_call 79; (with_reducible refine (D2.out w7 ((HR.out.below (Below.refl _ _).drew).below hb7)).mono ?_); rintro e w8 ⟨rfl, hb8⟩; have j2 := below_cell hb8 j1; have hb78 := hb7.trans (hb8.mono hb7.size); have S8 := (S.out.next (Below.refl _ _).drew).next hb78; have s20 := S8.k2.cell 0 rfl; have s21 := S8.k2.cell 1 rfl; have s2f0 := S8.k2.free 0; have s2f1 := S8.k2.free 1; have s30 := S8.k3.cell 0 rfl; have s31 := S8.k3.cell 1 rfl; have s3f0 := S8.k3.free 0; have s3f1 := S8.k3.free 1; have HS8 := Lib.hid S8; have HQ8 := Lib.hid ((HQ.out.below (Below.refl _ _).drew).below hb78); have HR8 := Lib.hid ((HR.out.below (Below.refl _ _).drew).below hb78); clear S8 hb78)
        | fail "noarm")
    obtain ⟨g0, g1, g2, g3⟩ := quo_cells (b1 := b1) (b2 := b2) (v := .slice pq (Ld (x.natAbs / y.natAbs)) cq) (u := .slice pr (Ld (x.natAbs % y.natAbs)) cr) HS8.out
    have HG := Lib.hid HS8.out.k3.lt
    clear j0 j1 j2
    all_goals (
      go_wp2
      refine bodyPost_ret (v := .tuple #[.agg #[.bool b1, .slice pq (Ld (x.natAbs / y.natAbs)) cq], .agg #[.bool b2, .slice pr (Ld (x.natAbs % y.natAbs)) cr]]) (by simp [results, Tryz.results67, go_sem, g0, g1, g2, g3]) rfl ?_
      exact quo_end HS8.out (by rw [HF.out.2.2.1]; exact HQ8.out) (by rw [HF.out.2.2.2]; exact HR8.out) HF.out.1 HF.out.2.1)

  · have hne : (b == c) = false := by rw [beq_eq_false_iff_ne]; exact hbc
    have HO := Lib.hid (HOT.out hne)
    clear hbc HSM HOT
    by_cases hR : x.natAbs % y.natAbs = 0
    · have HS := Lib.hid (HO.out.1 hR)
      have hz : ¬ ((0 : Int) < Ld (x.natAbs % y.natAbs)) := by rw [hR]; decide
      have j0 : w1.drew.cell? ⟨w.heap.size + 1, 0, none⟩ = some (.bool c) := h2
      have hg2 : w.heap.size + 1 + 1 + 1 < w1.heap.size := S.out.k3.lt
      clear HO hR
      obtain ⟨b1, hb1⟩ : ∃ b1 : Bool, b1 = (true && decide (0 < x.natAbs / y.natAbs)) := ⟨_, rfl⟩
      obtain ⟨b2, hb2⟩ : ∃ b2 : Bool, b2 = (c && decide (0 < x.natAbs % y.natAbs)) := ⟨_, rfl⟩
      have D1 := Lib.hid (fun (W : World) (h : Dg W (.slice pq (Ld (x.natAbs / y.natAbs)) cq) (x.natAbs / y.natAbs)) => hb1 ▸ t79 true (.slice pq (Ld (x.natAbs / y.natAbs)) cq) (x.natAbs / y.natAbs) W h)
      have D2 := Lib.hid (fun (W : World) (h : Dg W (.slice pr (Ld (x.natAbs % y.natAbs)) cr) (x.natAbs % y.natAbs)) => hb2 ▸ t79 c (.slice pr (Ld (x.natAbs % y.natAbs)) cr) (x.natAbs % y.natAbs) W h)
      have HF : Hid (b1 = decide (fq x y < 0) ∧ b2 = decide (fr x y < 0) ∧ (fq x y).natAbs = x.natAbs / y.natAbs ∧ (fr x y).natAbs = x.natAbs % y.natAbs) := by show _ ∧ _; rw [hb1, hb2]; exact HS.out
      clear hb1 hb2
      go_wp2_with fail
      go_region_held3 (fun w' => w'.cell? ⟨w.heap.size + 1, 0, none⟩ = some (.bool c))
        (first
          | exact j0
          | exact j1
          | exact j2
          | exact cell_far (cell_far j2 (by omega)) (by omega)
          | exact cell_far (cell_far (cell_far (cell_far j2 (by omega)) (by omega)) (by omega)) (by omega)
          | fail "nokeep")
        (first
          | (go_at_call 79; (with_reducible refine (D1.out _ (HQ.out.below (Below.refl _ _).drew)).mono ?_); rintro e w7 ⟨rfl, hb7⟩; have j1 := below_cell hb7 j0)
          | (go_at_call 79; (with_reducible refine (D2.out w7 ((HR.out.below (Below.refl _ _).drew).below hb7)).mono ?_); rintro e w8 ⟨rfl, hb8⟩; have j2 := below_cell hb8 j1; have hb78 := hb7.trans (hb8.mono hb7.size); have S8 := (S.out.next (Below.refl _ _).drew).next hb78; have s20 := S8.k2.cell 0 rfl; have s21 := S8.k2.cell 1 rfl; have s2f0 := S8.k2.free 0; have s2f1 := S8.k2.free 1; have s30 := S8.k3.cell 0 rfl; have s31 := S8.k3.cell 1 rfl; have s3f0 := S8.k3.free 0; have s3f1 := S8.k3.free 1; have HS8 := Lib.hid S8; have HQ8 := Lib.hid ((HQ.out.below (Below.refl _ _).drew).below hb78); have HR8 := Lib.hid ((HR.out.below (Below.refl _ _).drew).below hb78); clear S8 hb78)
          | fail "noarm")
      obtain ⟨g0, g1, g2, g3⟩ := quo_cells (b1 := b1) (b2 := b2) (v := .slice pq (Ld (x.natAbs / y.natAbs)) cq) (u := .slice pr (Ld (x.natAbs % y.natAbs)) cr) HS8.out
      have HG := Lib.hid HS8.out.k3.lt
      clear j0 j1 j2
      all_goals (
        go_wp2
        refine bodyPost_ret (v := .tuple #[.agg #[.bool b1, .slice pq (Ld (x.natAbs / y.natAbs)) cq], .agg #[.bool b2, .slice pr (Ld (x.natAbs % y.natAbs)) cr]]) (by simp [results, Tryz.results67, go_sem, g0, g1, g2, g3]) rfl ?_
        exact quo_end HS8.out (by rw [HF.out.2.2.1]; exact HQ8.out) (by rw [HF.out.2.2.2]; exact HR8.out) HF.out.1 HF.out.2.1)

    · have HS := Lib.hid (HO.out.2 hR)
      have hz : (0 : Int) < Ld (x.natAbs % y.natAbs) := by have := Ld_pos (show 0 < x.natAbs % y.natAbs by omega); omega
      have HRL : Hid (x.natAbs % y.natAbs ≤ y.natAbs) := Nat.le_of_lt (Nat.mod_lt _ HY0.out)
      have C5 := Lib.hid (t76 _ _ (x.natAbs / y.natAbs) 1 _ (HQ.out.below (bSelf0 w1 (.cells #[.int .i64 1] 3))) (one_dg w1) (Nat.le_trans HLQ.out (by omega)) (by decide))
      clear HO hR
      go_wp2_with fail
      refine C5.out.mono ?_
      rintro e w2 ⟨v2, rfl, hv2, hb2, -⟩
      obtain ⟨p2, c2, rfl, -, -, -⟩ := hv2.cells
      have hb12 := (bSelf0 w1 (.cells #[.int .i64 1] 3)).trans (hb2.mono (by simp))
      have S2 := Lib.hid (S.out.next hb12)
      have HR2 := Lib.hid (HR.out.below hb12)
      have HV2 := Lib.hid hv2
      have HB2 := Lib.hid ((HB.out.below S.out.bel).below hb12)
      have f3 := S2.out.kb.cell 1 rfl
      clear hv2 hb2 hb12 C5 HR HQ h1 h2
      go_wp2_with fail
      refine (t126 _ _ y.natAbs (x.natAbs % y.natAbs) w2 HB2.out HR2.out (Nat.le_trans HLY.out (by omega)) HRL.out).mono ?_
      rintro e w3 ⟨v3, rfl, hv3, hb3, -⟩
      obtain ⟨p3, c3, rfl, -, -, -⟩ := hv3.cells
      have S := Lib.hid (S2.out.next hb3)
      have HQ := Lib.hid (HV2.out.below hb3)
      have HR := Lib.hid hv3
      have h2 := S.out.kb.cell 0 rfl
      have j0 : w3.drew.cell? ⟨w.heap.size + 1, 0, none⟩ = some (.bool c) := h2
      have hg2 : w.heap.size + 1 + 1 + 1 < w3.heap.size := S.out.k3.lt
      clear hv3 hb3 S2 HV2 HR2 HB2 f3 hz
      obtain ⟨b1, hb1⟩ : ∃ b1 : Bool, b1 = (true && decide (0 < x.natAbs / y.natAbs + 1)) := ⟨_, rfl⟩
      obtain ⟨b2, hb2⟩ : ∃ b2 : Bool, b2 = (c && decide (0 < y.natAbs - x.natAbs % y.natAbs)) := ⟨_, rfl⟩
      have D1 := Lib.hid (fun (W : World) (h : Dg W (.slice p2 (Ld (x.natAbs / y.natAbs + 1)) c2) (x.natAbs / y.natAbs + 1)) => hb1 ▸ t79 true (.slice p2 (Ld (x.natAbs / y.natAbs + 1)) c2) (x.natAbs / y.natAbs + 1) W h)
      have D2 := Lib.hid (fun (W : World) (h : Dg W (.slice p3 (Ld (y.natAbs - x.natAbs % y.natAbs)) c3) (y.natAbs - x.natAbs % y.natAbs)) => hb2 ▸ t79 c (.slice p3 (Ld (y.natAbs - x.natAbs % y.natAbs)) c3) (y.natAbs - x.natAbs % y.natAbs) W h)
      have HF : Hid (b1 = decide (fq x y < 0) ∧ b2 = decide (fr x y < 0) ∧ (fq x y).natAbs = x.natAbs / y.natAbs + 1 ∧ (fr x y).natAbs = y.natAbs - x.natAbs % y.natAbs) := by show _ ∧ _; rw [hb1, hb2]; exact HS.out
      clear hb1 hb2
      go_wp2_with fail
      go_region_held3 (fun w' => w'.cell? ⟨w.heap.size + 1, 0, none⟩ = some (.bool c))
        (first
          | exact j0
          | exact j1
          | exact j2
          | exact cell_far (cell_far j2 (by omega)) (by omega)
          | exact cell_far (cell_far (cell_far (cell_far j2 (by omega)) (by omega)) (by omega)) (by omega)
          | fail "nokeep")
        (first
          | (go_at_call 79; (with_reducible refine (D1.out _ (HQ.out.below (Below.refl _ _).drew)).mono ?_); rintro e w7 ⟨rfl, hb7⟩; have j1 := below_cell hb7 j0)
          | (go_at_call 79; (with_reducible refine (D2.out w7 ((HR.out.below (Below.refl _ _).drew).below hb7)).mono ?_); rintro e w8 ⟨rfl, hb8⟩; have j2 := below_cell hb8 j1; have hb78 := hb7.trans (hb8.mono hb7.size); have S8 := (S.out.next (Below.refl _ _).drew).next hb78; have s20 := S8.k2.cell 0 rfl; have s21 := S8.k2.cell 1 rfl; have s2f0 := S8.k2.free 0; have s2f1 := S8.k2.free 1; have s30 := S8.k3.cell 0 rfl; have s31 := S8.k3.cell 1 rfl; have s3f0 := S8.k3.free 0; have s3f1 := S8.k3.free 1; have HS8 := Lib.hid S8; have HQ8 := Lib.hid ((HQ.out.below (Below.refl _ _).drew).below hb78); have HR8 := Lib.hid ((HR.out.below (Below.refl _ _).drew).below hb78); clear S8 hb78)
          | fail "noarm")
      obtain ⟨g0, g1, g2, g3⟩ := quo_cells (b1 := b1) (b2 := b2) (v := .slice p2 (Ld (x.natAbs / y.natAbs + 1)) c2) (u := .slice p3 (Ld (y.natAbs - x.natAbs % y.natAbs)) c3) HS8.out
      have HG := Lib.hid HS8.out.k3.lt
      clear j0 j1 j2
      all_goals (
        go_wp2
        refine bodyPost_ret (v := .tuple #[.agg #[.bool b1, .slice p2 (Ld (x.natAbs / y.natAbs + 1)) c2], .agg #[.bool b2, .slice p3 (Ld (y.natAbs - x.natAbs % y.natAbs)) c3]]) (by simp [results, Tryz.results67, go_sem, g0, g1, g2, g3]) rfl ?_
        exact quo_end HS8.out (by rw [HF.out.2.2.1]; exact HQ8.out) (by rw [HF.out.2.2.2]; exact HR8.out) HF.out.1 HF.out.2.1)
set_option maxRecDepth 100000 in
theorem run_field1 (b : Bool) (p : Option Addr) (n c : Nat) (w : World) : (Instr.field 73 (.agg #[.bool b, .slice p n c]) 1).run Tryz.prog w = .ok (.slice p n c) w := by rfl
theorem ld_gcd {x y : Int} (hx : fits x) (hy : fits y) : Ld (Nat.gcd x.natAbs y.natAbs) ≤ 100000 := by
  by_cases h : x.natAbs = 0
  · rw [h, Nat.gcd_zero_left]; exact ldf hy
  · exact Nat.le_trans (Ld_mono (Nat.gcd_le_left _ (by omega))) (ldf hx)
theorem t62f (z : Int) (b : Bool) (va : Value) (w : World) (hb : b = decide (z < 0)) (hA : Dg w va z.natAbs) (hl : Ld z.natAbs ≤ 100000) (hf : fits z) :
    Calls Tryz.prog 62 #[.agg #[.bool b, va]] w fun e w' => e = .returned (.tuple #[.string (numS z), .int .i64 0]) ∧ Below w.heap.size w w' :=
  (t62 z b va w hb hA hl).mono fun e w' h => by
    unfold ToldR at h
    rw [toldS_fits hf, toldE_fits hf] at h
    exact h
theorem fq_abs (x y : Int) (hy : y ≠ 0) : (fq x y).natAbs ≤ x.natAbs := by
  have hd := Nat.mod_add_div x.natAbs y.natAbs
  have h1 : 1 * (x.natAbs / y.natAbs) ≤ y.natAbs * (x.natAbs / y.natAbs) := Nat.mul_le_mul_right _ (by omega)
  unfold fq
  generalize y.natAbs * (x.natAbs / y.natAbs) = P at *
  generalize x.natAbs / y.natAbs = Q at *
  generalize x.natAbs % y.natAbs = R at *
  split
  · rename_i h; have := h.2; omega
  · split <;> omega
theorem fr_abs (x y : Int) (hy : y ≠ 0) : (fr x y).natAbs ≤ y.natAbs := by
  obtain ⟨-, h1, h2⟩ := fqr x y hy
  by_cases h : 0 < y
  · have := h1 h; omega
  · have := h2 (by omega); omega
theorem fq_fits (x y : Int) (hy : y ≠ 0) (hx : fits x) : fits (fq x y) := Nat.le_trans (dgs_length_mono (by omega) (fq_abs x y hy)) hx
set_option maxRecDepth 100000 in
set_option maxHeartbeats 2000000 in
theorem t52 (s t : ByteArray) (w : World) (hs : s.size ≤ 9223372036854775807) (ht : t.size ≤ 9223372036854775807) : Calls Tryz.prog 52 #[.string s, .string t] w (RkR s.data.toList t.data.toList (.tuple #[.string ⟨#[]⟩, .int .i64 1]) (fun x y => .tuple #[.string (toldS ((Nat.gcd x.natAbs y.natAbs : Nat) : Int)), .int .i64 (toldE ((Nat.gcd x.natAbs y.natAbs : Nat) : Int))]) w) := by
  have HC := Lib.hid (all2 s t w hs ht)
  have HB0 : Hid (Below w.heap.size w (w.alloc (.cells #[.string s, .string t] 9))) := bSelf0 w _
  clear hs ht
  cases hv : (vldL s.data.toList && vldL t.data.toList) with
  | false =>
    rw [hv] at HC
    have HV : Hid (vldL s.data.toList = false ∨ vldL t.data.toList = false) := by
      show _ ∨ _
      cases h1 : vldL s.data.toList with
      | false => exact .inl rfl
      | true => rw [h1] at hv; exact .inr hv
    clear hv
    go_enter Tryz.func52, Tryz.ntmps52
    go_wp2_with fail
    refine HC.out.mono ?_
    rintro e w1 ⟨rfl, rfl⟩
    go_wp2_with fail
    go_ret2
    exact .inl ⟨HV.out, rfl, HB0.out⟩
  | true =>
    rw [hv] at HC
    rw [Bool.and_eq_true] at hv
    obtain ⟨x, hx⟩ := vldL_num _ hv.1
    obtain ⟨y, hy⟩ := vldL_num _ hv.2
    have HX := Lib.hid hx
    have HY := Lib.hid hy
    clear hv hx hy
    go_enter Tryz.func52, Tryz.ntmps52
    go_wp2_with fail
    refine HC.out.mono ?_
    rintro e w1 ⟨rfl, rfl⟩
    go_wp2_with fail
    refine (t60 s x _ HX.out).mono ?_
    rintro e w2 ⟨v2, rfl, hv2, hb2⟩
    obtain ⟨p2, c2, rfl, -, -, -⟩ := hv2.cells
    have hf2 := fun (W : World) => run_field1 (decide (x < 0)) p2 (Ld x.natAbs) c2 W
    have HV2 := Lib.hid hv2
    have HB2 := Lib.hid (HB0.out.trans (hb2.mono HB0.out.size))
    clear hv2 hb2
    go_wp2_with fail
    refine (t60 t y _ HY.out).mono ?_
    rintro e w3 ⟨v3, rfl, hv3, hb3⟩
    obtain ⟨p3, c3, rfl, -, -, -⟩ := hv3.cells
    have hf3 := fun (W : World) => run_field1 (decide (y < 0)) p3 (Ld y.natAbs) c3 W
    have HV2b := Lib.hid (HV2.out.below hb3)
    have HV3 := Lib.hid hv3
    have HB3 := Lib.hid (HB2.out.trans (hb3.mono HB2.out.size))
    clear hv3 hb3 HV2 HB2
    go_wp2_with fail
    refine (t119 _ _ x.natAbs y.natAbs w3 HV2b.out HV3.out (ldf HX.out.2) (ldf HY.out.2)).mono ?_
    rintro e w4 ⟨v4, rfl, hv4, hb4⟩
    obtain ⟨p4, c4, rfl, -, -, -⟩ := hv4.cells
    have HV4 : Hid (Dg w4 (.slice p4 (Ld (Nat.gcd x.natAbs y.natAbs)) c4) (((Nat.gcd x.natAbs y.natAbs : Nat) : Int)).natAbs) := by show Dg _ _ _; rw [Int.natAbs_natCast]; exact hv4
    have HB4 := Lib.hid (HB3.out.trans (hb4.mono HB3.out.size))
    have C5 := Lib.hid (t62 ((Nat.gcd x.natAbs y.natAbs : Nat) : Int) false _ w4 (by simp) HV4.out (by rw [Int.natAbs_natCast]; exact ld_gcd HX.out.2 HY.out.2))
    clear hv4 hb4
    go_wp2_with fail
    refine C5.out.mono ?_
    rintro e w5 ⟨rfl, hb5⟩
    go_wp2_with fail
    go_ret2
    exact .inr ⟨x, y, HX.out, HY.out, rfl, HB4.out.trans (hb5.mono HB4.out.size)⟩
set_option maxRecDepth 100000 in
set_option maxHeartbeats 2000000 in
theorem t51 (s t : ByteArray) (w : World) (hs : s.size ≤ 9223372036854775807) (ht : t.size ≤ 9223372036854775807) : Calls Tryz.prog 51 #[.string s, .string t] w (RkR s.data.toList t.data.toList (.tuple #[.string ⟨#[]⟩, .string ⟨#[]⟩, .int .i64 1]) DivT w) := by
  have HC := Lib.hid (all2 s t w hs ht)
  have HB0 : Hid (Below w.heap.size w (w.alloc (.cells #[.string s, .string t] 9))) := bSelf0 w _
  clear hs ht
  cases hv : (vldL s.data.toList && vldL t.data.toList) with
  | false =>
    rw [hv] at HC
    have HV : Hid (vldL s.data.toList = false ∨ vldL t.data.toList = false) := by
      show _ ∨ _
      cases h1 : vldL s.data.toList with
      | false => exact .inl rfl
      | true => rw [h1] at hv; exact .inr hv
    clear hv
    go_enter Tryz.func51, Tryz.ntmps51
    go_wp2_with fail
    refine HC.out.mono ?_
    rintro e w1 ⟨rfl, rfl⟩
    go_wp2_with fail
    go_ret3
    exact .inl ⟨HV.out, rfl, HB0.out⟩
  | true =>
    rw [hv] at HC
    rw [Bool.and_eq_true] at hv
    obtain ⟨x, hx⟩ := vldL_num _ hv.1
    obtain ⟨y, hy⟩ := vldL_num _ hv.2
    have HX := Lib.hid hx
    have HY := Lib.hid hy
    clear hv hx hy
    by_cases hy0 : y = 0
    · subst hy0
      have hts : (t.toList == [48]) = true := by
        rw [ByteArray.toList_eq, HY.out.1]; rfl
      go_enter Tryz.func51, Tryz.ntmps51
      go_wp2_with fail
      refine HC.out.mono ?_
      rintro e w1 ⟨rfl, rfl⟩
      go_wp2_with fail
      go_ret3
      exact .inr ⟨x, 0, HX.out, HY.out, rfl, HB0.out⟩
    have HY0 := Lib.hid hy0
    have hts : (t.toList == [48]) = false := by
      rw [ByteArray.toList_eq, HY.out.1]
      cases hq : (txtZ 10 y == [48]) with
      | false => rfl
      | true => exact absurd (txtZ_inj (b := 10) (y := y) (z := 0) (by omega) (by omega) (by rw [beq_iff_eq.1 hq]; rfl)) hy0
    clear hy0
    go_enter Tryz.func51, Tryz.ntmps51
    go_wp2_with fail
    refine HC.out.mono ?_
    rintro e w1 ⟨rfl, rfl⟩
    go_wp2_with fail
    refine (t60 s x _ HX.out).mono ?_
    rintro e w2 ⟨v2, rfl, hv2, hb2⟩
    obtain ⟨p2, c2, rfl, -, -, -⟩ := hv2.cells
    have HV2 := Lib.hid hv2
    have HB2 := Lib.hid (HB0.out.trans (hb2.mono HB0.out.size))
    clear hv2 hb2
    go_wp2_with fail
    refine (t60 t y _ HY.out).mono ?_
    rintro e w3 ⟨v3, rfl, hv3, hb3⟩
    obtain ⟨p3, c3, rfl, -, -, -⟩ := hv3.cells
    have HV2b := Lib.hid (HV2.out.below hb3)
    have HV3 := Lib.hid hv3
    have HB3 := Lib.hid (HB2.out.trans (hb3.mono HB2.out.size))
    clear hv3 hb3 HV2 HB2
    go_wp2_with fail
    refine (t67 x y _ _ _ _ w3 rfl rfl HY0.out HV2b.out HV3.out (Nat.le_trans HX.out.2 (by omega)) (Nat.le_trans HY.out.2 (by omega))).mono ?_
    rintro e w4 ⟨v4, u4, rfl, hv4, hu4, hb4⟩
    obtain ⟨p4, c4, rfl, -, -, -⟩ := hv4.cells
    obtain ⟨p5, c5, rfl, -, -, -⟩ := hu4.cells
    obtain ⟨b4, hb4e⟩ : ∃ b : Bool, b = decide (fq x y < 0) := ⟨_, rfl⟩
    obtain ⟨b5, hb5e⟩ : ∃ b : Bool, b = decide (fr x y < 0) := ⟨_, rfl⟩
    rw [← hb4e, ← hb5e]
    have hb45 : Below w4.heap.size w4 ((w4.alloc (.cells #[.bool b4, .slice p4 (Ld (fq x y).natAbs) c4] 73)).alloc (.cells #[.bool b5, .slice p5 (Ld (fr x y).natAbs) c5] 73)) := ((Below.refl _ _).alloc (Nat.le_refl _) _).alloc (by simp) _
    have hk5 := Blk.new (w4.alloc (.cells #[.bool b4, .slice p4 (Ld (fq x y).natAbs) c4] 73)) #[.bool b5, .slice p5 (Ld (fr x y).natAbs) c5] 73
    have HK5 : Hid (Blk ((w4.alloc (.cells #[.bool b4, .slice p4 (Ld (fq x y).natAbs) c4] 73)).alloc (.cells #[.bool b5, .slice p5 (Ld (fr x y).natAbs) c5] 73)) (w4.heap.size + 1) 73 [.bool b5, .slice p5 (Ld (fr x y).natAbs) c5]) := by show Blk _ _ _ _; simpa using hk5
    have HB5 := Lib.hid ((HB3.out.trans (hb4.mono HB3.out.size)).trans (hb45.mono (HB3.out.trans (hb4.mono HB3.out.size)).size))
    have C6 := Lib.hid (t62f (fq x y) b4 _ _ hb4e (hv4.below hb45) (Nat.le_trans (Ld_mono (fq_abs x y HY0.out)) (ldf HX.out.2)) (fq_fits x y HY0.out HX.out.2))
    have HU5 := Lib.hid (hu4.below hb45)
    have HE5 := Lib.hid hb5e
    clear hv4 hu4 hb4 hb45 hk5 hb4e hb5e
    go_wp2_with fail
    refine C6.out.mono ?_
    rintro e w6 ⟨rfl, hb6⟩
    have k0 := below_cell hb6 (HK5.out.cell 0 rfl)
    have k1 := below_cell hb6 (HK5.out.cell 1 rfl)
    have C7 := Lib.hid (t118 (fr x y) b5 _ w6 HE5.out (HU5.out.below hb6) (Nat.le_trans (Ld_mono (fr_abs x y HY0.out)) (ldf HY.out.2)))
    have HB6 := Lib.hid (HB5.out.trans (hb6.mono HB5.out.size))
    clear hb6 HU5 HK5
    go_wp2_with fail
    refine C7.out.mono ?_
    rintro e w7 ⟨rfl, hb7⟩
    go_wp2_with fail
    go_ret3
    exact .inr ⟨x, y, HX.out, HY.out, by show _ = Ending.returned (DivT x y); unfold DivT; rw [if_neg HY0.out]; rfl, HB6.out.trans (hb7.mono HB6.out.size)⟩
set_option maxRecDepth 100000 in
set_option maxHeartbeats 4000000 in
theorem t55 (s : ByteArray) (w : World) (hs : s.size ≤ 9223372036854775807) : Calls Tryz.prog 55 #[.string s] w (R1 s.data.toList (.tuple #[.int .i64 0, .int .i64 1]) bitsZ w) := by
  have HC := Lib.hid (all1 s w hs)
  have HB0 : Hid (Below w.heap.size w (w.alloc (.cells #[.string s] 9))) := bSelf0 w _
  clear hs
  cases hv : vldL s.data.toList with
  | false =>
    rw [hv] at HC
    have HV := Lib.hid hv
    clear hv
    go_enter Tryz.func55, Tryz.ntmps55
    go_wp2_with fail
    refine HC.out.mono ?_
    rintro e w1 ⟨rfl, rfl⟩
    go_wp2_with fail
    go_ret2
    exact .inl ⟨HV.out, rfl, HB0.out⟩
  | true =>
    rw [hv] at HC
    obtain ⟨x, hx⟩ := vldL_num _ hv
    have HX := Lib.hid hx
    clear hv hx
    go_enter Tryz.func55, Tryz.ntmps55
    go_wp2_with fail
    refine HC.out.mono ?_
    rintro e w1 ⟨rfl, rfl⟩
    go_wp2_with fail
    refine (t60 s x _ HX.out).mono ?_
    rintro e w2 ⟨v2, rfl, hv2, hb2⟩
    have C3 := Lib.hid (t70 _ x.natAbs 2 w2 hv2 (ldf HX.out.2) (by omega) (by omega))
    obtain ⟨p2, c2, rfl, -, -, -⟩ := hv2.cells
    have hf2 := fun (W : World) => run_field1 (decide (x < 0)) p2 (Ld x.natAbs) c2 W
    have HB2 := Lib.hid (HB0.out.trans (hb2.mono HB0.out.size))
    clear hv2 hb2
    go_wp2_with fail
    refine C3.out.mono ?_
    rintro e w3 ⟨v3, rfl, hv3, hb3⟩
    obtain ⟨p3, c3, rfl⟩ := row_form hv3
    go_wp2_with fail
    go_ret2
    exact .inr ⟨x, HX.out, rfl, HB2.out.trans (hb3.mono HB2.out.size)⟩
theorem built0 (w : World) : (w.alloc (.cells #[] 3)).ownsRow w.heap.size 3 1 (.slice (some ⟨w.heap.size, 0, none⟩) 0 0) 0 (c64 []) := by
  have h := (Blk.new w #[] 3).row (base := w.heap.size) (n := 0) (Nat.le_refl _) (by simp) (by simp [maxLen])
  simpa using h
theorem val_digit (qs : List Nat) (j c : Nat) (hj : j < qs.length) (h0 : qs[j]? = some 0) : val 10 (qs.set j c) = val 10 qs + c * 10 ^ j := by
  have h1 := val_set 10 qs j c hj
  have h2 : qs[j] = 0 := by rw [List.getElem?_eq_getElem hj] at h0; exact Option.some.inj h0
  rw [h2, Nat.mul_zero, Nat.add_zero] at h1
  rw [h1, Nat.mul_comm]
theorem root_start (n : Nat) : n < (0 + 10 ^ (Ld n / 2 + 1)) * (0 + 10 ^ (Ld n / 2 + 1)) := by
  have h := lt_pow_dgs (b := 10) (by omega) n
  rw [Nat.zero_add, ← Nat.pow_add]
  exact Nat.lt_of_lt_of_le h (Nat.pow_le_pow_right (by omega) (by have : (dgs 10 n).length = Ld n := rfl; omega))
theorem root_next (V c P n : Nat) (h : n < (V + P * 10) * (V + P * 10)) (hc : c = 9) : n < (V + c * P + P) * (V + c * P + P) := by
  subst hc
  have : V + 9 * P + P = V + P * 10 := by omega
  rw [this]; exact h
set_option maxRecDepth 100000 in
set_option maxHeartbeats 4000000 in
theorem t53 (s : ByteArray) (w : World) (hs : s.size ≤ 9223372036854775807) : Calls Tryz.prog 53 #[.string s] w (R1 s.data.toList (.tuple #[.string ⟨#[]⟩, .int .i64 1]) rootZ w) := by
  have HC := Lib.hid (all1 s w hs)
  have HB0 : Hid (Below w.heap.size w (w.alloc (.cells #[.string s] 9))) := bSelf0 w _
  clear hs
  cases hv : vldL s.data.toList with
  | false =>
    rw [hv] at HC
    have HV := Lib.hid hv
    clear hv
    go_enter Tryz.func53, Tryz.ntmps53
    go_wp2_with fail
    refine HC.out.mono ?_
    rintro e w1 ⟨rfl, rfl⟩
    go_wp2_with fail
    go_ret2
    exact .inl ⟨HV.out, rfl, HB0.out⟩
  | true =>
    rw [hv] at HC
    obtain ⟨x, hx⟩ := vldL_num _ hv
    have HX := Lib.hid hx
    have hsz : s.data.toList = txtZ 10 x := hx.1
    have hne : txt 10 x.natAbs ≠ [] := txt_ne 10 _ (by omega)
    have hpos : 0 < s.size := by
      show 0 < s.data.toList.length
      rw [hsz]; unfold txtZ
      split
      · simp
      · exact List.length_pos_iff.2 hne
    have hfirst : s.data.toList[0]? = some s[0] := List.getElem?_eq_getElem hpos
    by_cases hneg : x < 0
    · have hz : ((s[0].toNat : Int) == 45) = true := by
        rw [hsz] at hfirst; unfold txtZ at hfirst; rw [if_pos hneg] at hfirst
        rw [← Option.some.inj hfirst]; rfl
      have HR : Hid (rootZ x = .tuple #[.string ⟨#[]⟩, .int .i64 1]) := if_pos hneg
      clear hv hx hsz hne hfirst
      go_enter Tryz.func53, Tryz.ntmps53
      go_wp2_with fail
      refine HC.out.mono ?_
      rintro e w1 ⟨rfl, rfl⟩
      go_wp2_with fail
      go_ret2
      exact .inr ⟨x, HX.out, by rw [HR.out]; rfl, HB0.out⟩
    · have hz : ((s[0].toNat : Int) == 45) = false := by
        rw [hsz] at hfirst; unfold txtZ at hfirst; rw [if_neg hneg] at hfirst
        have h2 := (txt_sign (b := 10) (by omega) (by omega) (List.mem_of_getElem? hfirst)).1
        rw [beq_eq_false_iff_ne]
        exact fun h => h2 (UInt8.toNat_inj.1 (by have : s[0].toNat = 45 := by omega
                                                 exact this))
      have HR : Hid (rootZ x = .tuple #[.string (toldS ((isq x.natAbs : Nat) : Int)), .int .i64 (toldE ((isq x.natAbs : Nat) : Int))]) := if_neg hneg
      clear hv hx hsz hne hfirst hneg
      go_enter Tryz.func53, Tryz.ntmps53
      go_wp2_with fail
      refine HC.out.mono ?_
      rintro e w1 ⟨rfl, rfl⟩
      go_wp2_with fail
      refine (t60 s x _ HX.out).mono ?_
      rintro e w2 ⟨v2, rfl, hv2, hb2⟩
      obtain ⟨p2, c2, rfl, -, -, -⟩ := hv2.cells
      have HV2 := Lib.hid hv2
      have HB2 := Lib.hid (HB0.out.trans (hb2.mono HB0.out.size))
      have hln : Ld x.natAbs ≤ 400 := HX.out.2
      obtain ⟨nn, hnn⟩ : ∃ nn, nn = x.natAbs := ⟨_, rfl⟩
      have HNN := Lib.hid hnn
      have HV2 : Hid (Dg w2 (.slice p2 (Ld nn) c2) nn) := by rw [hnn]; exact HV2.out
      rw [← hnn] at hln ⊢
      have HST := Lib.hid (root_start nn)
      have HLE : Hid (Ld nn = Ld nn) := rfl
      obtain ⟨ll, hll⟩ : ∃ ll, ll = Ld nn / 2 + 1 := ⟨_, rfl⟩
      rw [← hll] at HST
      have HLLI : Hid ((Ld nn : Int) / 2 + 1 = (ll : Int)) := by show _ = _; omega
      have hlb : ll ≤ 201 := by omega
      have HLN : Hid (Ld nn ≤ 400) := hln
      have HLNN : Hid (Ld nn ≤ 400) := hln
      clear hll
      obtain ⟨ln, hlne⟩ : ∃ ln, ln = Ld nn := ⟨_, rfl⟩
      rw [← hlne] at HV2 HLLI HLN hln ⊢
      clear hlne HLE
      have hf2 := fun (W : World) => run_field1 (decide (x < 0)) p2 ln c2 W
      clear hv2 hb2 hnn
      go_wp2_with (at_make; refine mk64 _ rfl _ _ rfl _ _ ll rfl rfl HLLI.out HLLI.out (by omega) ?_; intro w3 hb3 hbl3)
      have HV3 := Lib.hid (HV2.out.below hbl3)
      have HB3 := Lib.hid (HB2.out.trans (hbl3.mono HB2.out.size))
      have hg : w2.heap.size < w3.heap.size := hb3.out.lt
      go_wp2_with fail
      go_loopw [6] (fun i wr => ∃ (k : Nat) (qs : List Nat), k ≤ ll ∧ i = .int .i64 ((k : Int) - 1) ∧ Hid (qs.length = ll) ∧ Hid (∀ z ∈ qs, z < 10) ∧ Hid (∀ m, m < k → qs[m]? = some 0) ∧ Hid (val 10 qs * val 10 qs ≤ nn) ∧ Hid (nn < (val 10 qs + 10 ^ k) * (val 10 qs + 10 ^ k)) ∧ Hid (Blk wr w2.heap.size 3 (c64 qs)) ∧ Below w2.heap.size w2 wr) (fun i _ => (intOf i + 1).toNat)
      case atStart => exact ⟨ll, List.replicate ll 0, Nat.le_refl _, by go_num, by show _ = _; simp, (by intro z hz; rw [(List.mem_replicate.1 hz).2]; omega), (by intro m hm; simp [hm]), by show _ ≤ _; rw [val_replicate]; omega, by show _ < _; rw [val_replicate]; exact HST.out, hb3, hbl3⟩
      case round =>
        obtain ⟨k, qs, hk, rfl, hql, hqd, hqz, hqv, hqn, hqb, hbl⟩ := hrel
        by_cases h0 : k = 0
        · subst h0
          have hrow : wr.ownsRow 0 3 1 (.slice (some ⟨w2.heap.size, 0, none⟩) ll ll) ll (c64 qs) := by
            have h9 := hqb.out.row (base := 0) (n := ll) (Nat.zero_le _) (by simp [hql.out]) (by simp [hql.out]; unfold maxLen; omega)
            rw [List.take_of_length_le (by simp [hql.out])] at h9
            simpa [hql.out] using h9
          have c := t120 _ _ qs wr hrow hqd.out
          have hroot : val 10 qs = isq nn := isRoot_unique ⟨hqv.out, by have := hqn.out; rw [Nat.pow_zero] at this; exact this⟩ (isq_spec nn)
          rw [hroot] at c
          have CC := Lib.hid c
          have hle : isq nn ≤ nn := by rw [← hroot]; have h1 := hqv.out; rcases Nat.eq_zero_or_pos (val 10 qs) with h | h; (omega); (have : val 10 qs * 1 ≤ val 10 qs * val 10 qs := Nat.mul_le_mul_left _ h; omega)
          have hll2 : Ld (isq nn) ≤ 400 := Nat.le_trans (Ld_mono hle) HLNN.out
          have HBE := Lib.hid (HB2.out.trans (hbl.mono HB2.out.size))
          clear hrow c hroot hle
          go_wp2_with fail
          refine CC.out.mono ?_
          rintro e w5 ⟨v, rfl, hv, rfl, -⟩
          have C6 := Lib.hid (t62 ((isq nn : Nat) : Int) false v _ (by simp) (by rw [Int.natAbs_natCast]; exact hv) (by rw [Int.natAbs_natCast]; omega))
          obtain ⟨pv, cv, rfl, -, -, -⟩ := hv.cells
          clear hv
          go_wp2_with fail
          refine C6.out.mono ?_
          rintro e w6 ⟨rfl, hb6⟩
          go_wp2_with fail
          go_ret2
          exact .inr ⟨x, HX.out, by rw [HR.out, ← HNN.out]; rfl, HBE.out.trans (hb6.mono HBE.out.size)⟩
        · obtain ⟨j, rfl⟩ : ∃ j, k = j + 1 := ⟨k - 1, by omega⟩
          have hjq : j < qs.length := by rw [hql.out]; omega
          have hz0 := hqz.out j (by omega)
          have HVD : Hid (∀ c, val 10 (qs.set j c) = val 10 qs + c * 10 ^ j) := fun c => val_digit qs j c hjq hz0
          have HQZ : Hid (∀ c m, m < j → (qs.set j c)[m]? = some 0) := fun c m hm => by rw [List.getElem?_set_ne (by omega)]; exact hqz.out m (by omega)
          have HQD : Hid (∀ c, c ≤ 9 → ∀ z ∈ qs.set j c, z < 10) := fun c hc => set_lt qs hqd.out _ _ (by omega)
          have hqn2 := hqn.out
          rw [Nat.pow_succ] at hqn2
          have HQN := Lib.hid hqn2
          have hs0 : qs.set j 0 = qs := by
            have h9 : qs[j] = 0 := by rw [List.getElem?_eq_getElem hjq] at hz0; exact Option.some.inj hz0
            rw [← h9, List.set_getElem_self]
          have hi0 : (0 : Int) ≤ j := by omega
          have hi1 : (j : Int) < ll := by omega
          have hi2 : (0 : Int) ≤ ((j + 1 : Nat) : Int) - 1 := by omega
          clear h0 hz0 hqn2 hi2
          rw [show (((j + 1 : Nat) : Int) - 1) = (j : Int) by omega]
          go_wp2_with fail
          go_loopw [7] (fun _ wi => ∃ c : Nat, c ≤ 9 ∧ Hid (val 10 (qs.set j c) * val 10 (qs.set j c) ≤ nn) ∧ Hid (Blk wi w2.heap.size 3 (c64 (qs.set j c))) ∧ Below w2.heap.size w2 wi) (fun _ wi => 10 - cellNat wi w2.heap.size j)
          case atStart => exact ⟨0, by omega, by show _ ≤ _; rw [hs0]; exact hqv.out, by show Blk _ _ _ _; rw [hs0]; exact hqb.out, hbl⟩
          case round =>
            obtain ⟨c, hc, hcv, hcb, hbl2⟩ := hrel
            obtain ⟨wi, rfl⟩ : ∃ wi : World, wi = wr := ⟨_, rfl⟩
            have hgc : ∀ d, (qs.set j d)[j]? = some d := fun d => List.getElem?_set_self hjq
            have hcc := hcb.out.cell j (c64_get (hgc c))
            have hcf := hcb.out.free j
            have HGC := Lib.hid hgc
            clear hgc
            by_cases h9 : c = 9
            · have HN := Lib.hid (root_next (val 10 qs) c (10 ^ j) nn HQN.out h9)
              have h9i : ¬ ((c : Int) < 9) := by omega
              clear h9
              go_wp2_with fail
              go_roundw
              case rel => exact ⟨j, qs.set j c, by omega, by go_num, by show _ = _; rw [List.length_set]; exact hql.out, HQD.out c hc, HQZ.out c, hcv, by show _ < _; rw [HVD.out]; exact HN.out, hcb, hbl2⟩
              case measure => first | (simp [intOf]; omega) | simp [intOf]
            · have h9i : (c : Int) < 9 := by omega
              have hc9 : c + 1 ≤ 9 := by omega
              have HS1 : Hid (Blk (wi.setCell ⟨w2.heap.size, j, none⟩ (.int .i64 ((c : Int) + 1))) w2.heap.size 3 (c64 (qs.set j (c + 1)))) := by
                have h := hcb.out.setN (k := j) (z := c + 1)
                rw [List.set_set] at h
                exact h
              have HB1 : Hid (Below w2.heap.size w2 (wi.setCell ⟨w2.heap.size, j, none⟩ (.int .i64 ((c : Int) + 1)))) := hbl2.setCell (Nat.le_refl _) _
              have hll1 : (qs.set j (c + 1)).length = ll := by rw [List.length_set]; exact hql.out
              have hV1 : val 10 (qs.set j (c + 1)) < 10 ^ ll := by have h := val_lt (b := 10) _ (HQD.out (c + 1) hc9); rw [hll1] at h; exact h
              have HV1L : Hid (Ld (val 10 (qs.set j (c + 1))) ≤ 201) := Nat.le_trans (Ld_le.2 hV1) hlb
              have HLL1 := Lib.hid hll1
              have HBU : Hid (((wi.setCell ⟨w2.heap.size, j, none⟩ (.int .i64 ((c : Int) + 1))).alloc (.cells #[] 3)).ownsRow wi.heap.size 3 1 (.slice (some ⟨wi.heap.size, 0, none⟩) 0 0) 0 (c64 [])) := by
                have h := built0 (wi.setCell ⟨w2.heap.size, j, none⟩ (.int .i64 ((c : Int) + 1)))
                show World.ownsRow _ _ _ _ _ _ _
                simpa using h
              clear h9 hll1 hV1
              go_wp2_with (at_builtin; refine appL rfl _ _ rfl wi.heap.size _ 0 [] rfl HBU.out (some ⟨w2.heap.size, 0, none⟩) ll ll (qs.set j (c + 1)) rfl HLL1.out (fun h => by cases h) (fun m z hz => ⟨w2.heap.size, rfl, (HS1.out.alloc _).cell m (c64_get hz)⟩) (by omega) (by simp) ?_; intro v' w4 hown' hgrow)
              have hgrow : Hid (World.grownBy ((wi.setCell ⟨w2.heap.size, j, none⟩ (.int .i64 ((c : Int) + 1))).alloc (.cells #[] 3)) w4 (some wi.heap.size)) := hgrow
              have hb4 : Below wi.heap.size (wi.setCell ⟨w2.heap.size, j, none⟩ (.int .i64 ((c : Int) + 1))) w4 := ((Below.refl wi.heap.size _).alloc (by simp) _).grown hgrow.out (by simp) (fun g hg => by have h9 := Option.some.inj hg; omega)
              have HB4 := Lib.hid (HB1.out.trans (hb4.mono hbl2.size))
              have HS4 := Lib.hid (HS1.out.below hb4 hcb.out.lt)
              refine (t120 v' (0 + ll) (qs.set j (c + 1)) w4 (ownsRow_mono hown'.out (Nat.zero_le _)) (HQD.out (c + 1) hc9)).mono ?_
              rintro e w5 ⟨u, rfl, hu, rfl, -⟩
              obtain ⟨pu, cu, rfl, -, -, -⟩ := hu.cells
              have C7 := Lib.hid (t77 _ _ _ _ w4 hu hu (Nat.le_trans HV1L.out (by omega)) (Nat.le_trans HV1L.out (by omega)))
              clear hu hown' hgrow hb4
              go_wp2_with fail
              refine C7.out.mono ?_
              rintro e w6 ⟨pr, rfl, hpr, hb6, -⟩
              obtain ⟨pp, cp, rfl, -, -, -⟩ := hpr.cells
              have HB6 := Lib.hid (HB4.out.trans (hb6.mono HB4.out.size))
              have HS6 := Lib.hid (HS4.out.below hb6 HS4.out.lt)
              have C8 := Lib.hid (t121 _ _ _ nn w6 hpr (HV2.out.below HB6.out))
              clear hpr hb6 C7
              by_cases hgt : nn < val 10 (qs.set j (c + 1)) * val 10 (qs.set j (c + 1))
              · have hcm : (0 : Int) < cmpN (val 10 (qs.set j (c + 1)) * val 10 (qs.set j (c + 1))) nn := by rw [cmpN_gt hgt]; decide
                have HGT : Hid (nn < (val 10 (qs.set j c) + 10 ^ j) * (val 10 (qs.set j c) + 10 ^ j)) := by
                  show _ < _
                  rw [HVD.out]
                  rw [HVD.out, show val 10 qs + (c + 1) * 10 ^ j = val 10 qs + c * 10 ^ j + 10 ^ j by rw [Nat.succ_mul, Nat.add_assoc]] at hgt
                  exact hgt
                generalize cmpN (val 10 (qs.set j (c + 1)) * val 10 (qs.set j (c + 1))) nn = cv at C8 hcm
                clear hgt
                go_wp2_with fail
                refine C8.out.mono ?_
                rintro e w7 ⟨rfl, n7, rfl⟩
                have HS7 : Hid (Blk (w6.drewN n7) w2.heap.size 3 (c64 (qs.set j (c + 1)))) := HS6.out
                have h7 := HS7.out.cell j (c64_get (HGC.out (c + 1)))
                have h7f := HS7.out.free j
                have hcast : ((c + 1 : Nat) : Int) - 1 = (c : Int) := by omega
                have HS8 : Hid (Blk ((w6.drewN n7).setCell ⟨w2.heap.size, j, none⟩ (.int .i64 (c : Int))) w2.heap.size 3 (c64 (qs.set j c))) := by
                  have h := HS7.out.setN (k := j) (z := c)
                  rw [List.set_set] at h
                  exact h
                have HB8 := Lib.hid ((below_drewN HB6.out n7).setCell (p := ⟨w2.heap.size, j, none⟩) (Nat.le_refl _) (.int .i64 (c : Int)))
                go_wp2_with fail
                go_roundw
                case rel => exact ⟨j, qs.set j c, by omega, by go_num, by show _ = _; rw [List.length_set]; exact hql.out, HQD.out c hc, HQZ.out c, hcv, HGT, by show Blk _ _ _ _; first | exact HS8.out | (rw [show (c : Int) + 1 - 1 = c by omega]; exact HS8.out), by first | exact HB8.out | (rw [show (c : Int) + 1 - 1 = c by omega]; exact HB8.out)⟩
                case measure => first | (simp [intOf]; omega) | simp [intOf]
              · have hcm : ¬ ((0 : Int) < cmpN (val 10 (qs.set j (c + 1)) * val 10 (qs.set j (c + 1))) nn) := by
                  rcases Nat.lt_or_ge (val 10 (qs.set j (c + 1)) * val 10 (qs.set j (c + 1))) nn with h | h
                  · rw [cmpN_lt h]; decide
                  · rw [cmpN_eq (Nat.le_antisymm (Nat.le_of_not_lt hgt) h)]; decide
                have HLE : Hid (val 10 (qs.set j (c + 1)) * val 10 (qs.set j (c + 1)) ≤ nn) := Nat.le_of_not_lt hgt
                generalize cmpN (val 10 (qs.set j (c + 1)) * val 10 (qs.set j (c + 1))) nn = cv at C8 hcm
                clear hgt
                go_wp2_with fail
                refine C8.out.mono ?_
                rintro e w7 ⟨rfl, n7, rfl⟩
                go_wp2_with fail
                go_roundw
                case rel => exact ⟨c + 1, hc9, HLE, HS6.out, below_drewN HB6.out n7⟩
                case measure =>
                  show 10 - cellNat _ _ _ < 10 - cellNat _ _ _
                  rw [cellNat_of (hcb.out.cell j (c64_get (HGC.out c))), show cellNat (w6.drewN n7) w2.heap.size j = c + 1 from cellNat_of (w := w6.drewN n7) (HS6.out.cell j (c64_get (HGC.out (c + 1))))]
                  omega
end Go.Proofs.YtifhiefdhhmdeaaGreatDoor
