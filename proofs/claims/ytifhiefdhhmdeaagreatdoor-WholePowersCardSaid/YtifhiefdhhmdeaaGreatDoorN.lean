/- Contracts of the integers' sums, differences, products. -/
import Derived.Test.YtifhiefdhhmdeaaGreatDoorL
namespace Go.Proofs.YtifhiefdhhmdeaaGreatDoor
open Go Go.RowKit
set_option maxRecDepth 100000 in
set_option maxHeartbeats 2000000 in
theorem t91lt (b c : Bool) (va vb : Value) (A B : Nat) (w : World) (hbc : (b == c) = false) (hA : Nt w va A) (hB : Nt w vb B) (hl : Lw A ≤ 900000) (hl' : Lw B ≤ 900000) (h : A < B) (z : Int) (hz : z.natAbs = B - A) (hs : (c && decide (0 < B - A)) = decide (z < 0)) :
    Calls Tryz.prog 91 #[.agg #[.bool b, va], .agg #[.bool c, vb]] w (IntR z w) := by
  have HA := Lib.hid hA
  have HB := Lib.hid hB
  have HZ := Lib.hid hz
  have HS := Lib.hid hs
  have HC := Lib.hid h
  have CC := Lib.hid (fun (W : World) (h1 : Nt W va A) (h2 : Nt W vb B) => (cmpN_lt h) ▸ t138 va vb A B W h1 h2 (by omega) (by omega))
  
  clear hA hB hz hs
  have hbx := bx2_mk w #[.bool b, va] #[.bool c, vb]
  go_enter Tryz.func91, Tryz.ntmps91
  go_wp2_with fail
  generalize ((w.alloc (.cells #[.bool b, va] 67)).alloc (.cells #[.bool c, vb] 67)).alloc (.cells #[.bool false, .slice none 0 0] 67) = W at *
  have h1 : W.cell? ⟨w.heap.size, 0, none⟩ = some (.bool b) := hbx.bx.cell 0 rfl
  have h2 : W.cell? ⟨w.heap.size, 1, none⟩ = some va := hbx.bx.cell 1 rfl
  have h3 : W.cell? ⟨w.heap.size + 1, 0, none⟩ = some (.bool c) := hbx.by'.cell 0 rfl
  have h4 : W.cell? ⟨w.heap.size + 1, 1, none⟩ = some vb := hbx.by'.cell 1 rfl
  have hsz : w.heap.size + 3 ≤ W.heap.size := Nat.le_of_eq hbx.size.symm
  have HW := Lib.hid hbx.below.drew
  have HW0 := Lib.hid hbx.below
  have HR := Lib.hid hbx.res
  clear hbx
  go_wp2_with fail
  refine (CC.out W (HA.out.below HW0.out) (HB.out.below HW0.out)).mono ?_
  rintro e W' ⟨rfl, nd, rfl⟩
  have h1 : (W.drewN nd).cell? ⟨w.heap.size, 0, none⟩ = some (.bool b) := h1
  have h2 : (W.drewN nd).cell? ⟨w.heap.size, 1, none⟩ = some va := h2
  have h3 : (W.drewN nd).cell? ⟨w.heap.size + 1, 0, none⟩ = some (.bool c) := h3
  have h4 : (W.drewN nd).cell? ⟨w.heap.size + 1, 1, none⟩ = some vb := h4
  have hsz : w.heap.size + 3 ≤ (W.drewN nd).heap.size := hsz
  have HW : Hid (Below w.heap.size w (W.drewN nd).drew) := (below_drewN HW0.out nd).drew
  have HR : Hid (Blk (W.drewN nd) (w.heap.size + 2) 67 [.bool false, .slice none 0 0]) := HR.out
  generalize W.drewN nd = W at *
  go_wp2_with fail
  go_region_held3 (fun w' => w'.cell? ⟨w.heap.size + 1, 0, none⟩ = some (.bool c) ∧ w'.cell? ⟨w.heap.size + 1, 1, none⟩ = some (vb) ∧ w'.cell? ⟨w.heap.size, 1, none⟩ = some (va))
    (first
      | exact ⟨k1_0, k1_1, k1_2⟩
      | exact ⟨k2_0, k2_1, k2_2⟩
      | exact ⟨cell_far (cell_far k2_0 (by omega)) (by omega), cell_far (cell_far k2_1 (by omega)) (by omega), cell_far (cell_far k2_2 (by omega)) (by omega)⟩
      | (go_keep; done))
    (first
      | (go_at_call 139; refine (t139 vb va B A _ (HB.out.below HW.out) (HA.out.below HW.out) (by omega) (Nat.le_of_lt HC.out)).mono ?_; rintro e w1 ⟨v, rfl, hN, hb1, hfr⟩; obtain ⟨pv, cv, rfl, -, -, -⟩ := hN.cells; have hs1 : W.heap.size ≤ w1.heap.size := hb1.size; have HR1 := Lib.hid (Blk.below (w := W.drew) HR.out hb1 (by simp; omega)); have k1_0 := below_cell hb1 h3; have k1_1 := below_cell hb1 h4; have k1_2 := below_cell hb1 h2)
      | (go_at_call 73; refine (t73 c _ (B - A) _ hN).mono ?_; rintro e w2 ⟨rfl, hb2⟩; have hs2 := hb2.size; have hr := HR1.out.below hb2 (by omega); have r0 := hr.cell 0 rfl; have r1 := hr.cell 1 rfl; have f0 := hr.free 0; have f1 := hr.free 1; have HR2 := Lib.hid hr; clear hr; have k2_0 := below_cell hb2 k1_0; have k2_1 := below_cell hb2 k1_1; have k2_2 := below_cell hb2 k1_2))
  have hne : (Value.slice pv (Lw (B - A)) cv).ownBlock ≠ some (w.heap.size + 2) := fun h => by
    have h1 := hfr _ h
    simp at h1
    omega
  go_wp2
  have g0 : (w2.setCell ⟨w.heap.size + 1 + 1, 0, none⟩ (.bool (c && decide (0 < B - A)))).cell? ⟨w.heap.size + 1 + 1, 0, none⟩ = some (.bool (c && decide (0 < B - A))) := (HR2.out.set 0 _).cell 0 rfl
  have g1 : ((w2.setCell ⟨w.heap.size + 1 + 1, 0, none⟩ (.bool (c && decide (0 < B - A)))).setCell ⟨w.heap.size + 1 + 1, 1, none⟩ (.slice pv (Lw (B - A)) cv)).cell? ⟨w.heap.size + 1 + 1, 1, none⟩ = some (.slice pv (Lw (B - A)) cv) := ((HR2.out.set 0 _).set 1 _).cell 1 rfl
  refine bodyPost_ret (v := .agg #[.bool (c && decide (0 < B - A)), .slice pv (Lw (B - A)) cv]) (by simp [results, Tryz.results91, go_sem, g0, g1]) rfl ?_
  have hBw : Below w.heap.size w w2 := (HW.out.trans (hb1.mono HW.out.size)).trans (hb2.mono (by have := HW.out.size; omega))
  refine ⟨_, by rw [HS.out], ?_, (hBw.setCell (by simp; omega) _).setCell (by simp; omega) _⟩
  rw [HZ.out]
  exact ((hN.below hb2).setCell hne).setCell hne
set_option maxRecDepth 100000 in
set_option maxHeartbeats 2000000 in
theorem t91ge (b c : Bool) (va vb : Value) (A B : Nat) (w : World) (hbc : (b == c) = false) (hA : Nt w va A) (hB : Nt w vb B) (hl : Lw A ≤ 900000) (hl' : Lw B ≤ 900000) (h : B ≤ A) (z : Int) (hz : z.natAbs = A - B) (hs : (b && decide (0 < A - B)) = decide (z < 0)) :
    Calls Tryz.prog 91 #[.agg #[.bool b, va], .agg #[.bool c, vb]] w (IntR z w) := by
  have HA := Lib.hid hA
  have HB := Lib.hid hB
  have HZ := Lib.hid hz
  have HS := Lib.hid hs
  have HC := Lib.hid h
  have CC := Lib.hid (fun (W : World) (h1 : Nt W va A) (h2 : Nt W vb B) => t138 va vb A B W h1 h2 (by omega) (by omega))
  have hcn := cmpN_ge h
  clear hA hB hz hs
  obtain ⟨hc1, hc2⟩ := hcn
  generalize cmpN A B = cmpv at *
  have hbx := bx2_mk w #[.bool b, va] #[.bool c, vb]
  go_enter Tryz.func91, Tryz.ntmps91
  go_wp2_with fail
  generalize ((w.alloc (.cells #[.bool b, va] 67)).alloc (.cells #[.bool c, vb] 67)).alloc (.cells #[.bool false, .slice none 0 0] 67) = W at *
  have h1 : W.cell? ⟨w.heap.size, 0, none⟩ = some (.bool b) := hbx.bx.cell 0 rfl
  have h2 : W.cell? ⟨w.heap.size, 1, none⟩ = some va := hbx.bx.cell 1 rfl
  have h3 : W.cell? ⟨w.heap.size + 1, 0, none⟩ = some (.bool c) := hbx.by'.cell 0 rfl
  have h4 : W.cell? ⟨w.heap.size + 1, 1, none⟩ = some vb := hbx.by'.cell 1 rfl
  have hsz : w.heap.size + 3 ≤ W.heap.size := Nat.le_of_eq hbx.size.symm
  have HW := Lib.hid hbx.below.drew
  have HW0 := Lib.hid hbx.below
  have HR := Lib.hid hbx.res
  clear hbx
  go_wp2_with fail
  refine (CC.out W (HA.out.below HW0.out) (HB.out.below HW0.out)).mono ?_
  rintro e W' ⟨rfl, nd, rfl⟩
  have h1 : (W.drewN nd).cell? ⟨w.heap.size, 0, none⟩ = some (.bool b) := h1
  have h2 : (W.drewN nd).cell? ⟨w.heap.size, 1, none⟩ = some va := h2
  have h3 : (W.drewN nd).cell? ⟨w.heap.size + 1, 0, none⟩ = some (.bool c) := h3
  have h4 : (W.drewN nd).cell? ⟨w.heap.size + 1, 1, none⟩ = some vb := h4
  have hsz : w.heap.size + 3 ≤ (W.drewN nd).heap.size := hsz
  have HW : Hid (Below w.heap.size w (W.drewN nd).drew) := (below_drewN HW0.out nd).drew
  have HR : Hid (Blk (W.drewN nd) (w.heap.size + 2) 67 [.bool false, .slice none 0 0]) := HR.out
  generalize W.drewN nd = W at *
  go_wp2_with fail
  go_region_held3 (fun w' => w'.cell? ⟨w.heap.size, 0, none⟩ = some (.bool b) ∧ w'.cell? ⟨w.heap.size, 1, none⟩ = some (va) ∧ w'.cell? ⟨w.heap.size + 1, 1, none⟩ = some (vb))
    (first
      | exact ⟨k1_0, k1_1, k1_2⟩
      | exact ⟨k2_0, k2_1, k2_2⟩
      | exact ⟨cell_far (cell_far k2_0 (by omega)) (by omega), cell_far (cell_far k2_1 (by omega)) (by omega), cell_far (cell_far k2_2 (by omega)) (by omega)⟩
      | (go_keep; done))
    (first
      | (go_at_call 139; refine (t139 va vb A B _ (HA.out.below HW.out) (HB.out.below HW.out) (by omega) HC.out).mono ?_; rintro e w1 ⟨v, rfl, hN, hb1, hfr⟩; obtain ⟨pv, cv, rfl, -, -, -⟩ := hN.cells; have hs1 : W.heap.size ≤ w1.heap.size := hb1.size; have HR1 := Lib.hid (Blk.below (w := W.drew) HR.out hb1 (by simp; omega)); have k1_0 := below_cell hb1 h1; have k1_1 := below_cell hb1 h2; have k1_2 := below_cell hb1 h4)
      | (go_at_call 73; refine (t73 b _ (A - B) _ hN).mono ?_; rintro e w2 ⟨rfl, hb2⟩; have hs2 := hb2.size; have hr := HR1.out.below hb2 (by omega); have r0 := hr.cell 0 rfl; have r1 := hr.cell 1 rfl; have f0 := hr.free 0; have f1 := hr.free 1; have HR2 := Lib.hid hr; clear hr; have k2_0 := below_cell hb2 k1_0; have k2_1 := below_cell hb2 k1_1; have k2_2 := below_cell hb2 k1_2))
  have hne : (Value.slice pv (Lw (A - B)) cv).ownBlock ≠ some (w.heap.size + 2) := fun h => by
    have h1 := hfr _ h
    simp at h1
    omega
  go_wp2
  have g0 : (w2.setCell ⟨w.heap.size + 1 + 1, 0, none⟩ (.bool (b && decide (0 < A - B)))).cell? ⟨w.heap.size + 1 + 1, 0, none⟩ = some (.bool (b && decide (0 < A - B))) := (HR2.out.set 0 _).cell 0 rfl
  have g1 : ((w2.setCell ⟨w.heap.size + 1 + 1, 0, none⟩ (.bool (b && decide (0 < A - B)))).setCell ⟨w.heap.size + 1 + 1, 1, none⟩ (.slice pv (Lw (A - B)) cv)).cell? ⟨w.heap.size + 1 + 1, 1, none⟩ = some (.slice pv (Lw (A - B)) cv) := ((HR2.out.set 0 _).set 1 _).cell 1 rfl
  refine bodyPost_ret (v := .agg #[.bool (b && decide (0 < A - B)), .slice pv (Lw (A - B)) cv]) (by simp [results, Tryz.results91, go_sem, g0, g1]) rfl ?_
  have hBw : Below w.heap.size w w2 := (HW.out.trans (hb1.mono HW.out.size)).trans (hb2.mono (by have := HW.out.size; omega))
  refine ⟨_, by rw [HS.out], ?_, (hBw.setCell (by simp; omega) _).setCell (by simp; omega) _⟩
  rw [HZ.out]
  exact ((hN.below hb2).setCell hne).setCell hne
set_option maxRecDepth 100000 in
set_option maxHeartbeats 2000000 in
theorem t95 (b c : Bool) (va vb : Value) (A B : Nat) (w : World) (hA : Nt w va A) (hB : Nt w vb B) (hl : Lw A ≤ 900000) (hl' : Lw B ≤ 900000) (z : Int) (hz : z.natAbs = A * B) (hs : ((b != c) && decide (0 < A * B)) = decide (z < 0)) :
    Calls Tryz.prog 95 #[.agg #[.bool b, va], .agg #[.bool c, vb]] w (IntR z w) := by
  have HA := Lib.hid hA
  have HB := Lib.hid hB
  have HZ := Lib.hid hz
  have HS := Lib.hid hs
  clear hA hB hz hs
  have hbx := bx2_mk w #[.bool b, va] #[.bool c, vb]
  go_enter Tryz.func95, Tryz.ntmps95
  go_wp2
  generalize ((w.alloc (.cells #[.bool b, va] 67)).alloc (.cells #[.bool c, vb] 67)).alloc (.cells #[.bool false, .slice none 0 0] 67) = W at *
  have h1 : W.cell? ⟨w.heap.size, 0, none⟩ = some (.bool b) := hbx.bx.cell 0 rfl
  have h2 : W.cell? ⟨w.heap.size, 1, none⟩ = some va := hbx.bx.cell 1 rfl
  have h3 : W.cell? ⟨w.heap.size + 1, 0, none⟩ = some (.bool c) := hbx.by'.cell 0 rfl
  have h4 : W.cell? ⟨w.heap.size + 1, 1, none⟩ = some vb := hbx.by'.cell 1 rfl
  have hsz : w.heap.size + 3 ≤ W.heap.size := Nat.le_of_eq hbx.size.symm
  have HW := Lib.hid hbx.below.drew
  have HW0 := Lib.hid hbx.below
  have HR := Lib.hid hbx.res
  clear hbx
  go_region_held3 (fun w' => w'.cell? ⟨w.heap.size, 0, none⟩ = some (.bool b) ∧ w'.cell? ⟨w.heap.size + 1, 0, none⟩ = some (.bool c) ∧ w'.cell? ⟨w.heap.size, 1, none⟩ = some (va) ∧ w'.cell? ⟨w.heap.size + 1, 1, none⟩ = some (vb))
    (first
      | exact ⟨k1_0, k1_1, k1_2, k1_3⟩
      | exact ⟨k2_0, k2_1, k2_2, k2_3⟩
      | exact ⟨cell_far (cell_far k2_0 (by omega)) (by omega), cell_far (cell_far k2_1 (by omega)) (by omega), cell_far (cell_far k2_2 (by omega)) (by omega), cell_far (cell_far k2_3 (by omega)) (by omega)⟩
      | (go_keep; done))
    (first
      | (go_at_call 140; refine (t140 va vb A B _ (HA.out.below HW.out) (HB.out.below HW.out) (by omega) (by omega)).mono ?_; rintro e w1 ⟨v, rfl, hN, hb1, hfr⟩; obtain ⟨pv, cv, rfl, -, -, -⟩ := hN.cells; have hs1 : W.heap.size ≤ w1.heap.size := hb1.size; have HR1 := Lib.hid (Blk.below (w := W.drew) HR.out hb1 (by simp; omega)); have k1_0 := below_cell hb1 h1; have k1_1 := below_cell hb1 h3; have k1_2 := below_cell hb1 h2; have k1_3 := below_cell hb1 h4)
      | (go_at_call 73; refine (t73 (b != c) _ (A * B) _ hN).mono ?_; rintro e w2 ⟨rfl, hb2⟩; have hs2 := hb2.size; have hr := HR1.out.below hb2 (by omega); have r0 := hr.cell 0 rfl; have r1 := hr.cell 1 rfl; have f0 := hr.free 0; have f1 := hr.free 1; have HR2 := Lib.hid hr; clear hr; have k2_0 := below_cell hb2 k1_0; have k2_1 := below_cell hb2 k1_1; have k2_2 := below_cell hb2 k1_2; have k2_3 := below_cell hb2 k1_3))
  have hne : (Value.slice pv (Lw (A * B)) cv).ownBlock ≠ some (w.heap.size + 2) := fun h => by
    have h1 := hfr _ h
    simp at h1
    omega
  go_wp2
  have g0 : (w2.setCell ⟨w.heap.size + 1 + 1, 0, none⟩ (.bool ((b != c) && decide (0 < A * B)))).cell? ⟨w.heap.size + 1 + 1, 0, none⟩ = some (.bool ((b != c) && decide (0 < A * B))) := (HR2.out.set 0 _).cell 0 rfl
  have g1 : ((w2.setCell ⟨w.heap.size + 1 + 1, 0, none⟩ (.bool ((b != c) && decide (0 < A * B)))).setCell ⟨w.heap.size + 1 + 1, 1, none⟩ (.slice pv (Lw (A * B)) cv)).cell? ⟨w.heap.size + 1 + 1, 1, none⟩ = some (.slice pv (Lw (A * B)) cv) := ((HR2.out.set 0 _).set 1 _).cell 1 rfl
  refine bodyPost_ret (v := .agg #[.bool ((b != c) && decide (0 < A * B)), .slice pv (Lw (A * B)) cv]) (by simp [results, Tryz.results95, go_sem, g0, g1]) rfl ?_
  have hBw : Below w.heap.size w w2 := (HW.out.trans (hb1.mono HW.out.size)).trans (hb2.mono (by have := HW.out.size; omega))
  refine ⟨_, by rw [HS.out], ?_, (hBw.setCell (by simp; omega) _).setCell (by simp; omega) _⟩
  rw [HZ.out]
  exact ((hN.below hb2).setCell hne).setCell hne
end Go.Proofs.YtifhiefdhhmdeaaGreatDoor
