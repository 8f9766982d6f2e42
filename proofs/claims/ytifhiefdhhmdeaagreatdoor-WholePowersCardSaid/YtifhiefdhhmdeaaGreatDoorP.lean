/- Contracts of minus. -/
import Derived.Test.YtifhiefdhhmdeaaGreatDoorO
namespace Go.Proofs.YtifhiefdhhmdeaaGreatDoor
open Go Go.RowKit
set_option maxRecDepth 100000 in
set_option maxHeartbeats 400000 in
theorem t93 (x y : Int) (b c : Bool) (va vb : Value) (w : World) (hbx' : b = decide (x < 0)) (hcy : c = decide (y < 0)) (hA : Nt w va x.natAbs) (hB : Nt w vb y.natAbs) (hl : Lw x.natAbs ≤ 900000) (hl' : Lw y.natAbs ≤ 900000) :
    Calls Tryz.prog 93 #[.agg #[.bool b, va], .agg #[.bool c, vb]] w (IntR (x - y) w) := by
  have HA := Lib.hid hA
  have HB := Lib.hid hB
  have HX := Lib.hid hbx'
  have HY : Hid ((!c && decide (0 < y.natAbs)) = decide (-y < 0)) := by
    show _ = _
    rw [hcy, Bool.eq_iff_iff]; simp; omega
  obtain ⟨d, hd⟩ : ∃ d : Bool, d = (!c && decide (0 < y.natAbs)) := ⟨_, rfl⟩
  have C5 := Lib.hid (fun v (W : World) (h : Nt W v y.natAbs) => hd ▸ t135 c v y.natAbs W h)
  rw [← hd] at HY
  clear hd
  have HN : Hid (y.natAbs = (-y).natAbs) := by show _ = _; omega
  have hl2 : Lw (-y).natAbs ≤ 900000 := by rw [← HN.out]; exact hl'
  have HE : Hid (x + -y = x - y) := by show _ = _; omega
  clear hA hB hbx' hcy
  obtain ⟨pa, ca, rfl, -, -, -⟩ := HA.out.cells
  obtain ⟨pb, cb, rfl, -, -, -⟩ := HB.out.cells
  have hbx := bx2_mk w #[.bool b, .slice pa (Lw x.natAbs) ca] #[.bool c, .slice pb (Lw y.natAbs) cb]

  go_enter Tryz.func93, Tryz.ntmps93
  go_wp2

  generalize ((w.alloc (.cells #[.bool b, .slice pa (Lw x.natAbs) ca] 67)).alloc (.cells #[.bool c, .slice pb (Lw y.natAbs) cb] 67)).alloc (.cells #[.bool false, .slice none 0 0] 67) = W at *
  have h1 : W.cell? ⟨w.heap.size, 0, none⟩ = some (.bool b) := hbx.bx.cell 0 rfl
  have h2 : W.cell? ⟨w.heap.size, 1, none⟩ = some (.slice pa (Lw x.natAbs) ca) := hbx.bx.cell 1 rfl
  have h3 : W.cell? ⟨w.heap.size + 1, 0, none⟩ = some (.bool c) := hbx.by'.cell 0 rfl
  have h4 : W.cell? ⟨w.heap.size + 1, 1, none⟩ = some (.slice pb (Lw y.natAbs) cb) := hbx.by'.cell 1 rfl
  have hsz : w.heap.size + 3 ≤ W.heap.size := Nat.le_of_eq hbx.size.symm
  have HW := Lib.hid hbx.below.drew
  have HW0 := Lib.hid hbx.below
  have HR := Lib.hid hbx.res
  clear hbx

  go_region_held3 (fun w' => w'.cell? ⟨w.heap.size, 0, none⟩ = some (.bool b) ∧ w'.cell? ⟨w.heap.size, 1, none⟩ = some (.slice pa (Lw x.natAbs) ca) ∧ w'.cell? ⟨w.heap.size + 1, 0, none⟩ = some (.bool c) ∧ w'.cell? ⟨w.heap.size + 1, 1, none⟩ = some (.slice pb (Lw y.natAbs) cb))
    (first
      | exact ⟨k1_0, k1_1, k1_2, k1_3⟩
      | exact ⟨k2_0, k2_1, k2_2, k2_3⟩
      | exact ⟨cell_far (cell_far k2_0 (by omega)) (by omega), cell_far (cell_far k2_1 (by omega)) (by omega), cell_far (cell_far k2_2 (by omega)) (by omega), cell_far (cell_far k2_3 (by omega)) (by omega)⟩
      | (go_keep; done))
    (first
      | (go_at_call 135; (with_reducible refine (C5.out _ _ (HB.out.below HW.out)).mono ?_); rintro e w1 ⟨rfl, hb1⟩; have hs1 : W.heap.size ≤ w1.heap.size := hb1.size; have HR1 := Lib.hid (Blk.below (w := W.drew) HR.out hb1 (by simp; omega)); have k1_0 := below_cell hb1 h1; have k1_1 := below_cell hb1 h2; have k1_2 := below_cell hb1 h3; have k1_3 := below_cell hb1 h4)
      | (go_at_call 91; (with_reducible refine (t91 x (-y) b _ _ _ _ HX.out HY.out ((HA.out.below HW.out).below hb1) (by rw [← HN.out]; exact (HB.out.below HW.out).below hb1) hl hl2).mono ?_); rintro e w2 ⟨v, rfl, hN, hb2⟩; obtain ⟨pv, cv, rfl, -, -, -⟩ := hN.cells; have hs2 := hb2.size; have hr := HR1.out.below hb2 (by omega); have r0 := hr.cell 0 rfl; have r1 := hr.cell 1 rfl; have f0 := hr.free 0; have f1 := hr.free 1; have HR2 := Lib.hid hr; clear hr; have HNX := Lib.hid hN; clear hN; have k2_0 := below_cell hb2 k1_0; have k2_1 := below_cell hb2 k1_1; have k2_2 := below_cell hb2 k1_2; have k2_3 := below_cell hb2 k1_3))

  have hne := HNX.out.ne67 HR2.out
  go_wp2
  have g0 : (w2.setCell ⟨w.heap.size + 1 + 1, 0, none⟩ (.bool (decide (x + -y < 0)))).cell? ⟨w.heap.size + 1 + 1, 0, none⟩ = some (.bool (decide (x + -y < 0))) := (HR2.out.set 0 _).cell 0 rfl
  have g1 : ((w2.setCell ⟨w.heap.size + 1 + 1, 0, none⟩ (.bool (decide (x + -y < 0)))).setCell ⟨w.heap.size + 1 + 1, 1, none⟩ (.slice pv (Lw (x + -y).natAbs) cv)).cell? ⟨w.heap.size + 1 + 1, 1, none⟩ = some (.slice pv (Lw (x + -y).natAbs) cv) := ((HR2.out.set 0 _).set 1 _).cell 1 rfl

  refine bodyPost_ret (v := .agg #[.bool (decide (x + -y < 0)), .slice pv (Lw (x + -y).natAbs) cv]) (by simp [results, Tryz.results93, go_sem, g0, g1]) rfl ?_
  have hBw : Below w.heap.size w w2 := (HW.out.trans (hb1.mono HW.out.size)).trans (hb2.mono (by have := HW.out.size; omega))
  rw [← HE.out]
  exact ⟨_, rfl, (HNX.out.setCell hne).setCell hne, (hBw.setCell (by simp; omega) _).setCell (by simp; omega) _⟩
end Go.Proofs.YtifhiefdhhmdeaaGreatDoor
