/- Contracts of the integers: signed, one, isZero, opposite. -/
import Derived.Test.YtifhiefdhhmdeaaGreatDoorK
import Derived.Laws.Alloc2
import Derived.Deep.RegionHeld3
import Derived.StillTailTactics
import Derived.RegionTactic
namespace Go.Proofs.YtifhiefdhhmdeaaGreatDoor
open Go Go.RowKit

theorem t73 (b : Bool) (v : Value) (n : Nat) (w : World) (hv : Nt w v n) :
    Calls Tryz.prog 73 #[.bool b, v] w fun e w' => e = .returned (.agg #[.bool (b && decide (0 < n)), v]) ∧ Below w.heap.size w w' := by
  obtain ⟨p, c, rfl, -, -, -⟩ := hv.cells
  clear hv
  cases b with
  | false =>
    go_enter Tryz.func73, Tryz.ntmps73
    go_wp2
    exact bodyPost_ret (v := .agg #[.bool false, .slice p (Lw n) c]) (by simp [results, Tryz.results73, go_sem]) rfl ⟨rfl, (Below.refl _ _).alloc (Nat.le_refl _) _⟩
  | true =>
    by_cases h0 : 0 < n
    · have h1 : (0 : Int) < Lw n := by have := Lw_pos h0; omega
      have hd : Hid (decide (0 < n) = true) := by show _ = _; simpa using h0
      generalize Lw n = x at *
      clear h0
      go_enter Tryz.func73, Tryz.ntmps73
      go_wp2
      refine bodyPost_ret (v := .agg #[.bool true, .slice p x c]) (by simp [results, Tryz.results73, go_sem]; omega) rfl ⟨by rw [hd.out]; rfl, (Below.refl _ _).alloc (Nat.le_refl _) _⟩
    · obtain rfl : n = 0 := by omega
      rw [show Lw 0 = 0 from rfl]
      clear h0
      go_enter Tryz.func73, Tryz.ntmps73
      go_wp2
      refine bodyPost_ret (v := .agg #[.bool false, .slice p 0 c]) (by simp [results, Tryz.results73, go_sem]) rfl ⟨rfl, (Below.refl _ _).alloc (Nat.le_refl _) _⟩
theorem t123 (w : World) :
    Calls Tryz.prog 123 #[] w fun e w' => ∃ v, e = .returned (.agg #[.bool false, v]) ∧ Nt w' v 1 ∧ Below w.heap.size w w' := by
  go_enter Tryz.func123, Tryz.ntmps123
  go_wp2
  refine bodyPost_ret (v := .agg #[.bool false, .slice (some ⟨w.heap.size + 1, 0, none⟩) 1 1]) (by simp [results, Tryz.results123, go_sem]) rfl ⟨_, rfl, ?_, ?_⟩
  · have := nt_one (w.alloc (.cells #[.bool false, .slice (some ⟨w.heap.size + 1, 0, none⟩) 1 1] 67)) (n := 1) (by omega) (by omega)
    simpa using this
  · exact ((Below.refl _ _).alloc (Nat.le_refl _) _).alloc (by simp) _
theorem t65 (b : Bool) (v : Value) (n : Nat) (w : World) (hv : Nt w v n) :
    Calls Tryz.prog 65 #[.agg #[.bool b, v]] w fun e w' => e = .returned (.bool (decide (n = 0))) ∧ Below w.heap.size w w' := by
  obtain ⟨p, c, rfl, -, -, -⟩ := hv.cells
  have h0 : ((Lw n : Int) == 0) = decide (n = 0) := by
    rw [Bool.eq_iff_iff]; simp
    rcases Nat.eq_zero_or_pos n with h | h
    · subst h; simp [Lw]
    · have := Lw_pos h; omega
  have H := Lib.hid h0
  clear hv h0
  go_enter Tryz.func65, Tryz.ntmps65
  go_wp2
  go_ret
  exact ⟨by rw [← H.out]; rfl, (Below.refl _ _).alloc (Nat.le_refl _) _⟩
theorem cell_far {w : World} {g j g' j' : Nat} {x u : Value} (h : w.cell? ⟨g, j, none⟩ = some x) (hne : g ≠ g') : (w.setCell ⟨g', j', none⟩ u).cell? ⟨g, j, none⟩ = some x :=
  (World.cell?_of_block (a := ⟨g, j, none⟩) (Below.heap_setCell w ⟨g', j', none⟩ u g hne)).trans h
theorem below_cell {w w' : World} {g j : Nat} {x : Value} (hb : Below w.heap.size w w') (h : w.cell? ⟨g, j, none⟩ = some x) : w'.cell? ⟨g, j, none⟩ = some x := (hb.cell (p := ⟨g, j, none⟩) (World.block_lt_of_cell? w _ h)).trans h
theorem Nt.setCell {w : World} {v : Value} {n g j : Nat} {u : Value} (h : Nt w v n) (hne : v.ownBlock ≠ some g) : Nt (w.setCell ⟨g, j, none⟩ u) v n := ownsRow_setCell_other h hne u
/-- an integer as a result -/
def IntR (z : Int) (w : World) (e : Ending) (w' : World) : Prop := ∃ v, e = .returned (.agg #[.bool (decide (z < 0)), v]) ∧ Nt w' v z.natAbs ∧ Below w.heap.size w w'
/-- the world of a function with two boxed integers and a result -/
structure Bx2 (w W : World) (x y : Array Value) : Prop where
  size : W.heap.size = w.heap.size + 3
  below : Below w.heap.size w W
  bx : Blk W w.heap.size 67 x.toList
  by' : Blk W (w.heap.size + 1) 67 y.toList
  res : Blk W (w.heap.size + 2) 67 [.bool false, .slice none 0 0]
theorem bx2_mk (w : World) (x y : Array Value) : Bx2 w (((w.alloc (.cells x 67)).alloc (.cells y 67)).alloc (.cells #[.bool false, .slice none 0 0] 67)) x y where
  size := by simp
  below := (((Below.refl _ _).alloc (Nat.le_refl _) _).alloc (by simp) _).alloc (by simp; omega) _
  bx := ((Blk.new w x 67).alloc _).alloc _
  by' := by have := (Blk.new (w.alloc (.cells x 67)) y 67).alloc (.cells #[.bool false, .slice none 0 0] 67); simpa using this
  res := by have := Blk.new ((w.alloc (.cells x 67)).alloc (.cells y 67)) #[.bool false, .slice none 0 0] 67; simpa using this

set_option maxRecDepth 100000 in
set_option maxHeartbeats 2000000 in
theorem t91s (b : Bool) (va vb : Value) (A B : Nat) (w : World) (hA : Nt w va A) (hB : Nt w vb B) (hl : Lw A ≤ 900000) (hl' : Lw B ≤ 900000) (z : Int) (hz : z.natAbs = A + B) (hs : (b && decide (0 < A + B)) = decide (z < 0)) :
    Calls Tryz.prog 91 #[.agg #[.bool b, va], .agg #[.bool b, vb]] w (IntR z w) := by
  have HA := Lib.hid hA
  have HB := Lib.hid hB
  have HZ := Lib.hid hz
  have HS := Lib.hid hs
  clear hA hB hz hs
  have hbx := bx2_mk w #[.bool b, va] #[.bool b, vb]
  go_enter Tryz.func91, Tryz.ntmps91
  go_wp2
  generalize ((w.alloc (.cells #[.bool b, va] 67)).alloc (.cells #[.bool b, vb] 67)).alloc (.cells #[.bool false, .slice none 0 0] 67) = W at *
  have h1 : W.cell? ⟨w.heap.size, 0, none⟩ = some (.bool b) := hbx.bx.cell 0 rfl
  have h2 : W.cell? ⟨w.heap.size, 1, none⟩ = some va := hbx.bx.cell 1 rfl
  have h3 : W.cell? ⟨w.heap.size + 1, 0, none⟩ = some (.bool b) := hbx.by'.cell 0 rfl
  have h4 : W.cell? ⟨w.heap.size + 1, 1, none⟩ = some vb := hbx.by'.cell 1 rfl
  have hsz : w.heap.size + 3 ≤ W.heap.size := Nat.le_of_eq hbx.size.symm
  have HW := Lib.hid hbx.below.drew
  have HR := Lib.hid hbx.res
  clear hbx
  go_region_held3 (fun w' => w'.cell? ⟨w.heap.size, 0, none⟩ = some (.bool b) ∧ w'.cell? ⟨w.heap.size, 1, none⟩ = some va ∧ w'.cell? ⟨w.heap.size + 1, 1, none⟩ = some vb)
    (first
      | exact ⟨k1, k2, k3⟩
      | exact ⟨l1, l2, l3⟩
      | exact ⟨cell_far (cell_far l1 (by omega)) (by omega), cell_far (cell_far l2 (by omega)) (by omega), cell_far (cell_far l3 (by omega)) (by omega)⟩
      | (go_keep; done))
    (first
      | (go_at_call 137; refine (t137 va vb A B _ (HA.out.below HW.out) (HB.out.below HW.out) (by omega) (by omega)).mono ?_; rintro e w1 ⟨v, rfl, hN, hb1, hfr⟩; obtain ⟨pv, cv, rfl, -, -, -⟩ := hN.cells; have hs1 : W.heap.size ≤ w1.heap.size := hb1.size; have HR1 := Lib.hid (Blk.below (w := W.drew) HR.out hb1 (by simp; omega)); have k1 := below_cell hb1 h1; have k2 := below_cell hb1 h2; have k3 := below_cell hb1 h4)
      | (go_at_call 73; refine (t73 b _ (A + B) _ hN).mono ?_; rintro e w2 ⟨rfl, hb2⟩; have hs2 := hb2.size; have hr := HR1.out.below hb2 (by omega); have r0 := hr.cell 0 rfl; have r1 := hr.cell 1 rfl; have f0 := hr.free 0; have f1 := hr.free 1; have HR2 := Lib.hid hr; clear hr; have l1 := below_cell hb2 k1; have l2 := below_cell hb2 k2; have l3 := below_cell hb2 k3))
  have hne : (Value.slice pv (Lw (A + B)) cv).ownBlock ≠ some (w.heap.size + 2) := fun h => by
    have h1 := hfr _ h
    simp at h1
    omega
  go_wp2
  have g0 : (w2.setCell ⟨w.heap.size + 1 + 1, 0, none⟩ (.bool (b && decide (0 < A + B)))).cell? ⟨w.heap.size + 1 + 1, 0, none⟩ = some (.bool (b && decide (0 < A + B))) := (HR2.out.set 0 _).cell 0 rfl
  have g1 : ((w2.setCell ⟨w.heap.size + 1 + 1, 0, none⟩ (.bool (b && decide (0 < A + B)))).setCell ⟨w.heap.size + 1 + 1, 1, none⟩ (.slice pv (Lw (A + B)) cv)).cell? ⟨w.heap.size + 1 + 1, 1, none⟩ = some (.slice pv (Lw (A + B)) cv) := ((HR2.out.set 0 _).set 1 _).cell 1 rfl
  refine bodyPost_ret (v := .agg #[.bool (b && decide (0 < A + B)), .slice pv (Lw (A + B)) cv]) (by simp [results, Tryz.results91, go_sem, g0, g1]) rfl ?_
  have hBw : Below w.heap.size w w2 := (HW.out.trans (hb1.mono HW.out.size)).trans (hb2.mono (by have := HW.out.size; omega))
  refine ⟨_, by rw [HS.out], ?_, (hBw.setCell (by simp; omega) _).setCell (by simp; omega) _⟩
  rw [HZ.out]
  exact ((hN.below hb2).setCell hne).setCell hne
end Go.Proofs.YtifhiefdhhmdeaaGreatDoor
