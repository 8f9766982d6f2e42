/- Contracts of the rationals: reduced, sums, products, compare, write. -/
import Derived.Test.YtifhiefdhhmdeaaGreatDoorZS
import Derived.Deep.RegionHeld3
namespace Go.Proofs.YtifhiefdhhmdeaaGreatDoor
open Go Go.RowKit

theorem t82 (x y : Int) (b c : Bool) (va vb : Value) (w : World) (hb : b = decide (x < 0)) (hc : c = decide (y < 0)) (hA : Nt w va x.natAbs) (hB : Nt w vb y.natAbs) (hy : y ≠ 0) (hl : Lw x.natAbs ≤ 100000) (hl' : Lw y.natAbs ≤ 100000) :
    Calls Tryz.prog 82 #[.agg #[.bool b, va], .agg #[.bool c, vb]] w (RatR (redT x y) (redM x y) w) := by
  by_cases h : y < 0
  · exact t82n x y b c va vb w hb hc hA hB h hl hl'
  · exact t82p x y b c va vb w hb hc hA hB (by omega) hl hl'
/-- an integer as a result, its sign by name -/
def IntB (b : Bool) (z : Int) (w : World) (e : Ending) (w' : World) : Prop := ∃ v, e = .returned (.agg #[.bool b, v]) ∧ Nt w' v z.natAbs ∧ Below w.heap.size w w'
def RatB (b : Bool) (t : Int) (m : Nat) (w : World) (e : Ending) (w' : World) : Prop := ∃ v u, e = .returned (ratV b v false u) ∧ Nt w' v t.natAbs ∧ Nt w' u m ∧ Below w.heap.size w w'
theorem IntR.toB {b : Bool} {z : Int} {w w' : World} {e : Ending} (hb : b = decide (z < 0)) (h : IntR z w e w') : IntB b z w e w' := by subst hb; exact h
theorem RatR.toB {b : Bool} {t : Int} {m : Nat} {w w' : World} {e : Ending} (hb : b = decide (t < 0)) (h : RatR t m w e w') : RatB b t m w e w' := by subst hb; exact h
theorem bx98 (w : World) (x y : Array Value) : Below w.heap.size w (((w.alloc (.cells x 98)).alloc (.cells y 98)).alloc (.cells Z98 98)) ∧ Blk (((w.alloc (.cells x 98)).alloc (.cells y 98)).alloc (.cells Z98 98)) w.heap.size 98 x.toList ∧
    Blk (((w.alloc (.cells x 98)).alloc (.cells y 98)).alloc (.cells Z98 98)) (w.heap.size + 1) 98 y.toList ∧ Blk (((w.alloc (.cells x 98)).alloc (.cells y 98)).alloc (.cells Z98 98)) (w.heap.size + 1 + 1) 98 Z98.toList := by
  have hb1 := bSelf w (.cells x 98)
  have k1 := Blk.new w x 98
  have hb2 := bSelf (w.alloc (.cells x 98)) (.cells y 98)
  have k2 := Blk.new (w.alloc (.cells x 98)) y 98
  have hb3 := bSelf ((w.alloc (.cells x 98)).alloc (.cells y 98)) (.cells Z98 98)
  have k3 := Blk.new ((w.alloc (.cells x 98)).alloc (.cells y 98)) Z98 98
  refine ⟨bThen (bThen hb1 hb2) hb3, (k1.below hb2 k1.lt).below hb3 (k1.below hb2 k1.lt).lt, ?_, ?_⟩
  · have := k2.below hb3 k2.lt
    simpa using this
  · simpa using k3
theorem far4 {w : World} {g j g' : Nat} {x a b c d : Value} (h : w.cell? ⟨g, j, none⟩ = some x) (hne : g ≠ g') : ((((w.setCell ⟨g', 0, none⟩ a).setCell ⟨g', 1, none⟩ b).setCell ⟨g', 2, none⟩ c).setCell ⟨g', 3, none⟩ d).cell? ⟨g, j, none⟩ = some x :=
  cell_far (cell_far (cell_far (cell_far h hne) hne) hne) hne
theorem nt_cast {w : World} {v : Value} {m : Nat} (h : Nt w v m) : Nt w v ((m : Int)).natAbs := by rw [Int.natAbs_natCast]; exact h
theorem lw_cast {m k : Nat} (h : Lw m ≤ k) : Lw ((m : Int)).natAbs ≤ k := by rw [Int.natAbs_natCast]; exact h
theorem Nt.of_eq {w : World} {v : Value} {m n : Nat} (h : Nt w v m) (e : m = n) : Nt w v n := e ▸ h
theorem bx98' (w : World) (x y : Array Value) : Below w.heap.size w ((w.alloc (.cells x 98)).alloc (.cells y 98)) ∧ Blk ((w.alloc (.cells x 98)).alloc (.cells y 98)) w.heap.size 98 x.toList ∧
    Blk ((w.alloc (.cells x 98)).alloc (.cells y 98)) (w.heap.size + 1) 98 y.toList ∧ True := by
  have hb1 := bSelf w (.cells x 98)
  have k1 := Blk.new w x 98
  have hb2 := bSelf (w.alloc (.cells x 98)) (.cells y 98)
  have k2 := Blk.new (w.alloc (.cells x 98)) y 98
  refine ⟨bThen hb1 hb2, k1.below hb2 k1.lt, ?_, trivial⟩
  simpa using k2
set_option maxRecDepth 100000 in
set_option maxHeartbeats 8000000 in
theorem t108 (x y : Int) (m n : Nat) (b c : Bool) (va ua vb ub : Value) (w : World) (hb : b = decide (x < 0)) (hc : c = decide (y < 0)) (hA : Nt w va x.natAbs) (hA' : Nt w ua m) (hB : Nt w vb y.natAbs) (hB' : Nt w ub n) (hm : 0 < m) (hn : 0 < n) (hl : Lw x.natAbs ≤ 10000) (hlm : Lw m ≤ 10000) (hl' : Lw y.natAbs ≤ 10000) (hln : Lw n ≤ 10000) :
    Calls Tryz.prog 108 #[ratV b va false ua, ratV c vb false ub] w (RatR (redT (x * y) ((m : Int) * n)) (redM (x * y) ((m : Int) * n)) w) := by
  have hA2 := nt_cast hA'
  have hB2 := nt_cast hB'
  have lA2 := lw_cast hlm
  have lB2 := lw_cast hln
  obtain ⟨z2, hz2⟩ : ∃ z : Int, z = (m : Int) * n := ⟨_, rfl⟩
  have hz2p : 0 < z2 := by rw [hz2]; exact Int.mul_pos (by omega) (by omega)
  have lz2 : Lw z2.natAbs ≤ 20000 := by rw [hz2]; exact Lw_mulZ _ _ 10000 lA2 lB2
  have sz2 : false = decide (z2 < 0) := by simp; omega
  rw [← hz2]
  obtain ⟨z1, hz1⟩ : ∃ z : Int, z = x * y := ⟨_, rfl⟩
  rw [← hz1]
  have lz1 : Lw z1.natAbs ≤ 20000 := by rw [hz1]; exact Lw_mulZ _ _ 10000 hl hl'
  obtain ⟨b1, hb1⟩ : ∃ b : Bool, b = decide (z1 < 0) := ⟨_, rfl⟩
  have C1 : Hid (∀ W : World, Below w.heap.size w W → Calls Tryz.prog 95 #[.agg #[.bool b, va], .agg #[.bool c, vb]] W (IntB b1 z1 W)) := fun W h => by
    have := t95I x y b c va vb W hb hc (hA.below h) (hB.below h) (by omega) (by omega)
    rw [← hz1] at this
    exact this.mono fun _ _ k => k.toB hb1
  have C2 : Hid (∀ W : World, Below w.heap.size w W → Calls Tryz.prog 95 #[.agg #[.bool false, ua], .agg #[.bool false, ub]] W (IntB false z2 W)) := fun W h => by
    have := t95I (m : Int) (n : Int) false false ua ub W (false_neg m) (false_neg n) (hA2.below h) (hB2.below h) (by omega) (by omega)
    rw [← hz2] at this
    exact this.mono fun _ _ k => k.toB sz2
  obtain ⟨T, hT⟩ : ∃ T : Int, T = redT z1 z2 := ⟨_, rfl⟩
  obtain ⟨M, hM⟩ : ∃ M : Nat, M = redM z1 z2 := ⟨_, rfl⟩
  obtain ⟨bt, hbt⟩ : ∃ b : Bool, b = decide (T < 0) := ⟨_, rfl⟩
  have C6 : Hid (∀ (W : World) (v u : Value), Nt W v z1.natAbs → Nt W u z2.natAbs → Calls Tryz.prog 82 #[.agg #[.bool b1, v], .agg #[.bool false, u]] W (RatB bt T M W)) := fun W v u h k => by
    have := t82 z1 z2 b1 false v u W hb1 sz2 h k (by omega) (by omega) (by omega)
    rw [← hT, ← hM] at this
    exact this.mono fun _ _ k => k.toB hbt
  rw [← hT, ← hM]
  have HBT := Lib.hid hbt
  obtain ⟨pa, ca, rfl, -, -, -⟩ := hA.cells
  obtain ⟨pb, cb, rfl, -, -, -⟩ := hB.cells
  obtain ⟨qa, da, rfl, -, -, -⟩ := hA'.cells
  obtain ⟨qb, db, rfl, -, -, -⟩ := hB'.cells
  generalize Lw x.natAbs = lx at *
  generalize Lw y.natAbs = ly at *
  generalize Lw m = lm at *
  generalize Lw n = ln at *
  obtain ⟨HW0, k1, k2, k3⟩ := bx98 w #[.bool b, .slice pa lx ca, .bool false, .slice qa lm da] #[.bool c, .slice pb ly cb, .bool false, .slice qb ln db]
  have HR := Lib.hid k3
  have HB0 := Lib.hid HW0
  clear hA hB hA' hB' hA2 hB2 lA2 lB2 hb hc hm hn hl hlm hl' hln hz2 hz2p lz2 sz2 hz1 lz1 hb1 hT hM hbt
  go_enter Tryz.func108, Tryz.ntmps108
  go_upto_region 1 with fail
  generalize (((w.alloc (.cells #[.bool b, .slice pa lx ca, .bool false, .slice qa lm da] 98)).alloc (.cells #[.bool c, .slice pb ly cb, .bool false, .slice qb ln db] 98)).alloc (.cells Z98 98)) = W at *
  have k0_0 := k1.cell 0 rfl
  have k0_1 := k1.cell 1 rfl
  have k0_2 := k1.cell 2 rfl
  have k0_3 := k1.cell 3 rfl
  have k0_4 := k2.cell 0 rfl
  have k0_5 := k2.cell 1 rfl
  have k0_6 := k2.cell 2 rfl
  have k0_7 := k2.cell 3 rfl
  clear k1 k2 k3 HW0
  have q0 : Below w.heap.size w W.drew := HB0.out.drew
  have d0_0 : W.drew.cell? ⟨w.heap.size, 0, none⟩ = some (.bool b) := k0_0
  have d0_1 : W.drew.cell? ⟨w.heap.size, 1, none⟩ = some (.slice pa lx ca) := k0_1
  have d0_2 : W.drew.cell? ⟨w.heap.size, 2, none⟩ = some (.bool false) := k0_2
  have d0_3 : W.drew.cell? ⟨w.heap.size, 3, none⟩ = some (.slice qa lm da) := k0_3
  have d0_4 : W.drew.cell? ⟨w.heap.size + 1, 0, none⟩ = some (.bool c) := k0_4
  have d0_5 : W.drew.cell? ⟨w.heap.size + 1, 1, none⟩ = some (.slice pb ly cb) := k0_5
  have d0_6 : W.drew.cell? ⟨w.heap.size + 1, 2, none⟩ = some (.bool false) := k0_6
  have d0_7 : W.drew.cell? ⟨w.heap.size + 1, 3, none⟩ = some (.slice qb ln db) := k0_7
  have ne1 : w.heap.size ≠ w.heap.size + 1 + 1 := by omega
  have ne2 : w.heap.size + 1 ≠ w.heap.size + 1 + 1 := by omega
  have HRd : Hid (Blk W.drew (w.heap.size + 1 + 1) 98 Z98.toList) := HR.out
  go_region_held3 (fun w' => w'.cell? ⟨w.heap.size, 0, none⟩ = some (.bool b) ∧ w'.cell? ⟨w.heap.size, 1, none⟩ = some (.slice pa lx ca) ∧ w'.cell? ⟨w.heap.size, 2, none⟩ = some (.bool false) ∧ w'.cell? ⟨w.heap.size, 3, none⟩ = some (.slice qa lm da) ∧ w'.cell? ⟨w.heap.size + 1, 0, none⟩ = some (.bool c) ∧ w'.cell? ⟨w.heap.size + 1, 1, none⟩ = some (.slice pb ly cb) ∧ w'.cell? ⟨w.heap.size + 1, 2, none⟩ = some (.bool false) ∧ w'.cell? ⟨w.heap.size + 1, 3, none⟩ = some (.slice qb ln db))
    (first
      | (with_reducible exact ⟨d0_0, d0_1, d0_2, d0_3, d0_4, d0_5, d0_6, d0_7⟩)
      | (with_reducible exact ⟨k1_0, k1_1, k1_2, k1_3, k1_4, k1_5, k1_6, k1_7⟩)
      | (with_reducible exact ⟨k2_0, k2_1, k2_2, k2_3, k2_4, k2_5, k2_6, k2_7⟩)
      | (with_reducible exact ⟨k3_0, k3_1, k3_2, k3_3, k3_4, k3_5, k3_6, k3_7⟩)
      | exact ⟨far4 k3_0 ne1, far4 k3_1 ne1, far4 k3_2 ne1, far4 k3_3 ne1, far4 k3_4 ne2, far4 k3_5 ne2, far4 k3_6 ne2, far4 k3_7 ne2⟩
      | fail "nokeep")
    (first
      | (go_at_call 95; (with_reducible refine (C1.out _ q0).mono ?_); rintro e w1 ⟨v1, rfl, h1, hb1⟩; obtain ⟨p1, c1, rfl, -, -, -⟩ := h1.cells; have q1 := bThen q0 hb1; have k1_0 := below_cell hb1 k0_0; have k1_1 := below_cell hb1 k0_1; have k1_2 := below_cell hb1 k0_2; have k1_3 := below_cell hb1 k0_3; have k1_4 := below_cell hb1 k0_4; have k1_5 := below_cell hb1 k0_5; have k1_6 := below_cell hb1 k0_6; have k1_7 := below_cell hb1 k0_7)
      | (go_at_call 95; (with_reducible refine (C2.out _ q1).mono ?_); rintro e w2 ⟨v2, rfl, h2, hb2⟩; obtain ⟨p2, c2, rfl, -, -, -⟩ := h2.cells; have q2 := bThen q1 hb2; have k2_0 := below_cell hb2 k1_0; have k2_1 := below_cell hb2 k1_1; have k2_2 := below_cell hb2 k1_2; have k2_3 := below_cell hb2 k1_3; have k2_4 := below_cell hb2 k1_4; have k2_5 := below_cell hb2 k1_5; have k2_6 := below_cell hb2 k1_6; have k2_7 := below_cell hb2 k1_7)
      | (go_at_call 82; (with_reducible refine (C6.out _ _ _ (h1.below hb2) h2).mono ?_); rintro e w3 ⟨v3, u3, rfl, h3, g3, hb3⟩; obtain ⟨p3, c3, rfl, -, -, -⟩ := h3.cells; obtain ⟨s3, d3, rfl, -, -, -⟩ := g3.cells; have q3 := bThen q2 hb3; have k3_0 := below_cell hb3 k2_0; have k3_1 := below_cell hb3 k2_1; have k3_2 := below_cell hb3 k2_2; have k3_3 := below_cell hb3 k2_3; have k3_4 := below_cell hb3 k2_4; have k3_5 := below_cell hb3 k2_5; have k3_6 := below_cell hb3 k2_6; have k3_7 := below_cell hb3 k2_7; have hr1 := HRd.out.below hb1 HRd.out.lt; have hr2 := hr1.below hb2 hr1.lt; have hr3 := hr2.below hb3 hr2.lt; have r0 := hr3.cell 0 rfl; have r1 := hr3.cell 1 rfl; have r2 := hr3.cell 2 rfl; have r3 := hr3.cell 3 rfl; have f0 := hr3.free 0; have f1 := hr3.free 1; have f2 := hr3.free 2; have f3 := hr3.free 3; have HR2 := Lib.hid hr3; clear hr1 hr2 hr3)
      | fail "noarm")
  go_wp2
  have g00 : (w3.setCell ⟨w.heap.size + 1 + 1, 0, none⟩ (.bool bt)).cell? ⟨w.heap.size + 1 + 1, 0, none⟩ = some (.bool bt) := (HR2.out.set 0 _).cell 0 rfl
  have g01 : ((w3.setCell ⟨w.heap.size + 1 + 1, 0, none⟩ (.bool bt)).setCell ⟨w.heap.size + 1 + 1, 1, none⟩ (.slice p3 (Lw T.natAbs) c3)).cell? ⟨w.heap.size + 1 + 1, 1, none⟩ = some (.slice p3 (Lw T.natAbs) c3) := ((HR2.out.set 0 _).set 1 _).cell 1 rfl
  have g02 : (((w3.setCell ⟨w.heap.size + 1 + 1, 0, none⟩ (.bool bt)).setCell ⟨w.heap.size + 1 + 1, 1, none⟩ (.slice p3 (Lw T.natAbs) c3)).setCell ⟨w.heap.size + 1 + 1, 2, none⟩ (.bool false)).cell? ⟨w.heap.size + 1 + 1, 2, none⟩ = some (.bool false) := (((HR2.out.set 0 _).set 1 _).set 2 _).cell 2 rfl
  have g03 : ((((w3.setCell ⟨w.heap.size + 1 + 1, 0, none⟩ (.bool bt)).setCell ⟨w.heap.size + 1 + 1, 1, none⟩ (.slice p3 (Lw T.natAbs) c3)).setCell ⟨w.heap.size + 1 + 1, 2, none⟩ (.bool false)).setCell ⟨w.heap.size + 1 + 1, 3, none⟩ (.slice s3 (Lw M) d3)).cell? ⟨w.heap.size + 1 + 1, 3, none⟩ = some (.slice s3 (Lw M) d3) := ((((HR2.out.set 0 _).set 1 _).set 2 _).set 3 _).cell 3 rfl
  refine bodyPost_ret (v := ratV bt (.slice p3 (Lw T.natAbs) c3) false (.slice s3 (Lw M) d3)) (by simp [results, Tryz.results108, go_sem, g00, g01, g02, g03]) rfl ?_
  refine ⟨_, _, by rw [← HBT.out], h3.four HR2.out _ _ _ _, g3.four HR2.out _ _ _ _, ?_⟩
  exact (((q3.setCell (by simp; omega) _).setCell (by simp; omega) _).setCell (by simp; omega) _).setCell (by simp; omega) _
set_option maxRecDepth 100000 in
set_option maxHeartbeats 8000000 in
theorem t113 (x y : Int) (m n : Nat) (b c : Bool) (va ua vb ub : Value) (w : World) (hb : b = decide (x < 0)) (hc : c = decide (y < 0)) (hA : Nt w va x.natAbs) (hA' : Nt w ua m) (hB : Nt w vb y.natAbs) (hB' : Nt w ub n) (hm : 0 < m) (hn : 0 < n) (hl : Lw x.natAbs ≤ 10000) (hlm : Lw m ≤ 10000) (hl' : Lw y.natAbs ≤ 10000) (hln : Lw n ≤ 10000) :
    Calls Tryz.prog 113 #[ratV b va false ua, ratV c vb false ub] w (RatR (redT (x * n + y * m) ((m : Int) * n)) (redM (x * n + y * m) ((m : Int) * n)) w) := by
  have hA2 := nt_cast hA'
  have hB2 := nt_cast hB'
  have lA2 := lw_cast hlm
  have lB2 := lw_cast hln
  obtain ⟨z2, hz2⟩ : ∃ z : Int, z = (m : Int) * n := ⟨_, rfl⟩
  have hz2p : 0 < z2 := by rw [hz2]; exact Int.mul_pos (by omega) (by omega)
  have lz2 : Lw z2.natAbs ≤ 20000 := by rw [hz2]; exact Lw_mulZ _ _ 10000 lA2 lB2
  have sz2 : false = decide (z2 < 0) := by simp; omega
  rw [← hz2]
  obtain ⟨z3, hz3⟩ : ∃ z : Int, z = x * n := ⟨_, rfl⟩
  obtain ⟨z4, hz4⟩ : ∃ z : Int, z = y * m := ⟨_, rfl⟩
  rw [← hz3, ← hz4]
  have lz3 : Lw z3.natAbs ≤ 20000 := by rw [hz3]; exact Lw_mulZ _ _ 10000 hl lB2
  have lz4 : Lw z4.natAbs ≤ 20000 := by rw [hz4]; exact Lw_mulZ _ _ 10000 hl' lA2
  obtain ⟨b3, hb3⟩ : ∃ b : Bool, b = decide (z3 < 0) := ⟨_, rfl⟩
  obtain ⟨b4, hb4⟩ : ∃ b : Bool, b = decide (z4 < 0) := ⟨_, rfl⟩
  have C3 : Hid (∀ W : World, Below w.heap.size w W → Calls Tryz.prog 95 #[.agg #[.bool b, va], .agg #[.bool false, ub]] W (IntB b3 z3 W)) := fun W h => by
    have := t95I x (n : Int) b false va ub W hb (false_neg n) (hA.below h) (hB2.below h) (by omega) (by omega)
    rw [← hz3] at this
    exact this.mono fun _ _ k => k.toB hb3
  have C4 : Hid (∀ W : World, Below w.heap.size w W → Calls Tryz.prog 95 #[.agg #[.bool c, vb], .agg #[.bool false, ua]] W (IntB b4 z4 W)) := fun W h => by
    have := t95I y (m : Int) c false vb ua W hc (false_neg m) (hB.below h) (hA2.below h) (by omega) (by omega)
    rw [← hz4] at this
    exact this.mono fun _ _ k => k.toB hb4
  obtain ⟨z1, hz1⟩ : ∃ z : Int, z = z3 + z4 := ⟨_, rfl⟩
  rw [← hz1]
  have lz1 : Lw z1.natAbs ≤ 20001 := by rw [hz1]; exact Lw_addZ _ _ 20000 lz3 lz4
  obtain ⟨b1, hb1⟩ : ∃ b : Bool, b = decide (z1 < 0) := ⟨_, rfl⟩
  have C5 : Hid (∀ (W : World) (v u : Value), Nt W v z3.natAbs → Nt W u z4.natAbs → Calls Tryz.prog 91 #[.agg #[.bool b3, v], .agg #[.bool b4, u]] W (IntB b1 z1 W)) := fun W v u h k => by
    have := t91 z3 z4 b3 b4 v u W hb3 hb4 h k (by omega) (by omega)
    rw [← hz1] at this
    exact this.mono fun _ _ k => k.toB hb1
  have C2 : Hid (∀ W : World, Below w.heap.size w W → Calls Tryz.prog 95 #[.agg #[.bool false, ua], .agg #[.bool false, ub]] W (IntB false z2 W)) := fun W h => by
    have := t95I (m : Int) (n : Int) false false ua ub W (false_neg m) (false_neg n) (hA2.below h) (hB2.below h) (by omega) (by omega)
    rw [← hz2] at this
    exact this.mono fun _ _ k => k.toB sz2
  obtain ⟨T, hT⟩ : ∃ T : Int, T = redT z1 z2 := ⟨_, rfl⟩
  obtain ⟨M, hM⟩ : ∃ M : Nat, M = redM z1 z2 := ⟨_, rfl⟩
  obtain ⟨bt, hbt⟩ : ∃ b : Bool, b = decide (T < 0) := ⟨_, rfl⟩
  have C6 : Hid (∀ (W : World) (v u : Value), Nt W v z1.natAbs → Nt W u z2.natAbs → Calls Tryz.prog 82 #[.agg #[.bool b1, v], .agg #[.bool false, u]] W (RatB bt T M W)) := fun W v u h k => by
    have := t82 z1 z2 b1 false v u W hb1 sz2 h k (by omega) (by omega) (by omega)
    rw [← hT, ← hM] at this
    exact this.mono fun _ _ k => k.toB hbt
  rw [← hT, ← hM]
  have HBT := Lib.hid hbt
  obtain ⟨pa, ca, rfl, -, -, -⟩ := hA.cells
  obtain ⟨pb, cb, rfl, -, -, -⟩ := hB.cells
  obtain ⟨qa, da, rfl, -, -, -⟩ := hA'.cells
  obtain ⟨qb, db, rfl, -, -, -⟩ := hB'.cells
  generalize Lw x.natAbs = lx at *
  generalize Lw y.natAbs = ly at *
  generalize Lw m = lm at *
  generalize Lw n = ln at *
  obtain ⟨HW0, k1, k2, k3⟩ := bx98 w #[.bool b, .slice pa lx ca, .bool false, .slice qa lm da] #[.bool c, .slice pb ly cb, .bool false, .slice qb ln db]
  have HR := Lib.hid k3
  have HB0 := Lib.hid HW0
  clear hA hB hA' hB' hA2 hB2 lA2 lB2 hb hc hm hn hl hlm hl' hln hz2 hz2p lz2 sz2 hz1 lz1 hb1 hT hM hbt hz3 hz4 lz3 lz4 hb3 hb4
  go_enter Tryz.func113, Tryz.ntmps113
  go_upto_region 1 with fail
  generalize (((w.alloc (.cells #[.bool b, .slice pa lx ca, .bool false, .slice qa lm da] 98)).alloc (.cells #[.bool c, .slice pb ly cb, .bool false, .slice qb ln db] 98)).alloc (.cells Z98 98)) = W at *
  have k0_0 := k1.cell 0 rfl
  have k0_1 := k1.cell 1 rfl
  have k0_2 := k1.cell 2 rfl
  have k0_3 := k1.cell 3 rfl
  have k0_4 := k2.cell 0 rfl
  have k0_5 := k2.cell 1 rfl
  have k0_6 := k2.cell 2 rfl
  have k0_7 := k2.cell 3 rfl
  clear k1 k2 k3 HW0
  have q0 : Below w.heap.size w W.drew := HB0.out.drew
  have d0_0 : W.drew.cell? ⟨w.heap.size, 0, none⟩ = some (.bool b) := k0_0
  have d0_1 : W.drew.cell? ⟨w.heap.size, 1, none⟩ = some (.slice pa lx ca) := k0_1
  have d0_2 : W.drew.cell? ⟨w.heap.size, 2, none⟩ = some (.bool false) := k0_2
  have d0_3 : W.drew.cell? ⟨w.heap.size, 3, none⟩ = some (.slice qa lm da) := k0_3
  have d0_4 : W.drew.cell? ⟨w.heap.size + 1, 0, none⟩ = some (.bool c) := k0_4
  have d0_5 : W.drew.cell? ⟨w.heap.size + 1, 1, none⟩ = some (.slice pb ly cb) := k0_5
  have d0_6 : W.drew.cell? ⟨w.heap.size + 1, 2, none⟩ = some (.bool false) := k0_6
  have d0_7 : W.drew.cell? ⟨w.heap.size + 1, 3, none⟩ = some (.slice qb ln db) := k0_7
  have ne1 : w.heap.size ≠ w.heap.size + 1 + 1 := by omega
  have ne2 : w.heap.size + 1 ≠ w.heap.size + 1 + 1 := by omega
  have HRd : Hid (Blk W.drew (w.heap.size + 1 + 1) 98 Z98.toList) := HR.out
  go_region_held3 (fun w' => w'.cell? ⟨w.heap.size, 0, none⟩ = some (.bool b) ∧ w'.cell? ⟨w.heap.size, 1, none⟩ = some (.slice pa lx ca) ∧ w'.cell? ⟨w.heap.size, 2, none⟩ = some (.bool false) ∧ w'.cell? ⟨w.heap.size, 3, none⟩ = some (.slice qa lm da) ∧ w'.cell? ⟨w.heap.size + 1, 0, none⟩ = some (.bool c) ∧ w'.cell? ⟨w.heap.size + 1, 1, none⟩ = some (.slice pb ly cb) ∧ w'.cell? ⟨w.heap.size + 1, 2, none⟩ = some (.bool false) ∧ w'.cell? ⟨w.heap.size + 1, 3, none⟩ = some (.slice qb ln db))
    (first
      | (with_reducible exact ⟨d0_0, d0_1, d0_2, d0_3, d0_4, d0_5, d0_6, d0_7⟩)
      | (with_reducible exact ⟨k1_0, k1_1, k1_2, k1_3, k1_4, k1_5, k1_6, k1_7⟩)
      | (with_reducible exact ⟨k2_0, k2_1, k2_2, k2_3, k2_4, k2_5, k2_6, k2_7⟩)
      | (with_reducible exact ⟨k3_0, k3_1, k3_2, k3_3, k3_4, k3_5, k3_6, k3_7⟩)
      | (with_reducible exact ⟨k4_0, k4_1, k4_2, k4_3, k4_4, k4_5, k4_6, k4_7⟩)
      | (with_reducible exact ⟨k5_0, k5_1, k5_2, k5_3, k5_4, k5_5, k5_6, k5_7⟩)
      | exact ⟨far4 k5_0 ne1, far4 k5_1 ne1, far4 k5_2 ne1, far4 k5_3 ne1, far4 k5_4 ne2, far4 k5_5 ne2, far4 k5_6 ne2, far4 k5_7 ne2⟩
      | fail "nokeep")
    (first
      | (go_at_call 95; (with_reducible refine (C3.out _ q0).mono ?_); rintro e w1 ⟨v1, rfl, h1, hb1⟩; obtain ⟨p1, c1, rfl, -, -, -⟩ := h1.cells; have q1 := bThen q0 hb1; have k1_0 := below_cell hb1 k0_0; have k1_1 := below_cell hb1 k0_1; have k1_2 := below_cell hb1 k0_2; have k1_3 := below_cell hb1 k0_3; have k1_4 := below_cell hb1 k0_4; have k1_5 := below_cell hb1 k0_5; have k1_6 := below_cell hb1 k0_6; have k1_7 := below_cell hb1 k0_7)
      | (go_at_call 95; (with_reducible refine (C4.out _ q1).mono ?_); rintro e w2 ⟨v2, rfl, h2, hb2⟩; obtain ⟨p2, c2, rfl, -, -, -⟩ := h2.cells; have q2 := bThen q1 hb2; have k2_0 := below_cell hb2 k1_0; have k2_1 := below_cell hb2 k1_1; have k2_2 := below_cell hb2 k1_2; have k2_3 := below_cell hb2 k1_3; have k2_4 := below_cell hb2 k1_4; have k2_5 := below_cell hb2 k1_5; have k2_6 := below_cell hb2 k1_6; have k2_7 := below_cell hb2 k1_7)
      | (go_at_call 91; (with_reducible refine (C5.out _ _ _ (h1.below hb2) h2).mono ?_); rintro e w3 ⟨v3, rfl, h3, hb3⟩; obtain ⟨p3, c3, rfl, -, -, -⟩ := h3.cells; have q3 := bThen q2 hb3; have k3_0 := below_cell hb3 k2_0; have k3_1 := below_cell hb3 k2_1; have k3_2 := below_cell hb3 k2_2; have k3_3 := below_cell hb3 k2_3; have k3_4 := below_cell hb3 k2_4; have k3_5 := below_cell hb3 k2_5; have k3_6 := below_cell hb3 k2_6; have k3_7 := below_cell hb3 k2_7)
      | (go_at_call 95; (with_reducible refine (C2.out _ q3).mono ?_); rintro e w4 ⟨v4, rfl, h4, hb4⟩; obtain ⟨p4, c4, rfl, -, -, -⟩ := h4.cells; have q4 := bThen q3 hb4; have k4_0 := below_cell hb4 k3_0; have k4_1 := below_cell hb4 k3_1; have k4_2 := below_cell hb4 k3_2; have k4_3 := below_cell hb4 k3_3; have k4_4 := below_cell hb4 k3_4; have k4_5 := below_cell hb4 k3_5; have k4_6 := below_cell hb4 k3_6; have k4_7 := below_cell hb4 k3_7)
      | (go_at_call 82; (with_reducible refine (C6.out _ _ _ (h3.below hb4) h4).mono ?_); rintro e w5 ⟨v5, u5, rfl, h5, g5, hb5⟩; obtain ⟨p5, c5, rfl, -, -, -⟩ := h5.cells; obtain ⟨s5, d5, rfl, -, -, -⟩ := g5.cells; have q5 := bThen q4 hb5; have k5_0 := below_cell hb5 k4_0; have k5_1 := below_cell hb5 k4_1; have k5_2 := below_cell hb5 k4_2; have k5_3 := below_cell hb5 k4_3; have k5_4 := below_cell hb5 k4_4; have k5_5 := below_cell hb5 k4_5; have k5_6 := below_cell hb5 k4_6; have k5_7 := below_cell hb5 k4_7; have hr1 := HRd.out.below hb1 HRd.out.lt; have hr2 := hr1.below hb2 hr1.lt; have hr3 := hr2.below hb3 hr2.lt; have hr4 := hr3.below hb4 hr3.lt; have hr5 := hr4.below hb5 hr4.lt; have r0 := hr5.cell 0 rfl; have r1 := hr5.cell 1 rfl; have r2 := hr5.cell 2 rfl; have r3 := hr5.cell 3 rfl; have f0 := hr5.free 0; have f1 := hr5.free 1; have f2 := hr5.free 2; have f3 := hr5.free 3; have HR2 := Lib.hid hr5; clear hr1 hr2 hr3 hr4 hr5)
      | fail "noarm")
  go_wp2
  have g00 : (w5.setCell ⟨w.heap.size + 1 + 1, 0, none⟩ (.bool bt)).cell? ⟨w.heap.size + 1 + 1, 0, none⟩ = some (.bool bt) := (HR2.out.set 0 _).cell 0 rfl
  have g01 : ((w5.setCell ⟨w.heap.size + 1 + 1, 0, none⟩ (.bool bt)).setCell ⟨w.heap.size + 1 + 1, 1, none⟩ (.slice p5 (Lw T.natAbs) c5)).cell? ⟨w.heap.size + 1 + 1, 1, none⟩ = some (.slice p5 (Lw T.natAbs) c5) := ((HR2.out.set 0 _).set 1 _).cell 1 rfl
  have g02 : (((w5.setCell ⟨w.heap.size + 1 + 1, 0, none⟩ (.bool bt)).setCell ⟨w.heap.size + 1 + 1, 1, none⟩ (.slice p5 (Lw T.natAbs) c5)).setCell ⟨w.heap.size + 1 + 1, 2, none⟩ (.bool false)).cell? ⟨w.heap.size + 1 + 1, 2, none⟩ = some (.bool false) := (((HR2.out.set 0 _).set 1 _).set 2 _).cell 2 rfl
  have g03 : ((((w5.setCell ⟨w.heap.size + 1 + 1, 0, none⟩ (.bool bt)).setCell ⟨w.heap.size + 1 + 1, 1, none⟩ (.slice p5 (Lw T.natAbs) c5)).setCell ⟨w.heap.size + 1 + 1, 2, none⟩ (.bool false)).setCell ⟨w.heap.size + 1 + 1, 3, none⟩ (.slice s5 (Lw M) d5)).cell? ⟨w.heap.size + 1 + 1, 3, none⟩ = some (.slice s5 (Lw M) d5) := ((((HR2.out.set 0 _).set 1 _).set 2 _).set 3 _).cell 3 rfl
  refine bodyPost_ret (v := ratV bt (.slice p5 (Lw T.natAbs) c5) false (.slice s5 (Lw M) d5)) (by simp [results, Tryz.results113, go_sem, g00, g01, g02, g03]) rfl ?_
  refine ⟨_, _, by rw [← HBT.out], h5.four HR2.out _ _ _ _, g5.four HR2.out _ _ _ _, ?_⟩
  exact (((q5.setCell (by simp; omega) _).setCell (by simp; omega) _).setCell (by simp; omega) _).setCell (by simp; omega) _
set_option maxRecDepth 100000 in
set_option maxHeartbeats 8000000 in
theorem t111 (x y : Int) (m n : Nat) (b c : Bool) (va ua vb ub : Value) (w : World) (hb : b = decide (x < 0)) (hc : c = decide (y < 0)) (hA : Nt w va x.natAbs) (hA' : Nt w ua m) (hB : Nt w vb y.natAbs) (hB' : Nt w ub n) (hm : 0 < m) (hn : 0 < n) (hl : Lw x.natAbs ≤ 10000) (hlm : Lw m ≤ 10000) (hl' : Lw y.natAbs ≤ 10000) (hln : Lw n ≤ 10000) :
    Calls Tryz.prog 111 #[ratV b va false ua, ratV c vb false ub] w (fun e w' => e = .returned (.int .i64 (cmpZ (x * n) (y * m))) ∧ Below w.heap.size w w') := by
  have hA2 := nt_cast hA'
  have hB2 := nt_cast hB'
  have lA2 := lw_cast hlm
  have lB2 := lw_cast hln
  obtain ⟨z2, hz2⟩ : ∃ z : Int, z = (m : Int) * n := ⟨_, rfl⟩
  have hz2p : 0 < z2 := by rw [hz2]; exact Int.mul_pos (by omega) (by omega)
  have lz2 : Lw z2.natAbs ≤ 20000 := by rw [hz2]; exact Lw_mulZ _ _ 10000 lA2 lB2
  have sz2 : false = decide (z2 < 0) := by simp; omega
  obtain ⟨z3, hz3⟩ : ∃ z : Int, z = x * n := ⟨_, rfl⟩
  obtain ⟨z4, hz4⟩ : ∃ z : Int, z = y * m := ⟨_, rfl⟩
  rw [← hz3, ← hz4]
  have lz3 : Lw z3.natAbs ≤ 20000 := by rw [hz3]; exact Lw_mulZ _ _ 10000 hl lB2
  have lz4 : Lw z4.natAbs ≤ 20000 := by rw [hz4]; exact Lw_mulZ _ _ 10000 hl' lA2
  obtain ⟨b3, hb3⟩ : ∃ b : Bool, b = decide (z3 < 0) := ⟨_, rfl⟩
  obtain ⟨b4, hb4⟩ : ∃ b : Bool, b = decide (z4 < 0) := ⟨_, rfl⟩
  have C3 : Hid (∀ W : World, Below w.heap.size w W → Calls Tryz.prog 95 #[.agg #[.bool b, va], .agg #[.bool false, ub]] W (IntB b3 z3 W)) := fun W h => by
    have := t95I x (n : Int) b false va ub W hb (false_neg n) (hA.below h) (hB2.below h) (by omega) (by omega)
    rw [← hz3] at this
    exact this.mono fun _ _ k => k.toB hb3
  have C4 : Hid (∀ W : World, Below w.heap.size w W → Calls Tryz.prog 95 #[.agg #[.bool c, vb], .agg #[.bool false, ua]] W (IntB b4 z4 W)) := fun W h => by
    have := t95I y (m : Int) c false vb ua W hc (false_neg m) (hB.below h) (hA2.below h) (by omega) (by omega)
    rw [← hz4] at this
    exact this.mono fun _ _ k => k.toB hb4
  obtain ⟨cv, hcv⟩ : ∃ cv : Int, cv = cmpZ z3 z4 := ⟨_, rfl⟩
  have C6 : Hid (∀ (W : World) (v u : Value), Nt W v z3.natAbs → Nt W u z4.natAbs → Calls Tryz.prog 101 #[.agg #[.bool b3, v], .agg #[.bool b4, u]] W fun e w' => e = .returned (.int .i64 cv) ∧ Below W.heap.size W w') := fun W v u h k => by
    have := t101 z3 z4 b3 b4 v u W hb3 hb4 h k (by omega) (by omega)
    rw [← hcv] at this
    exact this
  rw [← hcv]
  obtain ⟨pa, ca, rfl, -, -, -⟩ := hA.cells
  obtain ⟨pb, cb, rfl, -, -, -⟩ := hB.cells
  obtain ⟨qa, da, rfl, -, -, -⟩ := hA'.cells
  obtain ⟨qb, db, rfl, -, -, -⟩ := hB'.cells
  generalize Lw x.natAbs = lx at *
  generalize Lw y.natAbs = ly at *
  generalize Lw m = lm at *
  generalize Lw n = ln at *
  obtain ⟨HW0, k1, k2, k3⟩ := bx98' w #[.bool b, .slice pa lx ca, .bool false, .slice qa lm da] #[.bool c, .slice pb ly cb, .bool false, .slice qb ln db]
  have HB0 := Lib.hid HW0
  clear hA hB hA' hB' hA2 hB2 lA2 lB2 hb hc hm hn hl hlm hl' hln hz2 hz2p lz2 sz2 hz3 hz4 lz3 lz4 hb3 hb4 hcv
  go_enter Tryz.func111, Tryz.ntmps111
  go_upto_region 1 with fail
  generalize ((w.alloc (.cells #[.bool b, .slice pa lx ca, .bool false, .slice qa lm da] 98)).alloc (.cells #[.bool c, .slice pb ly cb, .bool false, .slice qb ln db] 98)) = W at *
  have k0_0 := k1.cell 0 rfl
  have k0_1 := k1.cell 1 rfl
  have k0_2 := k1.cell 2 rfl
  have k0_3 := k1.cell 3 rfl
  have k0_4 := k2.cell 0 rfl
  have k0_5 := k2.cell 1 rfl
  have k0_6 := k2.cell 2 rfl
  have k0_7 := k2.cell 3 rfl
  clear k1 k2 k3 HW0
  have q0 : Below w.heap.size w W.drew := HB0.out.drew
  have d0_0 : W.drew.cell? ⟨w.heap.size, 0, none⟩ = some (.bool b) := k0_0
  have d0_1 : W.drew.cell? ⟨w.heap.size, 1, none⟩ = some (.slice pa lx ca) := k0_1
  have d0_2 : W.drew.cell? ⟨w.heap.size, 2, none⟩ = some (.bool false) := k0_2
  have d0_3 : W.drew.cell? ⟨w.heap.size, 3, none⟩ = some (.slice qa lm da) := k0_3
  have d0_4 : W.drew.cell? ⟨w.heap.size + 1, 0, none⟩ = some (.bool c) := k0_4
  have d0_5 : W.drew.cell? ⟨w.heap.size + 1, 1, none⟩ = some (.slice pb ly cb) := k0_5
  have d0_6 : W.drew.cell? ⟨w.heap.size + 1, 2, none⟩ = some (.bool false) := k0_6
  have d0_7 : W.drew.cell? ⟨w.heap.size + 1, 3, none⟩ = some (.slice qb ln db) := k0_7
  go_region_held3 (fun w' => w'.cell? ⟨w.heap.size, 0, none⟩ = some (.bool b) ∧ w'.cell? ⟨w.heap.size, 1, none⟩ = some (.slice pa lx ca) ∧ w'.cell? ⟨w.heap.size, 2, none⟩ = some (.bool false) ∧ w'.cell? ⟨w.heap.size, 3, none⟩ = some (.slice qa lm da) ∧ w'.cell? ⟨w.heap.size + 1, 0, none⟩ = some (.bool c) ∧ w'.cell? ⟨w.heap.size + 1, 1, none⟩ = some (.slice pb ly cb) ∧ w'.cell? ⟨w.heap.size + 1, 2, none⟩ = some (.bool false) ∧ w'.cell? ⟨w.heap.size + 1, 3, none⟩ = some (.slice qb ln db))
    (first
      | (with_reducible exact ⟨d0_0, d0_1, d0_2, d0_3, d0_4, d0_5, d0_6, d0_7⟩)
      | (with_reducible exact ⟨k1_0, k1_1, k1_2, k1_3, k1_4, k1_5, k1_6, k1_7⟩)
      | (with_reducible exact ⟨k2_0, k2_1, k2_2, k2_3, k2_4, k2_5, k2_6, k2_7⟩)
      | (with_reducible exact ⟨k3_0, k3_1, k3_2, k3_3, k3_4, k3_5, k3_6, k3_7⟩)
      | fail "nokeep")
    (first
      | (go_at_call 95; (with_reducible refine (C3.out _ q0).mono ?_); rintro e w1 ⟨v1, rfl, h1, hb1⟩; obtain ⟨p1, c1, rfl, -, -, -⟩ := h1.cells; have q1 := bThen q0 hb1; have k1_0 := below_cell hb1 k0_0; have k1_1 := below_cell hb1 k0_1; have k1_2 := below_cell hb1 k0_2; have k1_3 := below_cell hb1 k0_3; have k1_4 := below_cell hb1 k0_4; have k1_5 := below_cell hb1 k0_5; have k1_6 := below_cell hb1 k0_6; have k1_7 := below_cell hb1 k0_7)
      | (go_at_call 95; (with_reducible refine (C4.out _ q1).mono ?_); rintro e w2 ⟨v2, rfl, h2, hb2⟩; obtain ⟨p2, c2, rfl, -, -, -⟩ := h2.cells; have q2 := bThen q1 hb2; have k2_0 := below_cell hb2 k1_0; have k2_1 := below_cell hb2 k1_1; have k2_2 := below_cell hb2 k1_2; have k2_3 := below_cell hb2 k1_3; have k2_4 := below_cell hb2 k1_4; have k2_5 := below_cell hb2 k1_5; have k2_6 := below_cell hb2 k1_6; have k2_7 := below_cell hb2 k1_7)
      | (go_at_call 101; (with_reducible refine (C6.out _ _ _ (h1.below hb2) h2).mono ?_); rintro e w3 ⟨rfl, hb3⟩; have q3 := bThen q2 hb3; have k3_0 := below_cell hb3 k2_0; have k3_1 := below_cell hb3 k2_1; have k3_2 := below_cell hb3 k2_2; have k3_3 := below_cell hb3 k2_3; have k3_4 := below_cell hb3 k2_4; have k3_5 := below_cell hb3 k2_5; have k3_6 := below_cell hb3 k2_6; have k3_7 := below_cell hb3 k2_7)
      | fail "noarm")
  go_wp2_with fail
  go_ret
  exact ⟨rfl, q3⟩
end Go.Proofs.YtifhiefdhhmdeaaGreatDoor
