/- Mod, the reference's. -/
import Derived.Test.YtifhiefdhhmdeaaGreatDoorXF
import Derived.Deep.RegionHeld3
import Derived.Deep.RegionLaw
namespace Go.Proofs.YtifhiefdhhmdeaaGreatDoor
open Go Go.RowKit

theorem dgAl {X : World} {v : Value} {n : Nat} {o : Obj} (h : Dg X v n) : Dg (X.alloc o) v n := h.below (bSelf X o)
theorem dgDrew {X : World} {v : Value} {n : Nat} (h : Dg X v n) : Dg X.drew v n := h.below ((Below.refl _ _).drew)
theorem dgDown {X Y : World} {v : Value} {n : Nat} (h : Dg X v n) (hb : Below X.heap.size X Y) : Dg Y v n := h.below hb
theorem dgPair {X : World} {v : Value} {n g' : Nat} {o0 o1 a b : Value} (hk : Blk X g' 73 [o0, o1]) (h : Dg X v n) : Dg ((X.setCell ⟨g', 0, none⟩ a).setCell ⟨g', 1, none⟩ b) v n := (h.setCell (h.ne73' hk)).setCell (h.ne73' hk)
theorem far2 {w : World} {g j g' : Nat} {x a b : Value} (h : w.cell? ⟨g, j, none⟩ = some x) (hne : g ≠ g') : ((w.setCell ⟨g', 0, none⟩ a).setCell ⟨g', 1, none⟩ b).cell? ⟨g, j, none⟩ = some x := cell_far (cell_far h hne) hne
def NmB (b : Bool) (z : Int) (w : World) (e : Ending) (w' : World) : Prop := ∃ v, e = .returned (.agg #[.bool b, v]) ∧ Dg w' v z.natAbs ∧ Below w.heap.size w w'
theorem NmR.toB {b : Bool} {z : Int} {w w' : World} {e : Ending} (hb : b = decide (z < 0)) (h : NmR z w e w') : NmB b z w e w' := by subst hb; exact h
def NmB2 (b c : Bool) (q r : Int) (w : World) (e : Ending) (w' : World) : Prop := ∃ v u, e = .returned (.tuple #[.agg #[.bool b, v], .agg #[.bool c, u]]) ∧ Dg w' v q.natAbs ∧ Dg w' u r.natAbs ∧ Below w.heap.size w w'
theorem NmR2.toB {b c : Bool} {q r : Int} {w w' : World} {e : Ending} (hb : b = decide (q < 0)) (hc : c = decide (r < 0)) (h : NmR2 q r w e w') : NmB2 b c q r w e w' := by subst hb; subst hc; exact h
theorem fr_sign {x y : Int} (h : 0 < y) : false = decide (fr x y < 0) := by obtain ⟨-, g, -⟩ := fqr x y (by omega); have := (g h).1; simp; omega
theorem fr_ld {x y : Int} {k : Nat} (hy : 0 < y) (hl : Ld y.natAbs ≤ k) : Ld (fr x y).natAbs ≤ k := Nat.le_trans (Ld_mono (by obtain ⟨-, g, -⟩ := fqr x y (by omega); have := g hy; omega)) hl
theorem ld_mulZ {x y : Int} {m n k : Nat} (hx : Ld x.natAbs ≤ m) (hy : Ld y.natAbs ≤ n) (h : m + n ≤ k) : Ld (x * y).natAbs ≤ k := by
  have h1 : Dl (x * y) (m + n) := Dl_mul hx hy
  exact Nat.le_trans h1 h
/-- what lies in memory while the reference's Mod runs -/
structure Pn (w W : World) (vy : Value) (y : Int) (g8 g10 g12 : Nat) (v10 : Value) (z10 : Int) (v12 : Value) (z12 : Int) : Prop where
  k8 : Blk W g8 73 [.bool false, vy]
  k10 : Blk W g10 73 [.bool false, v10]
  k12 : Blk W g12 73 [.bool false, v12]
  ny : Dg W vy y.natAbs
  n10 : Dg W v10 z10.natAbs
  n12 : Dg W v12 z12.natAbs
  ne1 : g8 ≠ g10
  ne2 : g8 ≠ g12
  ne3 : g10 ≠ g12
  l10 : w.heap.size ≤ g10
  l12 : w.heap.size ≤ g12
  s10 : false = decide (z10 < 0)
  s12 : false = decide (z12 < 0)
  bel : Below w.heap.size w W
theorem Pn.next {w W W' : World} {vy v10 v12 : Value} {y z10 z12 : Int} {g8 g10 g12 : Nat} (h : Pn w W vy y g8 g10 g12 v10 z10 v12 z12) (hb : Below W.heap.size W W') : Pn w W' vy y g8 g10 g12 v10 z10 v12 z12 :=
  ⟨h.k8.below hb h.k8.lt, h.k10.below hb h.k10.lt, h.k12.below hb h.k12.lt, h.ny.below hb, h.n10.below hb, h.n12.below hb, h.ne1, h.ne2, h.ne3, h.l10, h.l12, h.s10, h.s12, bThen h.bel hb⟩
theorem Pn.drew {w W : World} {vy v10 v12 : Value} {y z10 z12 : Int} {g8 g10 g12 : Nat} (h : Pn w W vy y g8 g10 g12 v10 z10 v12 z12) : Pn w W.drew vy y g8 g10 g12 v10 z10 v12 z12 := h.next ((Below.refl _ _).drew)
theorem Pn.put12 {w W : World} {vy v10 v12 : Value} {y z10 z12 : Int} {g8 g10 g12 : Nat} (h : Pn w W vy y g8 g10 g12 v10 z10 v12 z12) (u : Value) (z : Int) (hs : false = decide (z < 0)) (hu : Dg W u z.natAbs) : Pn w ((W.setCell ⟨g12, 0, none⟩ (.bool false)).setCell ⟨g12, 1, none⟩ u) vy y g8 g10 g12 v10 z10 u z :=
  ⟨blkOther h.k8 h.ne2, blkOther h.k10 h.ne3, blkPair h.k12, dgPair h.k12 h.ny, dgPair h.k12 h.n10, dgPair h.k12 hu, h.ne1, h.ne2, h.ne3, h.l10, h.l12, h.s10, hs, belPair h.bel h.l12⟩
theorem Pn.put10 {w W : World} {vy v10 v12 : Value} {y z10 z12 : Int} {g8 g10 g12 : Nat} (h : Pn w W vy y g8 g10 g12 v10 z10 v12 z12) (u : Value) (z : Int) (hs : false = decide (z < 0)) (hu : Dg W u z.natAbs) : Pn w ((W.setCell ⟨g10, 0, none⟩ (.bool false)).setCell ⟨g10, 1, none⟩ u) vy y g8 g10 g12 u z v12 z12 :=
  ⟨blkOther h.k8 h.ne1, blkPair h.k10, blkOther h.k12 (Ne.symm h.ne3), dgPair h.k10 h.ny, dgPair h.k10 hu, dgPair h.k10 h.n12, h.ne1, h.ne2, h.ne3, h.l10, h.l12, hs, h.s12, belPair h.bel h.l10⟩
set_option maxRecDepth 100000 in
set_option maxHeartbeats 20000000 in
theorem t21g (s t : ByteArray) (x y : Int) (k0 : Nat) (w : World) (hp : 0 < t.size) (h45 : ((t[0].toNat : Int) == 45) = false) (h48 : (t.toList == [48]) = false) (hyp : 0 < y) (hk0 : k0 ≤ 1000000) (HX : Hid (IsNum s.data.toList x)) (HY : Hid (IsNum t.data.toList y))
    (HC : Hid (Calls Tryz.prog 59 #[.slice (some ⟨w.heap.size, 0, none⟩) 2 2] (w.alloc (.cells #[.string s, .string t] 9)) fun e w' => e = .returned (.bool true) ∧ w.alloc (.cells #[.string s, .string t] 9) = w'))
    (HM : Hid (modS (k0 : Int) x y = toldS (pm y k0 (fr 1 y) (fr x y)) ∧ modE (k0 : Int) x y = toldE (pm y k0 (fr 1 y) (fr x y)))) (HB0 : Hid (Below w.heap.size w (w.alloc (.cells #[.string s, .string t] 9)))) :
    Calls Tryz.prog 21 #[.string s, .int .i64 k0, .string t] w (ModQ s.data.toList t.data.toList k0 w) := by
  have hly := ldf HY.out.2
  have hly4 : Ld y.natAbs ≤ 400 := HY.out.2
  have hlx4 : Ld x.natAbs ≤ 400 := HX.out.2
  have HYP := Lib.hid hyp
  have h1' : (0 : Int) ≤ k0 := by omega
  have h2' : (k0 : Int) ≤ 1000000 := by omega
  -- dividing by y
  have G67 : Hid (∀ (W : World) (z : Int) (c : Bool) (v vy : Value), c = decide (z < 0) → Ld z.natAbs ≤ 90000 → Dg W v z.natAbs → Dg W vy y.natAbs → Calls Tryz.prog 67 #[.agg #[.bool c, v], .agg #[.bool false, vy]] W (NmB2 (decide (fq z y < 0)) false (fq z y) (fr z y) W)) := fun W z c v vy h0 hL h1 h2 =>
    (t67 z y c false v vy W h0 (by simp; omega) (by omega) h1 h2 hL (by omega)).mono fun _ _ q => q.toB rfl (fr_sign hyp)
  have GL : Hid (∀ z : Int, Ld (fr z y).natAbs ≤ 400) := fun z => fr_ld hyp hly4
  have HLX := Lib.hid hlx4
  clear hyp hly hly4 hlx4
  go_enter Tryz.func21, Tryz.ntmps21
  go_wp2_with fail
  refine HC.out.mono ?_
  rintro e wa ⟨rfl, rfl⟩
  go_wp2_with fail
  refine (t60 t y _ HY.out).mono ?_
  rintro e wb ⟨vy, rfl, hvy, hby⟩
  obtain ⟨py, cy, rfl, -, -, -⟩ := hvy.cells
  rw [show decide (y < 0) = false by have := HYP.out; simp; omega]
  have hBb := bThen HB0.out hby
  have HK80x := Lib.hid (Blk.new wb #[.bool false, .slice py (Ld y.natAbs) cy] 73)
  have HNYx := Lib.hid (hvy.below (bSelf wb (.cells #[.bool false, .slice py (Ld y.natAbs) cy] 73)))
  have HBWx := Lib.hid (bAl hBb (.cells #[.bool false, .slice py (Ld y.natAbs) cy] 73))
  have hg8l : w.heap.size ≤ wb.heap.size := hBb.size
  clear hvy hby hBb HB0 HC
  generalize Ld y.natAbs = ly at *
  go_upto_region 4 with fail
  have hg8 : wb.heap.size < (wb.alloc (.cells #[.bool false, .slice py ly cy] 73)).heap.size := by simp
  generalize wb.alloc (.cells #[.bool false, .slice py ly cy] 73) = W at *
  generalize wb.heap.size = g8 at *
  obtain ⟨bx, hbx⟩ : ∃ b : Bool, b = decide (x < 0) := ⟨_, rfl⟩
  have HBXE := Lib.hid hbx
  obtain ⟨r2, hr2⟩ : ∃ r : Int, r = fr x y := ⟨_, rfl⟩
  obtain ⟨bq, hbq⟩ : ∃ b : Bool, b = decide (fq x y < 0) := ⟨_, rfl⟩
  have HK80 : Hid (Blk W g8 73 [.bool false, .slice py ly cy]) := HK80x.out
  have HK8 : Hid (Blk W.drew g8 73 [.bool false, .slice py ly cy]) := HK80x.out
  have HNY0 : Hid (Dg W (.slice py ly cy) y.natAbs) := HNYx.out
  have HNY : Hid (Dg W.drew (.slice py ly cy) y.natAbs) := dgDrew HNYx.out
  have HBW0 : Hid (Below w.heap.size w W) := HBWx.out
  have HBW : Hid (Below w.heap.size w W.drew) := HBWx.out.drew
  have Q0 : Hid (Below W.drew.heap.size W.drew W.drew) := Below.refl _ _
  have Q00 : Hid (Below W.drew.heap.size W.drew W) := ⟨rfl, rfl, rfl, Nat.le_refl _, fun _ _ => rfl⟩
  have E67 : Hid (∀ (W' : World) (v : Value), Below W.drew.heap.size W.drew W' → Dg W' v x.natAbs → Calls Tryz.prog 67 #[.agg #[.bool bx, v], .agg #[.bool false, .slice py ly cy]] W' (NmB2 bq false (fq x y) r2 W')) := fun W' v h k => by
    have := G67.out W' x bx v _ hbx (Nat.le_trans HLX.out (by omega)) k (HNY.out.below h)
    rw [← hbq, ← hr2] at this
    exact this
  have d0 : W.drew.cell? ⟨g8, 0, none⟩ = some (.bool false) := HK8.out.cell 0 rfl
  have d1 : W.drew.cell? ⟨g8, 1, none⟩ = some (.slice py ly cy) := HK8.out.cell 1 rfl
  have k0' : W.cell? ⟨g8, 0, none⟩ = some (.bool false) := HK80.out.cell 0 rfl
  have k1' : W.cell? ⟨g8, 1, none⟩ = some (.slice py ly cy) := HK80.out.cell 1 rfl
  rw [← hr2] at HM
  have hr2L : Hid (Ld r2.natAbs ≤ 400) := by show _ ≤ _; rw [hr2]; exact GL.out x
  have hr2S : Hid (false = decide (r2 < 0)) := by show _ = _; rw [hr2]; exact fr_sign HYP.out
  clear hbx hr2 hbq HK80x HNYx HBWx
  go_cut [10] (fun u10 wx => ∃ (g10 : Nat) (v10 : Value), u10 = .pointer (some ⟨g10, 0, none⟩) ∧ (Blk wx g8 73 [.bool false, .slice py ly cy] ∧ Blk wx g10 73 [.bool false, v10] ∧ Dg wx (.slice py ly cy) y.natAbs ∧ Dg wx v10 r2.natAbs ∧ g8 ≠ g10 ∧ w.heap.size ≤ g10 ∧ Below w.heap.size w wx))
  case first =>
    rename_i KK hKK
    have HKK := Lib.hid hKK
    clear hKK
    go_region_held3 (fun w' => w'.cell? ⟨g8, 0, none⟩ = some (.bool false) ∧ w'.cell? ⟨g8, 1, none⟩ = some (.slice py ly cy))
      (first
      | (with_reducible exact ⟨d0, d1⟩)
      | exact ⟨Blk.cell (cs := [.bool false, .slice py ly cy]) (e := 73) (by (repeat (first | (with_reducible exact HK8.out) | (with_reducible exact HK80.out) | ((with_reducible refine newAt _ _ _ _ _ ?hg ?hl); (case hg => (simp; done)); (case hl => rfl)) | (with_reducible refine blkDrew ?_) | (with_reducible refine Blk.alloc ?_ _) | (with_reducible refine blkPair (o0 := .bool false) (o1 := .slice none 0 0) ?_) | ((with_reducible refine blkOther ?_ ?hne); (case hne => omega)) | ((with_reducible refine blkDown (X := ?_) ?_ ?hdn); (case hdn => (first | (with_reducible exact hb2) | (with_reducible exact hb1))))))) 0 rfl, Blk.cell (cs := [.bool false, .slice py ly cy]) (e := 73) (by (repeat (first | (with_reducible exact HK8.out) | (with_reducible exact HK80.out) | ((with_reducible refine newAt _ _ _ _ _ ?hg ?hl); (case hg => (simp; done)); (case hl => rfl)) | (with_reducible refine blkDrew ?_) | (with_reducible refine Blk.alloc ?_ _) | (with_reducible refine blkPair (o0 := .bool false) (o1 := .slice none 0 0) ?_) | ((with_reducible refine blkOther ?_ ?hne); (case hne => omega)) | ((with_reducible refine blkDown (X := ?_) ?_ ?hdn); (case hdn => (first | (with_reducible exact hb2) | (with_reducible exact hb1))))))) 1 rfl⟩
      | fail "nokeep")
      (first
      | (go_at_call 60; (with_reducible refine (t60 s x _ HX.out).mono ?_); rintro e w1 ⟨v1, rfl, hv1, hb1⟩; obtain ⟨p1, c1, rfl, -, -, -⟩ := hv1.cells; rw [← HBXE.out]; have q1 : Below W.drew.heap.size W.drew w1 := (by (repeat (first | (with_reducible exact Q0.out) | (with_reducible exact Q00.out) | (with_reducible refine belDrew ?_) | (with_reducible exact q1) | (with_reducible refine belAl ?_) | ((with_reducible refine belDown (X := ?_) ?_ ?hdn); (case hdn => (first | (with_reducible exact hb2) | (with_reducible exact hb1))))))); have z1 := hb1.size; (try (simp at z1)))
      | (go_at_call 67; (with_reducible refine (E67.out _ _ q1 hv1).mono ?_); rintro e w2 ⟨v2, u2, rfl, hv2, hu2, hb2⟩; obtain ⟨p2, c2, rfl, -, -, -⟩ := hv2.cells; obtain ⟨p3, c3, rfl, -, -, -⟩ := hu2.cells; have z2 := hb2.size; (try (simp at z2)); (try ((refine have_then (T := Blk w2 (W.heap.size) 73 [.bool false, .slice none 0 0]) ?kk ?_); (case kk => ((repeat (first | (with_reducible exact HK8.out) | (with_reducible exact HK80.out) | ((with_reducible refine newAt _ _ _ _ _ ?hg ?hl); (case hg => (simp; done)); (case hl => rfl)) | (with_reducible refine blkDrew ?_) | (with_reducible refine Blk.alloc ?_ _) | (with_reducible refine blkPair (o0 := .bool false) (o1 := .slice none 0 0) ?_) | ((with_reducible refine blkOther ?_ ?hne); (case hne => omega)) | ((with_reducible refine blkDown (X := ?_) ?_ ?hdn); (case hdn => (first | (with_reducible exact hb2) | (with_reducible exact hb1)))))); done)); (intro k0); (have HK0x := Lib.hid k0); (have a0 := fun o : Obj => k0.alloc o); (have r00 := k0.cell 0 rfl); (have r01 := k0.cell 1 rfl); (have f00 := k0.free 0); (have f01 := k0.free 1); (have s00 := fun o => (a0 o).cell 0 rfl); (have s01 := fun o => (a0 o).cell 1 rfl); (have t00 := fun o => (a0 o).free 0); (have t01 := fun o => (a0 o).free 1); clear a0 k0)); (try ((refine have_then (T := Blk w2 (W.heap.size + 1) 73 [.bool false, .slice none 0 0]) ?kk ?_); (case kk => ((repeat (first | (with_reducible exact HK8.out) | (with_reducible exact HK80.out) | ((with_reducible refine newAt _ _ _ _ _ ?hg ?hl); (case hg => (simp; done)); (case hl => rfl)) | (with_reducible refine blkDrew ?_) | (with_reducible refine Blk.alloc ?_ _) | (with_reducible refine blkPair (o0 := .bool false) (o1 := .slice none 0 0) ?_) | ((with_reducible refine blkOther ?_ ?hne); (case hne => omega)) | ((with_reducible refine blkDown (X := ?_) ?_ ?hdn); (case hdn => (first | (with_reducible exact hb2) | (with_reducible exact hb1)))))); done)); (intro k1); (have HK1x := Lib.hid k1); (have a1 := fun o : Obj => k1.alloc o); (have r10 := k1.cell 0 rfl); (have r11 := k1.cell 1 rfl); (have f10 := k1.free 0); (have f11 := k1.free 1); (have s10 := fun o => (a1 o).cell 0 rfl); (have s11 := fun o => (a1 o).cell 1 rfl); (have t10 := fun o => (a1 o).free 0); (have t11 := fun o => (a1 o).free 1); clear a1 k1)); (try ((refine have_then (T := Blk w2 (w1.heap.size) 73 [.bool false, .slice none 0 0]) ?kk ?_); (case kk => ((repeat (first | (with_reducible exact HK8.out) | (with_reducible exact HK80.out) | ((with_reducible refine newAt _ _ _ _ _ ?hg ?hl); (case hg => (simp; done)); (case hl => rfl)) | (with_reducible refine blkDrew ?_) | (with_reducible refine Blk.alloc ?_ _) | (with_reducible refine blkPair (o0 := .bool false) (o1 := .slice none 0 0) ?_) | ((with_reducible refine blkOther ?_ ?hne); (case hne => omega)) | ((with_reducible refine blkDown (X := ?_) ?_ ?hdn); (case hdn => (first | (with_reducible exact hb2) | (with_reducible exact hb1)))))); done)); (intro k2); (have HK2x := Lib.hid k2); (have a2 := fun o : Obj => k2.alloc o); (have r20 := k2.cell 0 rfl); (have r21 := k2.cell 1 rfl); (have f20 := k2.free 0); (have f21 := k2.free 1); (have s20 := fun o => (a2 o).cell 0 rfl); (have s21 := fun o => (a2 o).cell 1 rfl); (have t20 := fun o => (a2 o).free 0); (have t21 := fun o => (a2 o).free 1); clear a2 k2)); (try ((refine have_then (T := Blk w2 (w1.heap.size + 1) 73 [.bool false, .slice none 0 0]) ?kk ?_); (case kk => ((repeat (first | (with_reducible exact HK8.out) | (with_reducible exact HK80.out) | ((with_reducible refine newAt _ _ _ _ _ ?hg ?hl); (case hg => (simp; done)); (case hl => rfl)) | (with_reducible refine blkDrew ?_) | (with_reducible refine Blk.alloc ?_ _) | (with_reducible refine blkPair (o0 := .bool false) (o1 := .slice none 0 0) ?_) | ((with_reducible refine blkOther ?_ ?hne); (case hne => omega)) | ((with_reducible refine blkDown (X := ?_) ?_ ?hdn); (case hdn => (first | (with_reducible exact hb2) | (with_reducible exact hb1)))))); done)); (intro k3); (have HK3x := Lib.hid k3); (have a3 := fun o : Obj => k3.alloc o); (have r30 := k3.cell 0 rfl); (have r31 := k3.cell 1 rfl); (have f30 := k3.free 0); (have f31 := k3.free 1); (have s30 := fun o => (a3 o).cell 0 rfl); (have s31 := fun o => (a3 o).cell 1 rfl); (have t30 := fun o => (a3 o).free 0); (have t31 := fun o => (a3 o).free 1); clear a3 k3)); (try ((have kk0 := HK0x.out); (have kk1 := HK1x.out); (refine have_then (T := W.heap.size + 1 ≠ W.heap.size) ?kk ?_); (case kk => omega); (intro hne); (have a01 := fun (u v : Value) => blkOther (a := u) (b := v) kk1 hne); (have u010 := fun u v => (a01 u v).cell 0 rfl); (have u011 := fun u v => (a01 u v).cell 1 rfl); (have v010 := fun u v => (a01 u v).free 0); (have v011 := fun u v => (a01 u v).free 1); clear a01 hne kk0 kk1)); (try ((have kk0 := HK0x.out); (have kk2 := HK2x.out); (refine have_then (T := w1.heap.size ≠ W.heap.size) ?kk ?_); (case kk => omega); (intro hne); (have a02 := fun (u v : Value) => blkOther (a := u) (b := v) kk2 hne); (have u020 := fun u v => (a02 u v).cell 0 rfl); (have u021 := fun u v => (a02 u v).cell 1 rfl); (have v020 := fun u v => (a02 u v).free 0); (have v021 := fun u v => (a02 u v).free 1); clear a02 hne kk0 kk2)); (try ((have kk0 := HK0x.out); (have kk3 := HK3x.out); (refine have_then (T := w1.heap.size + 1 ≠ W.heap.size) ?kk ?_); (case kk => omega); (intro hne); (have a03 := fun (u v : Value) => blkOther (a := u) (b := v) kk3 hne); (have u030 := fun u v => (a03 u v).cell 0 rfl); (have u031 := fun u v => (a03 u v).cell 1 rfl); (have v030 := fun u v => (a03 u v).free 0); (have v031 := fun u v => (a03 u v).free 1); clear a03 hne kk0 kk3)); (try ((have kk1 := HK1x.out); (have kk0 := HK0x.out); (refine have_then (T := W.heap.size ≠ W.heap.size + 1) ?kk ?_); (case kk => omega); (intro hne); (have a10 := fun (u v : Value) => blkOther (a := u) (b := v) kk0 hne); (have u100 := fun u v => (a10 u v).cell 0 rfl); (have u101 := fun u v => (a10 u v).cell 1 rfl); (have v100 := fun u v => (a10 u v).free 0); (have v101 := fun u v => (a10 u v).free 1); clear a10 hne kk1 kk0)); (try ((have kk1 := HK1x.out); (have kk2 := HK2x.out); (refine have_then (T := w1.heap.size ≠ W.heap.size + 1) ?kk ?_); (case kk => omega); (intro hne); (have a12 := fun (u v : Value) => blkOther (a := u) (b := v) kk2 hne); (have u120 := fun u v => (a12 u v).cell 0 rfl); (have u121 := fun u v => (a12 u v).cell 1 rfl); (have v120 := fun u v => (a12 u v).free 0); (have v121 := fun u v => (a12 u v).free 1); clear a12 hne kk1 kk2)); (try ((have kk1 := HK1x.out); (have kk3 := HK3x.out); (refine have_then (T := w1.heap.size + 1 ≠ W.heap.size + 1) ?kk ?_); (case kk => omega); (intro hne); (have a13 := fun (u v : Value) => blkOther (a := u) (b := v) kk3 hne); (have u130 := fun u v => (a13 u v).cell 0 rfl); (have u131 := fun u v => (a13 u v).cell 1 rfl); (have v130 := fun u v => (a13 u v).free 0); (have v131 := fun u v => (a13 u v).free 1); clear a13 hne kk1 kk3)); (try ((have kk2 := HK2x.out); (have kk0 := HK0x.out); (refine have_then (T := W.heap.size ≠ w1.heap.size) ?kk ?_); (case kk => omega); (intro hne); (have a20 := fun (u v : Value) => blkOther (a := u) (b := v) kk0 hne); (have u200 := fun u v => (a20 u v).cell 0 rfl); (have u201 := fun u v => (a20 u v).cell 1 rfl); (have v200 := fun u v => (a20 u v).free 0); (have v201 := fun u v => (a20 u v).free 1); clear a20 hne kk2 kk0)); (try ((have kk2 := HK2x.out); (have kk1 := HK1x.out); (refine have_then (T := W.heap.size + 1 ≠ w1.heap.size) ?kk ?_); (case kk => omega); (intro hne); (have a21 := fun (u v : Value) => blkOther (a := u) (b := v) kk1 hne); (have u210 := fun u v => (a21 u v).cell 0 rfl); (have u211 := fun u v => (a21 u v).cell 1 rfl); (have v210 := fun u v => (a21 u v).free 0); (have v211 := fun u v => (a21 u v).free 1); clear a21 hne kk2 kk1)); (try ((have kk2 := HK2x.out); (have kk3 := HK3x.out); (refine have_then (T := w1.heap.size + 1 ≠ w1.heap.size) ?kk ?_); (case kk => omega); (intro hne); (have a23 := fun (u v : Value) => blkOther (a := u) (b := v) kk3 hne); (have u230 := fun u v => (a23 u v).cell 0 rfl); (have u231 := fun u v => (a23 u v).cell 1 rfl); (have v230 := fun u v => (a23 u v).free 0); (have v231 := fun u v => (a23 u v).free 1); clear a23 hne kk2 kk3)); (try ((have kk3 := HK3x.out); (have kk0 := HK0x.out); (refine have_then (T := W.heap.size ≠ w1.heap.size + 1) ?kk ?_); (case kk => omega); (intro hne); (have a30 := fun (u v : Value) => blkOther (a := u) (b := v) kk0 hne); (have u300 := fun u v => (a30 u v).cell 0 rfl); (have u301 := fun u v => (a30 u v).cell 1 rfl); (have v300 := fun u v => (a30 u v).free 0); (have v301 := fun u v => (a30 u v).free 1); clear a30 hne kk3 kk0)); (try ((have kk3 := HK3x.out); (have kk1 := HK1x.out); (refine have_then (T := W.heap.size + 1 ≠ w1.heap.size + 1) ?kk ?_); (case kk => omega); (intro hne); (have a31 := fun (u v : Value) => blkOther (a := u) (b := v) kk1 hne); (have u310 := fun u v => (a31 u v).cell 0 rfl); (have u311 := fun u v => (a31 u v).cell 1 rfl); (have v310 := fun u v => (a31 u v).free 0); (have v311 := fun u v => (a31 u v).free 1); clear a31 hne kk3 kk1)); (try ((have kk3 := HK3x.out); (have kk2 := HK2x.out); (refine have_then (T := w1.heap.size ≠ w1.heap.size + 1) ?kk ?_); (case kk => omega); (intro hne); (have a32 := fun (u v : Value) => blkOther (a := u) (b := v) kk2 hne); (have u320 := fun u v => (a32 u v).cell 0 rfl); (have u321 := fun u v => (a32 u v).cell 1 rfl); (have v320 := fun u v => (a32 u v).free 0); (have v321 := fun u v => (a32 u v).free 1); clear a32 hne kk3 kk2)))
      | (go_at_call 67; (with_reducible refine (E67.out _ _ (bAl q1 _) (dgAl hv1)).mono ?_); rintro e w2 ⟨v2, u2, rfl, hv2, hu2, hb2⟩; obtain ⟨p2, c2, rfl, -, -, -⟩ := hv2.cells; obtain ⟨p3, c3, rfl, -, -, -⟩ := hu2.cells; have z2 := hb2.size; (try (simp at z2)); (try ((refine have_then (T := Blk w2 (W.heap.size) 73 [.bool false, .slice none 0 0]) ?kk ?_); (case kk => ((repeat (first | (with_reducible exact HK8.out) | (with_reducible exact HK80.out) | ((with_reducible refine newAt _ _ _ _ _ ?hg ?hl); (case hg => (simp; done)); (case hl => rfl)) | (with_reducible refine blkDrew ?_) | (with_reducible refine Blk.alloc ?_ _) | (with_reducible refine blkPair (o0 := .bool false) (o1 := .slice none 0 0) ?_) | ((with_reducible refine blkOther ?_ ?hne); (case hne => omega)) | ((with_reducible refine blkDown (X := ?_) ?_ ?hdn); (case hdn => (first | (with_reducible exact hb2) | (with_reducible exact hb1)))))); done)); (intro k0); (have HK0x := Lib.hid k0); (have a0 := fun o : Obj => k0.alloc o); (have r00 := k0.cell 0 rfl); (have r01 := k0.cell 1 rfl); (have f00 := k0.free 0); (have f01 := k0.free 1); (have s00 := fun o => (a0 o).cell 0 rfl); (have s01 := fun o => (a0 o).cell 1 rfl); (have t00 := fun o => (a0 o).free 0); (have t01 := fun o => (a0 o).free 1); clear a0 k0)); (try ((refine have_then (T := Blk w2 (W.heap.size + 1) 73 [.bool false, .slice none 0 0]) ?kk ?_); (case kk => ((repeat (first | (with_reducible exact HK8.out) | (with_reducible exact HK80.out) | ((with_reducible refine newAt _ _ _ _ _ ?hg ?hl); (case hg => (simp; done)); (case hl => rfl)) | (with_reducible refine blkDrew ?_) | (with_reducible refine Blk.alloc ?_ _) | (with_reducible refine blkPair (o0 := .bool false) (o1 := .slice none 0 0) ?_) | ((with_reducible refine blkOther ?_ ?hne); (case hne => omega)) | ((with_reducible refine blkDown (X := ?_) ?_ ?hdn); (case hdn => (first | (with_reducible exact hb2) | (with_reducible exact hb1)))))); done)); (intro k1); (have HK1x := Lib.hid k1); (have a1 := fun o : Obj => k1.alloc o); (have r10 := k1.cell 0 rfl); (have r11 := k1.cell 1 rfl); (have f10 := k1.free 0); (have f11 := k1.free 1); (have s10 := fun o => (a1 o).cell 0 rfl); (have s11 := fun o => (a1 o).cell 1 rfl); (have t10 := fun o => (a1 o).free 0); (have t11 := fun o => (a1 o).free 1); clear a1 k1)); (try ((refine have_then (T := Blk w2 (w1.heap.size) 73 [.bool false, .slice none 0 0]) ?kk ?_); (case kk => ((repeat (first | (with_reducible exact HK8.out) | (with_reducible exact HK80.out) | ((with_reducible refine newAt _ _ _ _ _ ?hg ?hl); (case hg => (simp; done)); (case hl => rfl)) | (with_reducible refine blkDrew ?_) | (with_reducible refine Blk.alloc ?_ _) | (with_reducible refine blkPair (o0 := .bool false) (o1 := .slice none 0 0) ?_) | ((with_reducible refine blkOther ?_ ?hne); (case hne => omega)) | ((with_reducible refine blkDown (X := ?_) ?_ ?hdn); (case hdn => (first | (with_reducible exact hb2) | (with_reducible exact hb1)))))); done)); (intro k2); (have HK2x := Lib.hid k2); (have a2 := fun o : Obj => k2.alloc o); (have r20 := k2.cell 0 rfl); (have r21 := k2.cell 1 rfl); (have f20 := k2.free 0); (have f21 := k2.free 1); (have s20 := fun o => (a2 o).cell 0 rfl); (have s21 := fun o => (a2 o).cell 1 rfl); (have t20 := fun o => (a2 o).free 0); (have t21 := fun o => (a2 o).free 1); clear a2 k2)); (try ((refine have_then (T := Blk w2 (w1.heap.size + 1) 73 [.bool false, .slice none 0 0]) ?kk ?_); (case kk => ((repeat (first | (with_reducible exact HK8.out) | (with_reducible exact HK80.out) | ((with_reducible refine newAt _ _ _ _ _ ?hg ?hl); (case hg => (simp; done)); (case hl => rfl)) | (with_reducible refine blkDrew ?_) | (with_reducible refine Blk.alloc ?_ _) | (with_reducible refine blkPair (o0 := .bool false) (o1 := .slice none 0 0) ?_) | ((with_reducible refine blkOther ?_ ?hne); (case hne => omega)) | ((with_reducible refine blkDown (X := ?_) ?_ ?hdn); (case hdn => (first | (with_reducible exact hb2) | (with_reducible exact hb1)))))); done)); (intro k3); (have HK3x := Lib.hid k3); (have a3 := fun o : Obj => k3.alloc o); (have r30 := k3.cell 0 rfl); (have r31 := k3.cell 1 rfl); (have f30 := k3.free 0); (have f31 := k3.free 1); (have s30 := fun o => (a3 o).cell 0 rfl); (have s31 := fun o => (a3 o).cell 1 rfl); (have t30 := fun o => (a3 o).free 0); (have t31 := fun o => (a3 o).free 1); clear a3 k3)); (try ((have kk0 := HK0x.out); (have kk1 := HK1x.out); (refine have_then (T := W.heap.size + 1 ≠ W.heap.size) ?kk ?_); (case kk => omega); (intro hne); (have a01 := fun (u v : Value) => blkOther (a := u) (b := v) kk1 hne); (have u010 := fun u v => (a01 u v).cell 0 rfl); (have u011 := fun u v => (a01 u v).cell 1 rfl); (have v010 := fun u v => (a01 u v).free 0); (have v011 := fun u v => (a01 u v).free 1); clear a01 hne kk0 kk1)); (try ((have kk0 := HK0x.out); (have kk2 := HK2x.out); (refine have_then (T := w1.heap.size ≠ W.heap.size) ?kk ?_); (case kk => omega); (intro hne); (have a02 := fun (u v : Value) => blkOther (a := u) (b := v) kk2 hne); (have u020 := fun u v => (a02 u v).cell 0 rfl); (have u021 := fun u v => (a02 u v).cell 1 rfl); (have v020 := fun u v => (a02 u v).free 0); (have v021 := fun u v => (a02 u v).free 1); clear a02 hne kk0 kk2)); (try ((have kk0 := HK0x.out); (have kk3 := HK3x.out); (refine have_then (T := w1.heap.size + 1 ≠ W.heap.size) ?kk ?_); (case kk => omega); (intro hne); (have a03 := fun (u v : Value) => blkOther (a := u) (b := v) kk3 hne); (have u030 := fun u v => (a03 u v).cell 0 rfl); (have u031 := fun u v => (a03 u v).cell 1 rfl); (have v030 := fun u v => (a03 u v).free 0); (have v031 := fun u v => (a03 u v).free 1); clear a03 hne kk0 kk3)); (try ((have kk1 := HK1x.out); (have kk0 := HK0x.out); (refine have_then (T := W.heap.size ≠ W.heap.size + 1) ?kk ?_); (case kk => omega); (intro hne); (have a10 := fun (u v : Value) => blkOther (a := u) (b := v) kk0 hne); (have u100 := fun u v => (a10 u v).cell 0 rfl); (have u101 := fun u v => (a10 u v).cell 1 rfl); (have v100 := fun u v => (a10 u v).free 0); (have v101 := fun u v => (a10 u v).free 1); clear a10 hne kk1 kk0)); (try ((have kk1 := HK1x.out); (have kk2 := HK2x.out); (refine have_then (T := w1.heap.size ≠ W.heap.size + 1) ?kk ?_); (case kk => omega); (intro hne); (have a12 := fun (u v : Value) => blkOther (a := u) (b := v) kk2 hne); (have u120 := fun u v => (a12 u v).cell 0 rfl); (have u121 := fun u v => (a12 u v).cell 1 rfl); (have v120 := fun u v => (a12 u v).free 0); (have v121 := fun u v => (a12 u v).free 1); clear a12 hne kk1 kk2)); (try ((have kk1 := HK1x.out); (have kk3 := HK3x.out); (refine have_then (T := w1.heap.size + 1 ≠ W.heap.size + 1) ?kk ?_); (case kk => omega); (intro hne); (have a13 := fun (u v : Value) => blkOther (a := u) (b := v) kk3 hne); (have u130 := fun u v => (a13 u v).cell 0 rfl); (have u131 := fun u v => (a13 u v).cell 1 rfl); (have v130 := fun u v => (a13 u v).free 0); (have v131 := fun u v => (a13 u v).free 1); clear a13 hne kk1 kk3)); (try ((have kk2 := HK2x.out); (have kk0 := HK0x.out); (refine have_then (T := W.heap.size ≠ w1.heap.size) ?kk ?_); (case kk => omega); (intro hne); (have a20 := fun (u v : Value) => blkOther (a := u) (b := v) kk0 hne); (have u200 := fun u v => (a20 u v).cell 0 rfl); (have u201 := fun u v => (a20 u v).cell 1 rfl); (have v200 := fun u v => (a20 u v).free 0); (have v201 := fun u v => (a20 u v).free 1); clear a20 hne kk2 kk0)); (try ((have kk2 := HK2x.out); (have kk1 := HK1x.out); (refine have_then (T := W.heap.size + 1 ≠ w1.heap.size) ?kk ?_); (case kk => omega); (intro hne); (have a21 := fun (u v : Value) => blkOther (a := u) (b := v) kk1 hne); (have u210 := fun u v => (a21 u v).cell 0 rfl); (have u211 := fun u v => (a21 u v).cell 1 rfl); (have v210 := fun u v => (a21 u v).free 0); (have v211 := fun u v => (a21 u v).free 1); clear a21 hne kk2 kk1)); (try ((have kk2 := HK2x.out); (have kk3 := HK3x.out); (refine have_then (T := w1.heap.size + 1 ≠ w1.heap.size) ?kk ?_); (case kk => omega); (intro hne); (have a23 := fun (u v : Value) => blkOther (a := u) (b := v) kk3 hne); (have u230 := fun u v => (a23 u v).cell 0 rfl); (have u231 := fun u v => (a23 u v).cell 1 rfl); (have v230 := fun u v => (a23 u v).free 0); (have v231 := fun u v => (a23 u v).free 1); clear a23 hne kk2 kk3)); (try ((have kk3 := HK3x.out); (have kk0 := HK0x.out); (refine have_then (T := W.heap.size ≠ w1.heap.size + 1) ?kk ?_); (case kk => omega); (intro hne); (have a30 := fun (u v : Value) => blkOther (a := u) (b := v) kk0 hne); (have u300 := fun u v => (a30 u v).cell 0 rfl); (have u301 := fun u v => (a30 u v).cell 1 rfl); (have v300 := fun u v => (a30 u v).free 0); (have v301 := fun u v => (a30 u v).free 1); clear a30 hne kk3 kk0)); (try ((have kk3 := HK3x.out); (have kk1 := HK1x.out); (refine have_then (T := W.heap.size + 1 ≠ w1.heap.size + 1) ?kk ?_); (case kk => omega); (intro hne); (have a31 := fun (u v : Value) => blkOther (a := u) (b := v) kk1 hne); (have u310 := fun u v => (a31 u v).cell 0 rfl); (have u311 := fun u v => (a31 u v).cell 1 rfl); (have v310 := fun u v => (a31 u v).free 0); (have v311 := fun u v => (a31 u v).free 1); clear a31 hne kk3 kk1)); (try ((have kk3 := HK3x.out); (have kk2 := HK2x.out); (refine have_then (T := w1.heap.size ≠ w1.heap.size + 1) ?kk ?_); (case kk => omega); (intro hne); (have a32 := fun (u v : Value) => blkOther (a := u) (b := v) kk2 hne); (have u320 := fun u v => (a32 u v).cell 0 rfl); (have u321 := fun u v => (a32 u v).cell 1 rfl); (have v320 := fun u v => (a32 u v).free 0); (have v321 := fun u v => (a32 u v).free 1); clear a32 hne kk3 kk2)))
      | (go_at_call 67; (with_reducible refine (E67.out _ _ (bAl (bAl q1 _) _) (dgAl (dgAl hv1))).mono ?_); rintro e w2 ⟨v2, u2, rfl, hv2, hu2, hb2⟩; obtain ⟨p2, c2, rfl, -, -, -⟩ := hv2.cells; obtain ⟨p3, c3, rfl, -, -, -⟩ := hu2.cells; have z2 := hb2.size; (try (simp at z2)); (try ((refine have_then (T := Blk w2 (W.heap.size) 73 [.bool false, .slice none 0 0]) ?kk ?_); (case kk => ((repeat (first | (with_reducible exact HK8.out) | (with_reducible exact HK80.out) | ((with_reducible refine newAt _ _ _ _ _ ?hg ?hl); (case hg => (simp; done)); (case hl => rfl)) | (with_reducible refine blkDrew ?_) | (with_reducible refine Blk.alloc ?_ _) | (with_reducible refine blkPair (o0 := .bool false) (o1 := .slice none 0 0) ?_) | ((with_reducible refine blkOther ?_ ?hne); (case hne => omega)) | ((with_reducible refine blkDown (X := ?_) ?_ ?hdn); (case hdn => (first | (with_reducible exact hb2) | (with_reducible exact hb1)))))); done)); (intro k0); (have HK0x := Lib.hid k0); (have a0 := fun o : Obj => k0.alloc o); (have r00 := k0.cell 0 rfl); (have r01 := k0.cell 1 rfl); (have f00 := k0.free 0); (have f01 := k0.free 1); (have s00 := fun o => (a0 o).cell 0 rfl); (have s01 := fun o => (a0 o).cell 1 rfl); (have t00 := fun o => (a0 o).free 0); (have t01 := fun o => (a0 o).free 1); clear a0 k0)); (try ((refine have_then (T := Blk w2 (W.heap.size + 1) 73 [.bool false, .slice none 0 0]) ?kk ?_); (case kk => ((repeat (first | (with_reducible exact HK8.out) | (with_reducible exact HK80.out) | ((with_reducible refine newAt _ _ _ _ _ ?hg ?hl); (case hg => (simp; done)); (case hl => rfl)) | (with_reducible refine blkDrew ?_) | (with_reducible refine Blk.alloc ?_ _) | (with_reducible refine blkPair (o0 := .bool false) (o1 := .slice none 0 0) ?_) | ((with_reducible refine blkOther ?_ ?hne); (case hne => omega)) | ((with_reducible refine blkDown (X := ?_) ?_ ?hdn); (case hdn => (first | (with_reducible exact hb2) | (with_reducible exact hb1)))))); done)); (intro k1); (have HK1x := Lib.hid k1); (have a1 := fun o : Obj => k1.alloc o); (have r10 := k1.cell 0 rfl); (have r11 := k1.cell 1 rfl); (have f10 := k1.free 0); (have f11 := k1.free 1); (have s10 := fun o => (a1 o).cell 0 rfl); (have s11 := fun o => (a1 o).cell 1 rfl); (have t10 := fun o => (a1 o).free 0); (have t11 := fun o => (a1 o).free 1); clear a1 k1)); (try ((refine have_then (T := Blk w2 (w1.heap.size) 73 [.bool false, .slice none 0 0]) ?kk ?_); (case kk => ((repeat (first | (with_reducible exact HK8.out) | (with_reducible exact HK80.out) | ((with_reducible refine newAt _ _ _ _ _ ?hg ?hl); (case hg => (simp; done)); (case hl => rfl)) | (with_reducible refine blkDrew ?_) | (with_reducible refine Blk.alloc ?_ _) | (with_reducible refine blkPair (o0 := .bool false) (o1 := .slice none 0 0) ?_) | ((with_reducible refine blkOther ?_ ?hne); (case hne => omega)) | ((with_reducible refine blkDown (X := ?_) ?_ ?hdn); (case hdn => (first | (with_reducible exact hb2) | (with_reducible exact hb1)))))); done)); (intro k2); (have HK2x := Lib.hid k2); (have a2 := fun o : Obj => k2.alloc o); (have r20 := k2.cell 0 rfl); (have r21 := k2.cell 1 rfl); (have f20 := k2.free 0); (have f21 := k2.free 1); (have s20 := fun o => (a2 o).cell 0 rfl); (have s21 := fun o => (a2 o).cell 1 rfl); (have t20 := fun o => (a2 o).free 0); (have t21 := fun o => (a2 o).free 1); clear a2 k2)); (try ((refine have_then (T := Blk w2 (w1.heap.size + 1) 73 [.bool false, .slice none 0 0]) ?kk ?_); (case kk => ((repeat (first | (with_reducible exact HK8.out) | (with_reducible exact HK80.out) | ((with_reducible refine newAt _ _ _ _ _ ?hg ?hl); (case hg => (simp; done)); (case hl => rfl)) | (with_reducible refine blkDrew ?_) | (with_reducible refine Blk.alloc ?_ _) | (with_reducible refine blkPair (o0 := .bool false) (o1 := .slice none 0 0) ?_) | ((with_reducible refine blkOther ?_ ?hne); (case hne => omega)) | ((with_reducible refine blkDown (X := ?_) ?_ ?hdn); (case hdn => (first | (with_reducible exact hb2) | (with_reducible exact hb1)))))); done)); (intro k3); (have HK3x := Lib.hid k3); (have a3 := fun o : Obj => k3.alloc o); (have r30 := k3.cell 0 rfl); (have r31 := k3.cell 1 rfl); (have f30 := k3.free 0); (have f31 := k3.free 1); (have s30 := fun o => (a3 o).cell 0 rfl); (have s31 := fun o => (a3 o).cell 1 rfl); (have t30 := fun o => (a3 o).free 0); (have t31 := fun o => (a3 o).free 1); clear a3 k3)); (try ((have kk0 := HK0x.out); (have kk1 := HK1x.out); (refine have_then (T := W.heap.size + 1 ≠ W.heap.size) ?kk ?_); (case kk => omega); (intro hne); (have a01 := fun (u v : Value) => blkOther (a := u) (b := v) kk1 hne); (have u010 := fun u v => (a01 u v).cell 0 rfl); (have u011 := fun u v => (a01 u v).cell 1 rfl); (have v010 := fun u v => (a01 u v).free 0); (have v011 := fun u v => (a01 u v).free 1); clear a01 hne kk0 kk1)); (try ((have kk0 := HK0x.out); (have kk2 := HK2x.out); (refine have_then (T := w1.heap.size ≠ W.heap.size) ?kk ?_); (case kk => omega); (intro hne); (have a02 := fun (u v : Value) => blkOther (a := u) (b := v) kk2 hne); (have u020 := fun u v => (a02 u v).cell 0 rfl); (have u021 := fun u v => (a02 u v).cell 1 rfl); (have v020 := fun u v => (a02 u v).free 0); (have v021 := fun u v => (a02 u v).free 1); clear a02 hne kk0 kk2)); (try ((have kk0 := HK0x.out); (have kk3 := HK3x.out); (refine have_then (T := w1.heap.size + 1 ≠ W.heap.size) ?kk ?_); (case kk => omega); (intro hne); (have a03 := fun (u v : Value) => blkOther (a := u) (b := v) kk3 hne); (have u030 := fun u v => (a03 u v).cell 0 rfl); (have u031 := fun u v => (a03 u v).cell 1 rfl); (have v030 := fun u v => (a03 u v).free 0); (have v031 := fun u v => (a03 u v).free 1); clear a03 hne kk0 kk3)); (try ((have kk1 := HK1x.out); (have kk0 := HK0x.out); (refine have_then (T := W.heap.size ≠ W.heap.size + 1) ?kk ?_); (case kk => omega); (intro hne); (have a10 := fun (u v : Value) => blkOther (a := u) (b := v) kk0 hne); (have u100 := fun u v => (a10 u v).cell 0 rfl); (have u101 := fun u v => (a10 u v).cell 1 rfl); (have v100 := fun u v => (a10 u v).free 0); (have v101 := fun u v => (a10 u v).free 1); clear a10 hne kk1 kk0)); (try ((have kk1 := HK1x.out); (have kk2 := HK2x.out); (refine have_then (T := w1.heap.size ≠ W.heap.size + 1) ?kk ?_); (case kk => omega); (intro hne); (have a12 := fun (u v : Value) => blkOther (a := u) (b := v) kk2 hne); (have u120 := fun u v => (a12 u v).cell 0 rfl); (have u121 := fun u v => (a12 u v).cell 1 rfl); (have v120 := fun u v => (a12 u v).free 0); (have v121 := fun u v => (a12 u v).free 1); clear a12 hne kk1 kk2)); (try ((have kk1 := HK1x.out); (have kk3 := HK3x.out); (refine have_then (T := w1.heap.size + 1 ≠ W.heap.size + 1) ?kk ?_); (case kk => omega); (intro hne); (have a13 := fun (u v : Value) => blkOther (a := u) (b := v) kk3 hne); (have u130 := fun u v => (a13 u v).cell 0 rfl); (have u131 := fun u v => (a13 u v).cell 1 rfl); (have v130 := fun u v => (a13 u v).free 0); (have v131 := fun u v => (a13 u v).free 1); clear a13 hne kk1 kk3)); (try ((have kk2 := HK2x.out); (have kk0 := HK0x.out); (refine have_then (T := W.heap.size ≠ w1.heap.size) ?kk ?_); (case kk => omega); (intro hne); (have a20 := fun (u v : Value) => blkOther (a := u) (b := v) kk0 hne); (have u200 := fun u v => (a20 u v).cell 0 rfl); (have u201 := fun u v => (a20 u v).cell 1 rfl); (have v200 := fun u v => (a20 u v).free 0); (have v201 := fun u v => (a20 u v).free 1); clear a20 hne kk2 kk0)); (try ((have kk2 := HK2x.out); (have kk1 := HK1x.out); (refine have_then (T := W.heap.size + 1 ≠ w1.heap.size) ?kk ?_); (case kk => omega); (intro hne); (have a21 := fun (u v : Value) => blkOther (a := u) (b := v) kk1 hne); (have u210 := fun u v => (a21 u v).cell 0 rfl); (have u211 := fun u v => (a21 u v).cell 1 rfl); (have v210 := fun u v => (a21 u v).free 0); (have v211 := fun u v => (a21 u v).free 1); clear a21 hne kk2 kk1)); (try ((have kk2 := HK2x.out); (have kk3 := HK3x.out); (refine have_then (T := w1.heap.size + 1 ≠ w1.heap.size) ?kk ?_); (case kk => omega); (intro hne); (have a23 := fun (u v : Value) => blkOther (a := u) (b := v) kk3 hne); (have u230 := fun u v => (a23 u v).cell 0 rfl); (have u231 := fun u v => (a23 u v).cell 1 rfl); (have v230 := fun u v => (a23 u v).free 0); (have v231 := fun u v => (a23 u v).free 1); clear a23 hne kk2 kk3)); (try ((have kk3 := HK3x.out); (have kk0 := HK0x.out); (refine have_then (T := W.heap.size ≠ w1.heap.size + 1) ?kk ?_); (case kk => omega); (intro hne); (have a30 := fun (u v : Value) => blkOther (a := u) (b := v) kk0 hne); (have u300 := fun u v => (a30 u v).cell 0 rfl); (have u301 := fun u v => (a30 u v).cell 1 rfl); (have v300 := fun u v => (a30 u v).free 0); (have v301 := fun u v => (a30 u v).free 1); clear a30 hne kk3 kk0)); (try ((have kk3 := HK3x.out); (have kk1 := HK1x.out); (refine have_then (T := W.heap.size + 1 ≠ w1.heap.size + 1) ?kk ?_); (case kk => omega); (intro hne); (have a31 := fun (u v : Value) => blkOther (a := u) (b := v) kk1 hne); (have u310 := fun u v => (a31 u v).cell 0 rfl); (have u311 := fun u v => (a31 u v).cell 1 rfl); (have v310 := fun u v => (a31 u v).free 0); (have v311 := fun u v => (a31 u v).free 1); clear a31 hne kk3 kk1)); (try ((have kk3 := HK3x.out); (have kk2 := HK2x.out); (refine have_then (T := w1.heap.size ≠ w1.heap.size + 1) ?kk ?_); (case kk => omega); (intro hne); (have a32 := fun (u v : Value) => blkOther (a := u) (b := v) kk2 hne); (have u320 := fun u v => (a32 u v).cell 0 rfl); (have u321 := fun u v => (a32 u v).cell 1 rfl); (have v320 := fun u v => (a32 u v).free 0); (have v321 := fun u v => (a32 u v).free 1); clear a32 hne kk3 kk2)))
      | fail "noarm")
    all_goals (
      have hKK := HKK.out
      clear HKK
      go_wp2_with fail
      go_meet
      refine ⟨_, .slice p3 (Ld r2.natAbs) c3, rfl, ?_⟩
      refine ⟨?_, ?_, ?_, ?_, ?_, ?_, ?_⟩
      · (repeat (first | (with_reducible exact HK8.out) | (with_reducible exact HK80.out) | ((with_reducible refine newAt _ _ _ _ _ ?hg ?hl); (case hg => (simp; done)); (case hl => rfl)) | (with_reducible refine blkDrew ?_) | (with_reducible refine Blk.alloc ?_ _) | (with_reducible refine blkPair (o0 := .bool false) (o1 := .slice none 0 0) ?_) | ((with_reducible refine blkOther ?_ ?hne); (case hne => omega)) | ((with_reducible refine blkDown (X := ?_) ?_ ?hdn); (case hdn => (first | (with_reducible exact hb2) | (with_reducible exact hb1))))))
      · (repeat (first | (with_reducible exact HK8.out) | (with_reducible exact HK80.out) | ((with_reducible refine newAt _ _ _ _ _ ?hg ?hl); (case hg => (simp; done)); (case hl => rfl)) | (with_reducible refine blkDrew ?_) | (with_reducible refine Blk.alloc ?_ _) | (with_reducible refine blkPair (o0 := .bool false) (o1 := .slice none 0 0) ?_) | ((with_reducible refine blkOther ?_ ?hne); (case hne => omega)) | ((with_reducible refine blkDown (X := ?_) ?_ ?hdn); (case hdn => (first | (with_reducible exact hb2) | (with_reducible exact hb1))))))
      · (repeat (first | (with_reducible exact HNY.out) | (with_reducible exact HNY0.out) | (with_reducible exact hv1) | (with_reducible exact hv2) | (with_reducible exact hu2) | (with_reducible refine dgDrew ?_) | (with_reducible refine dgAl ?_) | ((with_reducible refine dgPair (o0 := .bool false) (o1 := .slice none 0 0) ?hk ?_); (case hk => (repeat (first | (with_reducible exact HK8.out) | (with_reducible exact HK80.out) | ((with_reducible refine newAt _ _ _ _ _ ?hg ?hl); (case hg => (simp; done)); (case hl => rfl)) | (with_reducible refine blkDrew ?_) | (with_reducible refine Blk.alloc ?_ _) | (with_reducible refine blkPair (o0 := .bool false) (o1 := .slice none 0 0) ?_) | ((with_reducible refine blkOther ?_ ?hne); (case hne => omega)) | ((with_reducible refine blkDown (X := ?_) ?_ ?hdn); (case hdn => (first | (with_reducible exact hb2) | (with_reducible exact hb1)))))))) | ((with_reducible refine dgDown (X := ?_) ?_ ?hdn); (case hdn => (first | (with_reducible exact hb2) | (with_reducible exact hb1))))))
      · (repeat (first | (with_reducible exact HNY.out) | (with_reducible exact HNY0.out) | (with_reducible exact hv1) | (with_reducible exact hv2) | (with_reducible exact hu2) | (with_reducible refine dgDrew ?_) | (with_reducible refine dgAl ?_) | ((with_reducible refine dgPair (o0 := .bool false) (o1 := .slice none 0 0) ?hk ?_); (case hk => (repeat (first | (with_reducible exact HK8.out) | (with_reducible exact HK80.out) | ((with_reducible refine newAt _ _ _ _ _ ?hg ?hl); (case hg => (simp; done)); (case hl => rfl)) | (with_reducible refine blkDrew ?_) | (with_reducible refine Blk.alloc ?_ _) | (with_reducible refine blkPair (o0 := .bool false) (o1 := .slice none 0 0) ?_) | ((with_reducible refine blkOther ?_ ?hne); (case hne => omega)) | ((with_reducible refine blkDown (X := ?_) ?_ ?hdn); (case hdn => (first | (with_reducible exact hb2) | (with_reducible exact hb1)))))))) | ((with_reducible refine dgDown (X := ?_) ?_ ?hdn); (case hdn => (first | (with_reducible exact hb2) | (with_reducible exact hb1))))))
      · omega
      · omega
      · (repeat (first | (with_reducible exact HBW.out) | (with_reducible exact HBW0.out) | (with_reducible refine belDrew ?_) | (with_reducible refine belAl ?_) | ((with_reducible refine belPair ?_ ?hg); (case hg => omega)) | ((with_reducible refine belDown (X := ?_) ?_ ?hdn); (case hdn => (first | (with_reducible exact hb2) | (with_reducible exact hb1)))))))
  case rest =>
    obtain ⟨g10, v10, rfl, hcB8, hcB10, hcNY, hcN10, hcne, hcl, hcbel⟩ := hcut
    obtain ⟨WX, rfl⟩ : ∃ WX : World, WX = wc := ⟨_, rfl⟩
    have c0 := (hcB8.alloc (.cells #[.int .i64 1] 3)).cell 0 rfl
    have c1 := (hcB8.alloc (.cells #[.int .i64 1] 3)).cell 1 rfl
    have D5 := Lib.hid (G67.out (WX.alloc (.cells #[.int .i64 1] 3)) 1 false _ _ (by decide) (by rw [show Ld (Int.natAbs 1) = 1 by rfl]; omega) (one_dg WX) (hcNY.below (bSelf WX _)))
    obtain ⟨b5, hb5e⟩ : ∃ b : Bool, b = decide (fq 1 y < 0) := ⟨_, rfl⟩
    rw [← hb5e] at D5
    generalize fq 1 y = q5 at *
    have hr5L := Lib.hid (GL.out 1)
    have hr5S := Lib.hid (fr_sign (x := 1) HYP.out)
    generalize fr 1 y = r5 at *
    have HCC := Lib.hid (And.intro hcB8 (And.intro hcB10 (And.intro hcNY (And.intro hcN10 hcbel))))
    have HNE := Lib.hid hcne
    have HLE := Lib.hid hcl
    clear E67 Q0 Q00 HK8 HK80 HNY HNY0 HBW HBW0 d0 d1 k0' k1' hb5e hcB8 hcB10 hcNY hcN10 hcbel hg8 hg8l
    go_wp2_with fail
    refine D5.out.mono ?_
    rintro e w5 ⟨v5, u5, rfl, hv5, hu5, hb5⟩
    obtain ⟨p5, e5, rfl, -, -, -⟩ := hv5.cells
    obtain ⟨p6, e6, rfl, -, -, -⟩ := hu5.cells
    have hb5' : Below WX.heap.size WX w5 := bThen (bSelf WX _) hb5
    have HS0 : Hid (Pn w ((w5.alloc (.cells #[.bool b5, .slice p5 (Ld q5.natAbs) e5] 73)).alloc (.cells #[.bool false, .slice p6 (Ld r5.natAbs) e6] 73)) (.slice py ly cy) y g8 g10 (w5.heap.size + 1) v10 r2 (.slice p6 (Ld r5.natAbs) e6) r5) := by
      obtain ⟨e1, e2, e3, e4, e5'⟩ := HCC.out
      have bA := bSelf w5 (.cells #[.bool b5, .slice p5 (Ld q5.natAbs) e5] 73)
      have bB := bSelf (w5.alloc (.cells #[.bool b5, .slice p5 (Ld q5.natAbs) e5] 73)) (.cells #[.bool false, .slice p6 (Ld r5.natAbs) e6] 73)
      have bT := bThen (bThen hb5' bA) bB
      have kn : Blk ((w5.alloc (.cells #[.bool b5, .slice p5 (Ld q5.natAbs) e5] 73)).alloc (.cells #[.bool false, .slice p6 (Ld r5.natAbs) e6] 73)) (w5.heap.size + 1) 73 [.bool false, .slice p6 (Ld r5.natAbs) e6] := newAt _ _ _ _ _ (by simp) rfl
      have z8 := e1.lt
      have z10 := e2.lt
      have z5 := hb5'.size
      have zw := e5'.size
      exact ⟨e1.below bT e1.lt, e2.below bT e2.lt, kn, e3.below bT, e4.below bT, (hu5.below bA).below bB, HNE.out, by omega, by omega, HLE.out, by omega, hr2S.out, hr5S.out, bThen e5' bT⟩
    clear hv5 hu5 hb5 hb5' c0 c1 D5 HCC HNE HLE
    go_wp2_with fail
    generalize (w5.alloc (.cells #[.bool b5, .slice p5 (Ld q5.natAbs) e5] 73)).alloc (.cells #[.bool false, .slice p6 (Ld r5.natAbs) e6] 73) = W6 at *
    generalize w5.heap.size + 1 = g12 at *
    go_loopw [1] (fun u wr => ∃ (k : Nat) (p f : Int) (v10 v12 : Value), k ≤ 1000000 ∧ u = .int .i64 k ∧ Hid (pm y k p f = pm y k0 r5 r2) ∧ Hid (Ld p.natAbs ≤ 400 ∧ Ld f.natAbs ≤ 400) ∧ Hid (Pn w wr (.slice py ly cy) y g8 g10 g12 v10 f v12 p)) (fun u _ => (intOf u).toNat)
    case atStart => exact ⟨k0, r5, r2, v10, _, hk0, rfl, rfl, ⟨hr5L.out, hr2L.out⟩, HS0⟩
    case round =>
      obtain ⟨k, p, f, v10, v12, hk, rfl, HPM, HL, HS⟩ := hrel
      obtain ⟨wo, rfl⟩ : ∃ wo : World, wo = wr := ⟨_, rfl⟩
      clear HS0 hr5L hr2L hr5S hr2S
      obtain ⟨p10, e10, rfl, -, -, -⟩ := HS.out.n10.cells
      obtain ⟨p12, e12, rfl, -, -, -⟩ := HS.out.n12.cells
      by_cases hpos : 0 < k
      · have hkp : (0 : Int) < k := by omega
        have hst := pm_step y k p f hpos
        rw [HPM.out] at hst
        by_cases hodd : k % 2 = 1
        · have hoi : (((k : Int) % 2) == 1) = true := by rw [beq_iff_eq]; omega
          rw [if_pos hodd] at hst
          have HST := Lib.hid hst.symm
          clear hst hodd
          obtain ⟨z, hz⟩ : ∃ z : Int, z = p * f := ⟨_, rfl⟩
          obtain ⟨cz, hcz⟩ : ∃ c : Bool, c = decide (z < 0) := ⟨_, rfl⟩
          have lz : Ld z.natAbs ≤ 90000 := by rw [hz]; exact ld_mulZ HL.out.1 HL.out.2 (by omega)
          have D1 : Hid (Calls Tryz.prog 61 #[.agg #[.bool false, .slice p12 (Ld p.natAbs) e12], .agg #[.bool false, .slice p10 (Ld f.natAbs) e10]] wo.drew (NmB cz z wo.drew)) := by
            have := t61 p f false false _ _ wo.drew HS.out.s12 HS.out.s10 (dgDrew HS.out.n12) (dgDrew HS.out.n10) (by have := HL.out.1; omega) (by have := HL.out.2; omega)
            rw [← hz] at this
            exact this.mono fun _ _ q => q.toB hcz
          rw [← hz] at HST
          obtain ⟨bqz, hbqz⟩ : ∃ b : Bool, b = decide (fq z y < 0) := ⟨_, rfl⟩
          obtain ⟨q, hq⟩ : ∃ q : Int, q = fr z y := ⟨_, rfl⟩
          have D2 : Hid (∀ (W' : World) (v : Value), Below wo.drew.heap.size wo.drew W' → Dg W' v z.natAbs → Calls Tryz.prog 67 #[.agg #[.bool cz, v], .agg #[.bool false, .slice py ly cy]] W' (NmB2 bqz false (fq z y) q W')) := fun W' v h k => by
            have := G67.out W' z cz v _ hcz lz k ((dgDrew HS.out.ny).below h)
            rw [← hbqz, ← hq] at this
            exact this
          rw [← hq] at HST
          have HLq : Hid (Ld q.natAbs ≤ 400 ∧ Ld f.natAbs ≤ 400) := ⟨by rw [hq]; exact GL.out z, HL.out.2⟩
          have HSq : Hid (false = decide (q < 0)) := by show _ = _; rw [hq]; exact fr_sign HYP.out
          clear hz hcz lz hbqz hq
          go_upto_region 8 with fail
          have HS1 : Hid (Pn w wo.drew (.slice py ly cy) y g8 g10 g12 (.slice p10 (Ld f.natAbs) e10) f (.slice p12 (Ld p.natAbs) e12) p) := HS.out.drew
          have a0 := HS.out.k8.cell 0 rfl
          have a1 := HS.out.k8.cell 1 rfl
          have a2 := HS.out.k10.cell 0 rfl
          have a3 := HS.out.k10.cell 1 rfl
          have a4 := HS.out.k12.cell 0 rfl
          have a5 := HS.out.k12.cell 1 rfl
          have d0 := HS1.out.k8.cell 0 rfl
          have d1 := HS1.out.k8.cell 1 rfl
          have d2 := HS1.out.k10.cell 0 rfl
          have d3 := HS1.out.k10.cell 1 rfl
          have HLq2 := HLq
          clear HLq
          go_cut [] from 51 to 73 (fun wx => ∃ v12' : Value, Hid (Pn w wx (.slice py ly cy) y g8 g10 g12 (.slice p10 (Ld f.natAbs) e10) f v12' q))
          case first =>
            go_region_law
              (first
                | (go_simp; go_at_call 61; (with_reducible refine D1.out.mono ?_); rintro e w7 ⟨v7, rfl, hv7, hb7⟩; obtain ⟨p7, e7, rfl, -, -, -⟩ := hv7.cells; have m0 := below_cell hb7 d0; have m1 := below_cell hb7 d1)
                | (go_simp; go_at_call 67; (with_reducible refine (D2.out _ _ hb7 hv7).mono ?_); rintro e w8 ⟨v8, u8, rfl, hv8, hu8, hb8⟩; obtain ⟨p8, e8, rfl, -, -, -⟩ := hv8.cells; obtain ⟨p9, e9, rfl, -, -, -⟩ := hu8.cells; have j := (HS1.out.next hb7).next hb8; have r0 := j.k12.cell 0 rfl; have r1 := j.k12.cell 1 rfl; have f0 := j.k12.free 0; have f1 := j.k12.free 1; have HJ := Lib.hid j; clear j))
            all_goals (
              go_wp2_with fail
              go_meet
              exact ⟨_, HJ.out.put12 (.slice p9 (Ld q.natAbs) e9) q HSq.out hu8⟩)
          case rest =>
          obtain ⟨v12', HSX⟩ := hcut
          obtain ⟨p9, e9, rfl, -, -, -⟩ := HSX.out.n12.cells
          obtain ⟨wp, rfl⟩ : ∃ wp : World, wp = wc := ⟨_, rfl⟩
          have HLq := HLq2
          clear HLq2 a0 a1 a2 a3 a4 a5 d0 d1 d2 d3 HS1 HS D1 D2 HL HSq
          go_upto_region 9 with fail
          obtain ⟨z2, hz2⟩ : ∃ z : Int, z = f * f := ⟨_, rfl⟩
          obtain ⟨cy2, hcy2⟩ : ∃ c : Bool, c = decide (z2 < 0) := ⟨_, rfl⟩
          have lz2 : Ld z2.natAbs ≤ 90000 := by rw [hz2]; exact ld_mulZ HLq.out.2 HLq.out.2 (by omega)
          have F1 : Hid (Calls Tryz.prog 61 #[.agg #[.bool false, .slice p10 (Ld f.natAbs) e10], .agg #[.bool false, .slice p10 (Ld f.natAbs) e10]] wp.drew (NmB cy2 z2 wp.drew)) := by
            have := t61 f f false false _ _ wp.drew HSX.out.s10 HSX.out.s10 (dgDrew HSX.out.n10) (dgDrew HSX.out.n10) (by have := HLq.out.2; omega) (by have := HLq.out.2; omega)
            rw [← hz2] at this
            exact this.mono fun _ _ q => q.toB hcy2
          rw [← hz2] at HST
          obtain ⟨bq2, hbq2⟩ : ∃ b : Bool, b = decide (fq z2 y < 0) := ⟨_, rfl⟩
          obtain ⟨s2, hs2⟩ : ∃ q : Int, q = fr z2 y := ⟨_, rfl⟩
          have F2 : Hid (∀ (W' : World) (v : Value), Below wp.drew.heap.size wp.drew W' → Dg W' v z2.natAbs → Calls Tryz.prog 67 #[.agg #[.bool cy2, v], .agg #[.bool false, .slice py ly cy]] W' (NmB2 bq2 false (fq z2 y) s2 W')) := fun W' v h k => by
            have := G67.out W' z2 cy2 v _ hcy2 lz2 k ((dgDrew HSX.out.ny).below h)
            rw [← hbq2, ← hs2] at this
            exact this
          rw [← hs2] at HST
          have HL2 : Hid (Ld s2.natAbs ≤ 400) := by show _ ≤ _; rw [hs2]; exact GL.out z2
          have HSs : Hid (false = decide (s2 < 0)) := by show _ = _; rw [hs2]; exact fr_sign HYP.out
          clear hz2 hcy2 lz2 hbq2 hs2
          have HSY : Hid (Pn w wp.drew (.slice py ly cy) y g8 g10 g12 (.slice p10 (Ld f.natAbs) e10) f _ _) := HSX.out.drew
          have a0 := HSX.out.k8.cell 0 rfl
          have a1 := HSX.out.k8.cell 1 rfl
          have a2 := HSX.out.k10.cell 0 rfl
          have a3 := HSX.out.k10.cell 1 rfl
          have d0 := HSY.out.k8.cell 0 rfl
          have d1 := HSY.out.k8.cell 1 rfl
          go_region_law
            (first
              | (go_simp; go_at_call 61; (with_reducible refine F1.out.mono ?_); rintro e wa ⟨va, rfl, hva, hba⟩; obtain ⟨pa', ea, rfl, -, -, -⟩ := hva.cells; have m0 := below_cell hba d0; have m1 := below_cell hba d1)
              | (go_simp; go_at_call 67; (with_reducible refine (F2.out _ _ hba hva).mono ?_); rintro e wb' ⟨vb', ub, rfl, hvb, hub, hbb⟩; obtain ⟨pb', eb, rfl, -, -, -⟩ := hvb.cells; obtain ⟨pc, ec, rfl, -, -, -⟩ := hub.cells; have j := (HSY.out.next hba).next hbb; have r0 := j.k10.cell 0 rfl; have r1 := j.k10.cell 1 rfl; have f0 := j.k10.free 0; have f1 := j.k10.free 1; have HJ := Lib.hid j; clear j))
          all_goals (
            have HSZ := Lib.hid (HJ.out.put10 (.slice pc (Ld s2.natAbs) ec) s2 HSs.out hub)
            have HL5 := Lib.hid (And.intro HLq.out.1 HL2.out)
            clear a0 a1 a2 a3 d0 d1 m0 m1 r0 r1 f0 f1 hva hba hvb hub hbb HJ HSY HSX F1 F2 HSs HL2 HLq
            go_wp2
            go_roundw
            case rel => exact ⟨k / 2, _, s2, _, _, by omega, congrArg (Value.int .i64) (Int.natCast_ediv k 2).symm, HST, HL5, HSZ⟩
            case measure => simp [intOf]; omega)
        · have hoi : (((k : Int) % 2) == 1) = false := by rw [beq_eq_false_iff_ne]; omega
          rw [if_neg hodd] at hst
          have HST := Lib.hid hst.symm
          clear hst hodd
          have HSX := HS
          have HLq := HL
          clear HS HL
          obtain ⟨wp, hwp⟩ : ∃ wp : World, wp = wo := ⟨_, rfl⟩
          go_upto_region 9 with fail
          rw [← hwp] at HSX ⊢
          clear hwp
          obtain ⟨z2, hz2⟩ : ∃ z : Int, z = f * f := ⟨_, rfl⟩
          obtain ⟨cy2, hcy2⟩ : ∃ c : Bool, c = decide (z2 < 0) := ⟨_, rfl⟩
          have lz2 : Ld z2.natAbs ≤ 90000 := by rw [hz2]; exact ld_mulZ HLq.out.2 HLq.out.2 (by omega)
          have F1 : Hid (Calls Tryz.prog 61 #[.agg #[.bool false, .slice p10 (Ld f.natAbs) e10], .agg #[.bool false, .slice p10 (Ld f.natAbs) e10]] wp.drew (NmB cy2 z2 wp.drew)) := by
            have := t61 f f false false _ _ wp.drew HSX.out.s10 HSX.out.s10 (dgDrew HSX.out.n10) (dgDrew HSX.out.n10) (by have := HLq.out.2; omega) (by have := HLq.out.2; omega)
            rw [← hz2] at this
            exact this.mono fun _ _ q => q.toB hcy2
          rw [← hz2] at HST
          obtain ⟨bq2, hbq2⟩ : ∃ b : Bool, b = decide (fq z2 y < 0) := ⟨_, rfl⟩
          obtain ⟨s2, hs2⟩ : ∃ q : Int, q = fr z2 y := ⟨_, rfl⟩
          have F2 : Hid (∀ (W' : World) (v : Value), Below wp.drew.heap.size wp.drew W' → Dg W' v z2.natAbs → Calls Tryz.prog 67 #[.agg #[.bool cy2, v], .agg #[.bool false, .slice py ly cy]] W' (NmB2 bq2 false (fq z2 y) s2 W')) := fun W' v h k => by
            have := G67.out W' z2 cy2 v _ hcy2 lz2 k ((dgDrew HSX.out.ny).below h)
            rw [← hbq2, ← hs2] at this
            exact this
          rw [← hs2] at HST
          have HL2 : Hid (Ld s2.natAbs ≤ 400) := by show _ ≤ _; rw [hs2]; exact GL.out z2
          have HSs : Hid (false = decide (s2 < 0)) := by show _ = _; rw [hs2]; exact fr_sign HYP.out
          clear hz2 hcy2 lz2 hbq2 hs2
          have HSY : Hid (Pn w wp.drew (.slice py ly cy) y g8 g10 g12 (.slice p10 (Ld f.natAbs) e10) f _ _) := HSX.out.drew
          have a0 := HSX.out.k8.cell 0 rfl
          have a1 := HSX.out.k8.cell 1 rfl
          have a2 := HSX.out.k10.cell 0 rfl
          have a3 := HSX.out.k10.cell 1 rfl
          have d0 := HSY.out.k8.cell 0 rfl
          have d1 := HSY.out.k8.cell 1 rfl
          go_region_law
            (first
              | (go_simp; go_at_call 61; (with_reducible refine F1.out.mono ?_); rintro e wa ⟨va, rfl, hva, hba⟩; obtain ⟨pa', ea, rfl, -, -, -⟩ := hva.cells; have m0 := below_cell hba d0; have m1 := below_cell hba d1)
              | (go_simp; go_at_call 67; (with_reducible refine (F2.out _ _ hba hva).mono ?_); rintro e wb' ⟨vb', ub, rfl, hvb, hub, hbb⟩; obtain ⟨pb', eb, rfl, -, -, -⟩ := hvb.cells; obtain ⟨pc, ec, rfl, -, -, -⟩ := hub.cells; have j := (HSY.out.next hba).next hbb; have r0 := j.k10.cell 0 rfl; have r1 := j.k10.cell 1 rfl; have f0 := j.k10.free 0; have f1 := j.k10.free 1; have HJ := Lib.hid j; clear j))
          all_goals (
            have HSZ := Lib.hid (HJ.out.put10 (.slice pc (Ld s2.natAbs) ec) s2 HSs.out hub)
            have HL5 := Lib.hid (And.intro HLq.out.1 HL2.out)
            clear a0 a1 a2 a3 d0 d1 m0 m1 r0 r1 f0 f1 hva hba hvb hub hbb HJ HSY HSX F1 F2 HSs HL2 HLq
            go_wp2
            go_roundw
            case rel => exact ⟨k / 2, _, s2, _, _, by omega, congrArg (Value.int .i64) (Int.natCast_ediv k 2).symm, HST, HL5, HSZ⟩
            case measure => simp [intOf]; omega)
      · obtain rfl : k = 0 := by omega
        have h6 := HPM.out
        rw [pm_zero] at h6
        have HP6 := Lib.hid h6
        have s0 := HS.out.k12.cell 0 rfl
        have s1 := HS.out.k12.cell 1 rfl
        have D9 := Lib.hid (t62 p false _ wo HS.out.s12 HS.out.n12 (by have := HL.out.1; omega))
        clear hpos h6
        go_wp2_with fail
        refine D9.out.mono ?_
        rintro e w9 ⟨rfl, hb9⟩
        have hB9 := bThen HS.out.bel hb9
        go_wp2_with fail
        go_ret2
        exact .inr ⟨x, y, HX.out, HY.out, by show _ = Ending.returned (.tuple #[.string (modS (k0 : Int) x y), .int .i64 (modE (k0 : Int) x y)]); rw [HM.out.1, HM.out.2, ← HP6.out]; rfl, hB9⟩

set_option maxRecDepth 100000 in
set_option maxHeartbeats 20000000 in
theorem t21 (s t : ByteArray) (n : Int) (w : World) (hs : s.size ≤ 9223372036854775807) (ht : t.size ≤ 9223372036854775807) : Calls Tryz.prog 21 #[.string s, .int .i64 n, .string t] w (ModQ s.data.toList t.data.toList n w) := by
  have HC0 := all2 s t w hs ht
  have HB0 : Hid (Below w.heap.size w (w.alloc (.cells #[.string s, .string t] 9))) := bSelf0 w _
  clear hs ht
  cases hv : (vldL s.data.toList && vldL t.data.toList) with
  | false =>
    rw [hv] at HC0
    have HC := Lib.hid HC0
    have HV : Hid (vldL s.data.toList = false ∨ vldL t.data.toList = false) := by
      show _ ∨ _
      cases h1 : vldL s.data.toList with
      | false => exact .inl rfl
      | true => rw [h1] at hv; exact .inr hv
    clear hv HC0
    go_enter Tryz.func21, Tryz.ntmps21
    go_wp2_with fail
    refine HC.out.mono ?_
    rintro e w1 ⟨rfl, rfl⟩
    go_wp2_with fail
    go_ret2
    exact .inl ⟨HV.out, rfl, HB0.out⟩
  | true =>
    rw [hv] at HC0
    have HC := Lib.hid HC0
    rw [Bool.and_eq_true] at hv
    obtain ⟨x, hx⟩ := vldL_num _ hv.1
    obtain ⟨y, hy⟩ := vldL_num _ hv.2
    obtain ⟨hp, hfirst⟩ := num_firstp hy
    have hzero := num_zerop hy
    have HX := Lib.hid hx
    have HY := Lib.hid hy
    clear hv HC0 hx hy
    by_cases h1 : n < 0
    · have HM := Lib.hid (mod_bad (x := x) (y := y) (.inl h1 : n < 0 ∨ 1000000 < n ∨ y ≤ 0))
      clear hfirst hzero
      go_enter Tryz.func21, Tryz.ntmps21
      go_wp2_with fail
      refine HC.out.mono ?_
      rintro e w1 ⟨rfl, rfl⟩
      go_wp2_with fail
      go_ret2
      exact .inr ⟨x, y, HX.out, HY.out, by show _ = Ending.returned (.tuple #[.string (modS n x y), .int .i64 (modE n x y)]); rw [HM.out.1, HM.out.2]; rfl, HB0.out⟩
    · have h1' : 0 ≤ n := by omega
      by_cases h2 : 1000000 < n
      · have HM := Lib.hid (mod_bad (x := x) (y := y) (.inr (.inl h2) : n < 0 ∨ 1000000 < n ∨ y ≤ 0))
        clear hfirst hzero h1
        go_enter Tryz.func21, Tryz.ntmps21
        go_wp2_with fail
        refine HC.out.mono ?_
        rintro e w1 ⟨rfl, rfl⟩
        go_wp2_with fail
        go_ret2
        exact .inr ⟨x, y, HX.out, HY.out, by show _ = Ending.returned (.tuple #[.string (modS n x y), .int .i64 (modE n x y)]); rw [HM.out.1, HM.out.2]; rfl, HB0.out⟩
      · have h2' : n ≤ 1000000 := by omega
        by_cases h3 : y < 0
        · have HM := Lib.hid (mod_bad (x := x) (.inr (.inr (by omega)) : n < 0 ∨ 1000000 < n ∨ y ≤ 0))
          have h45 : (t[0].toNat : Int) = 45 := by have := hfirst.2 h3; omega
          clear hfirst hzero h1 h2 h3
          go_enter Tryz.func21, Tryz.ntmps21
          go_wp2_with fail
          refine HC.out.mono ?_
          rintro e w1 ⟨rfl, rfl⟩
          go_wp2_with fail
          go_ret2
          exact .inr ⟨x, y, HX.out, HY.out, by show _ = Ending.returned (.tuple #[.string (modS n x y), .int .i64 (modE n x y)]); rw [HM.out.1, HM.out.2]; rfl, HB0.out⟩
        · have h45 : ((t[0].toNat : Int) == 45) = false := by have h1 : ¬ (t[0].toNat = 45) := fun h => h3 (hfirst.1 h); simp; omega
          by_cases h4 : y = 0
          · have HM := Lib.hid (mod_bad (x := x) (.inr (.inr (by omega)) : n < 0 ∨ 1000000 < n ∨ y ≤ 0))
            have h48 : (t.toList == [48]) = true := by rw [hzero.2 h4, ByteArray.toList_eq]; rfl
            clear hfirst hzero h1 h2 h3 h4
            go_enter Tryz.func21, Tryz.ntmps21
            go_wp2_with fail
            refine HC.out.mono ?_
            rintro e w1 ⟨rfl, rfl⟩
            go_wp2_with fail
            go_ret2
            exact .inr ⟨x, y, HX.out, HY.out, by show _ = Ending.returned (.tuple #[.string (modS n x y), .int .i64 (modE n x y)]); rw [HM.out.1, HM.out.2]; rfl, HB0.out⟩
          · have HM := Lib.hid (mod_good (x := x) (show ¬ (n < 0 ∨ 1000000 < n ∨ y ≤ 0) by omega))
            have h48 : (t.toList == [48]) = false := str_ne (l := [48]) (fun h => h4 (hzero.1 h))
            have hyp : 0 < y := by omega
            obtain ⟨k0, rfl⟩ := Int.eq_ofNat_of_zero_le h1'
            have hk0 : k0 ≤ 1000000 := by omega
            rw [Int.toNat_natCast] at HM
            exact t21g s t x y k0 w hp h45 h48 hyp hk0 HX HY HC HM HB0
end Go.Proofs.YtifhiefdhhmdeaaGreatDoor
