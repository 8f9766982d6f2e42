/- powerModulo and Mod, the program's. -/
import Derived.Test.YtifhiefdhhmdeaaGreatDoorXF
import Derived.Deep.RegionHeld3
namespace Go.Proofs.YtifhiefdhhmdeaaGreatDoor
open Go Go.RowKit

theorem zero67 : (Tryz.prog.info? 67).map (fun i => (i.zero, i.size)) = some (some (.agg #[.bool false, .slice none 0 0]), 2) := by kernel_rfl
set_option maxRecDepth 100000 in
set_option maxHeartbeats 8000000 in
theorem t124 (y m : Int) (b : Bool) (va vm : Value) (g : Nat) (w : World) (hb : b = decide (y < 0)) (hm : 0 < m) (hA : Nt w va y.natAbs) (hM : Nt w vm m.natAbs) (hg : Blk w g 67 [.bool false, vm]) (hl : Lw y.natAbs ≤ 400000) (hl' : Lw m.natAbs ≤ 400000) :
    Calls Tryz.prog 124 #[.agg #[.bool b, va], .pointer (some ⟨g, 0, none⟩)] w (IntR (fr y m) w) := by
  obtain ⟨pa, ca, rfl, -, -, -⟩ := hA.cells
  obtain ⟨pm, cm, rfl, -, -, -⟩ := hM.cells
  have hB0 : Below w.heap.size w ((w.alloc (.cells #[.bool b, .slice pa (Lw y.natAbs) ca] 67)).alloc (.cells #[.bool false, .slice none 0 0] 67)) := ((Below.refl _ _).alloc (Nat.le_refl _) _).alloc (by simp) _
  have HB0 := Lib.hid hB0
  have hkg := (hg.alloc (.cells #[.bool b, .slice pa (Lw y.natAbs) ca] 67)).alloc (.cells #[.bool false, .slice none 0 0] 67)
  have C1 := Lib.hid (t98 y m b false _ _ ((w.alloc (.cells #[.bool b, .slice pa (Lw y.natAbs) ca] 67)).alloc (.cells #[.bool false, .slice none 0 0] 67)) hb (by simp; omega) (by omega) (hA.below hB0) (hM.below hB0) (by omega) (by omega))
  have HKR : Hid (Blk ((w.alloc (.cells #[.bool b, .slice pa (Lw y.natAbs) ca] 67)).alloc (.cells #[.bool false, .slice none 0 0] 67)) (w.heap.size + 1) 67 [.bool false, .slice none 0 0]) := by
    have := Blk.new (w.alloc (.cells #[.bool b, .slice pa (Lw y.natAbs) ca] 67)) #[.bool false, .slice none 0 0] 67
    show Blk _ _ _ _
    simpa using this
  have kc0 := hkg.cell 0 rfl
  have kc1 := hkg.cell 1 rfl
  clear hA hM hB0 hkg hb hm hl hl' hg
  generalize fr y m = r at *
  generalize fq y m = q at *
  go_enter Tryz.func124, Tryz.ntmps124
  go_wp2_with fail
  refine C1.out.mono ?_
  rintro e w1 ⟨v, u, rfl, hv, hu, hb1⟩
  obtain ⟨p1, c1, rfl, -, -, -⟩ := hv.cells
  obtain ⟨p2, c2, rfl, -, -, -⟩ := hu.cells
  obtain ⟨b1, hb1e⟩ : ∃ b : Bool, b = decide (q < 0) := ⟨_, rfl⟩
  obtain ⟨b2, hb2e⟩ : ∃ b : Bool, b = decide (r < 0) := ⟨_, rfl⟩
  rw [← hb1e, ← hb2e]
  have HB2E := Lib.hid hb2e
  have hk := HKR.out.below hb1 HKR.out.lt
  have hsz : w.heap.size + 2 ≤ w1.heap.size := by have := hb1.size; simp at this; omega
  have HW1 := Lib.hid (bThen HB0.out hb1)
  have HU := Lib.hid hu
  have HK := Lib.hid hk
  clear kc0 kc1 hb1 hv hu hb1e hb2e hk C1 HKR HB0
  go_upto_region 2 with fail
  have HK2 := Lib.hid ((HK.out.alloc (.cells #[.bool b1, .slice p1 (Lw q.natAbs) c1] 67)).alloc (.cells #[.bool b2, .slice p2 (Lw r.natAbs) c2] 67))
  have HU2 : Hid (Nt ((w1.alloc (.cells #[.bool b1, .slice p1 (Lw q.natAbs) c1] 67)).alloc (.cells #[.bool b2, .slice p2 (Lw r.natAbs) c2] 67)) (.slice p2 (Lw r.natAbs) c2) r.natAbs) := (HU.out.below (bSelf w1 _)).below (bSelf _ _)
  have HW2 := Lib.hid (bAl (bAl HW1.out (.cells #[.bool b1, .slice p1 (Lw q.natAbs) c1] 67)) (.cells #[.bool b2, .slice p2 (Lw r.natAbs) c2] 67))
  have HK5 : Hid (Blk ((w1.alloc (.cells #[.bool b1, .slice p1 (Lw q.natAbs) c1] 67)).alloc (.cells #[.bool b2, .slice p2 (Lw r.natAbs) c2] 67)) (w1.heap.size + 1) 67 [.bool b2, .slice p2 (Lw r.natAbs) c2]) := by
    have := Blk.new (w1.alloc (.cells #[.bool b1, .slice p1 (Lw q.natAbs) c1] 67)) #[.bool b2, .slice p2 (Lw r.natAbs) c2] 67
    show Blk _ _ _ _
    simpa using this
  clear HK HU HW1
  generalize (w1.alloc (.cells #[.bool b1, .slice p1 (Lw q.natAbs) c1] 67)).alloc (.cells #[.bool b2, .slice p2 (Lw r.natAbs) c2] 67) = W2 at *
  have r0 := HK2.out.cell 0 rfl
  have r1 := HK2.out.cell 1 rfl
  have f0 := HK2.out.free 0
  have f1 := HK2.out.free 1
  have s0 := HK5.out.cell 0 rfl
  have s1 := HK5.out.cell 1 rfl
  go_wp2
  have g0 : (W2.setCell ⟨w.heap.size + 1, 0, none⟩ (.bool b2)).cell? ⟨w.heap.size + 1, 0, none⟩ = some (.bool b2) := (HK2.out.set 0 _).cell 0 rfl
  have g1 : ((W2.setCell ⟨w.heap.size + 1, 0, none⟩ (.bool b2)).setCell ⟨w.heap.size + 1, 1, none⟩ (.slice p2 (Lw r.natAbs) c2)).cell? ⟨w.heap.size + 1, 1, none⟩ = some (.slice p2 (Lw r.natAbs) c2) := ((HK2.out.set 0 _).set 1 _).cell 1 rfl
  refine bodyPost_ret (v := .agg #[.bool b2, .slice p2 (Lw r.natAbs) c2]) (by simp [results, Tryz.results124, go_sem, g0, g1]) rfl ?_
  exact ⟨_, by rw [HB2E.out], (HU2.out.setCell (HU2.out.ne67 HK2.out)).setCell (HU2.out.ne67 HK2.out), (HW2.out.setCell (by show w.heap.size ≤ w.heap.size + 1; omega) _).setCell (by show w.heap.size ≤ w.heap.size + 1; omega) _⟩

/-- what lies in memory while powerModulo runs -/
structure Pm (w W : World) (b : Bool) (va : Value) (x : Int) (vm : Value) (m : Int) (g8 g9 : Nat) (c8 : Bool) (v8 : Value) (z8 : Int) (c9 : Bool) (v9 : Value) (z9 : Int) : Prop where
  ka : Blk W w.heap.size 67 [.bool b, va]
  km : Blk W (w.heap.size + 1) 67 [.bool false, vm]
  kr : Blk W (w.heap.size + 1 + 1) 67 [.bool false, .slice none 0 0]
  k8 : Blk W g8 67 [.bool c8, v8]
  k9 : Blk W g9 67 [.bool c9, v9]
  nm : Nt W vm m.natAbs
  n8 : Nt W v8 z8.natAbs
  n9 : Nt W v9 z9.natAbs
  ne : g8 ≠ g9
  l8 : w.heap.size + 3 ≤ g8
  l9 : w.heap.size + 3 ≤ g9
  s8 : c8 = decide (z8 < 0)
  s9 : c9 = decide (z9 < 0)
  bel : Below w.heap.size w W
theorem Pm.next {w W W' : World} {b c8 c9 : Bool} {va vm v8 v9 : Value} {x m z8 z9 : Int} {g8 g9 : Nat} (h : Pm w W b va x vm m g8 g9 c8 v8 z8 c9 v9 z9) (hb : Below W.heap.size W W') : Pm w W' b va x vm m g8 g9 c8 v8 z8 c9 v9 z9 :=
  ⟨h.ka.below hb h.ka.lt, h.km.below hb h.km.lt, h.kr.below hb h.kr.lt, h.k8.below hb h.k8.lt, h.k9.below hb h.k9.lt, h.nm.below hb, h.n8.below hb, h.n9.below hb, h.ne, h.l8, h.l9, h.s8, h.s9, bThen h.bel hb⟩
theorem Pm.put8 {w W : World} {b c8 c9 : Bool} {va vm v8 v9 : Value} {x m z8 z9 : Int} {g8 g9 : Nat} (h : Pm w W b va x vm m g8 g9 c8 v8 z8 c9 v9 z9) (c : Bool) (u : Value) (y : Int) (hc : c = decide (y < 0)) (hu : Nt W u y.natAbs) :
    Pm w ((W.setCell ⟨g8, 0, none⟩ (.bool c)).setCell ⟨g8, 1, none⟩ u) b va x vm m g8 g9 c u y c9 v9 z9 :=
  have T := st67p h.k8 (.bool c) u
  ⟨T.2.1 _ _ _ (by have := h.l8; omega) h.ka, T.2.1 _ _ _ (by have := h.l8; omega) h.km, T.2.1 _ _ _ (by have := h.l8; omega) h.kr, T.1, T.2.1 _ _ _ (Ne.symm h.ne) h.k9, T.2.2.1 _ _ h.nm, T.2.2.1 _ _ hu, T.2.2.1 _ _ h.n9, h.ne, h.l8, h.l9, hc, h.s9, T.2.2.2 _ _ (by have := h.l8; omega) h.bel⟩
theorem Pm.put9 {w W : World} {b c8 c9 : Bool} {va vm v8 v9 : Value} {x m z8 z9 : Int} {g8 g9 : Nat} (h : Pm w W b va x vm m g8 g9 c8 v8 z8 c9 v9 z9) (c : Bool) (u : Value) (y : Int) (hc : c = decide (y < 0)) (hu : Nt W u y.natAbs) :
    Pm w ((W.setCell ⟨g9, 0, none⟩ (.bool c)).setCell ⟨g9, 1, none⟩ u) b va x vm m g8 g9 c8 v8 z8 c u y :=
  have T := st67p h.k9 (.bool c) u
  ⟨T.2.1 _ _ _ (by have := h.l9; omega) h.ka, T.2.1 _ _ _ (by have := h.l9; omega) h.km, T.2.1 _ _ _ (by have := h.l9; omega) h.kr, T.2.1 _ _ _ h.ne h.k8, T.1, T.2.2.1 _ _ h.nm, T.2.2.1 _ _ h.n8, T.2.2.1 _ _ hu, h.ne, h.l8, h.l9, h.s8, hc, T.2.2.2 _ _ (by have := h.l9; omega) h.bel⟩
set_option maxRecDepth 100000 in
set_option maxHeartbeats 20000000 in
theorem t66 (x m : Int) (b : Bool) (va vm : Value) (n : Nat) (w : World) (hb : b = decide (x < 0)) (hm : 0 < m) (hA : Nt w va x.natAbs) (hM : Nt w vm m.natAbs) (hl : Lw x.natAbs ≤ 40000) (hl' : Lw m.natAbs ≤ 40000) (hn : n ≤ 1000000) :
    Calls Tryz.prog 66 #[.agg #[.bool b, va], .int .i64 n, .agg #[.bool false, vm]] w (IntR (pm m n (fr 1 m) (fr x m)) w) := by
  obtain ⟨pa, ca, rfl, -, -, -⟩ := hA.cells
  obtain ⟨pm', cm, rfl, -, -, -⟩ := hM.cells
  obtain ⟨f1a, f1b, -⟩ := fqr 1 m (by omega)
  obtain ⟨f2a, f2b, -⟩ := fqr x m (by omega)
  have s1 : false = decide (fr 1 m < 0) := by have := (f1b hm).1; simp; omega
  have s2 : false = decide (fr x m < 0) := by have := (f2b hm).1; simp; omega
  have l1 : Lw (fr 1 m).natAbs ≤ 40000 := Nat.le_trans (Lw_mono (by have := f1b hm; omega)) hl'
  have l2 : Lw (fr x m).natAbs ≤ 40000 := Nat.le_trans (Lw_mono (by have := f2b hm; omega)) hl'
  have C2 : Hid (∀ (W : World) (v : Value), Nt W v 1 → Nt W (.slice pm' (Lw m.natAbs) cm) m.natAbs → Blk W (w.heap.size + 1) 67 [.bool false, .slice pm' (Lw m.natAbs) cm] → Calls Tryz.prog 124 #[.agg #[.bool false, v], .pointer (some ⟨w.heap.size + 1, 0, none⟩)] W (IntBp false (fr 1 m) W)) := fun W v h1 h2 h3 =>
    (t124 1 m false v _ (w.heap.size + 1) W (by decide) hm h1 h2 h3 (Nat.le_trans (Lw_small (by decide)) (by omega)) (by omega)).mono fun _ _ k => k.toBp s1
  have C3 : Hid (∀ (W : World), Nt W (.slice pa (Lw x.natAbs) ca) x.natAbs → Nt W (.slice pm' (Lw m.natAbs) cm) m.natAbs → Blk W (w.heap.size + 1) 67 [.bool false, .slice pm' (Lw m.natAbs) cm] → Calls Tryz.prog 124 #[.agg #[.bool b, .slice pa (Lw x.natAbs) ca], .pointer (some ⟨w.heap.size + 1, 0, none⟩)] W (IntBp false (fr x m) W)) := fun W h1 h2 h3 =>
    (t124 x m b _ _ (w.heap.size + 1) W hb hm h1 h2 h3 (by omega) (by omega)).mono fun _ _ k => k.toBp s2
  -- any number that is multiplied by another one
  have C5 : Hid (∀ (W : World) (y : Int) (c : Bool) (v : Value), c = decide (y < 0) → Lw y.natAbs ≤ 400000 → Nt W v y.natAbs → Nt W (.slice pm' (Lw m.natAbs) cm) m.natAbs → Blk W (w.heap.size + 1) 67 [.bool false, .slice pm' (Lw m.natAbs) cm] → Calls Tryz.prog 124 #[.agg #[.bool c, v], .pointer (some ⟨w.heap.size + 1, 0, none⟩)] W (IntBp false (fr y m) W)) := fun W y c v h0 hL h1 h2 h3 =>
    (t124 y m c v _ (w.heap.size + 1) W h0 hm h1 h2 h3 hL (by omega)).mono fun _ _ k => k.toBp (by obtain ⟨-, g, -⟩ := fqr y m (by omega); have := (g hm).1; simp; omega)
  have C6 : Hid (∀ y : Int, Lw (fr y m).natAbs ≤ 40000) := fun y => Nat.le_trans (Lw_mono (by obtain ⟨-, g, -⟩ := fqr y m (by omega); have := g hm; omega)) hl'
  have HW : Hid (Blk ((((w.alloc (.cells #[.bool b, .slice pa (Lw x.natAbs) ca] 67)).alloc (.cells #[.bool false, .slice pm' (Lw m.natAbs) cm] 67)).alloc (.cells #[.bool false, .slice none 0 0] 67)).drew) w.heap.size 67 [.bool b, .slice pa (Lw x.natAbs) ca] ∧ Blk ((((w.alloc (.cells #[.bool b, .slice pa (Lw x.natAbs) ca] 67)).alloc (.cells #[.bool false, .slice pm' (Lw m.natAbs) cm] 67)).alloc (.cells #[.bool false, .slice none 0 0] 67)).drew) (w.heap.size + 1) 67 [.bool false, .slice pm' (Lw m.natAbs) cm] ∧ Blk ((((w.alloc (.cells #[.bool b, .slice pa (Lw x.natAbs) ca] 67)).alloc (.cells #[.bool false, .slice pm' (Lw m.natAbs) cm] 67)).alloc (.cells #[.bool false, .slice none 0 0] 67)).drew) (w.heap.size + 1 + 1) 67 [.bool false, .slice none 0 0]) := by
    have hx := bx2s w b false (.slice pa (Lw x.natAbs) ca) (.slice pm' (Lw m.natAbs) cm)
    exact ⟨hx.bx, hx.by', hx.res⟩
  have hB0 : Below w.heap.size w ((((w.alloc (.cells #[.bool b, .slice pa (Lw x.natAbs) ca] 67)).alloc (.cells #[.bool false, .slice pm' (Lw m.natAbs) cm] 67)).alloc (.cells #[.bool false, .slice none 0 0] 67)).drew) := (bx2s w b false (.slice pa (Lw x.natAbs) ca) (.slice pm' (Lw m.natAbs) cm)).below.drew
  have hz : w.heap.size + 3 ≤ ((((w.alloc (.cells #[.bool b, .slice pa (Lw x.natAbs) ca] 67)).alloc (.cells #[.bool false, .slice pm' (Lw m.natAbs) cm] 67)).alloc (.cells #[.bool false, .slice none 0 0] 67))).heap.size := by simp
  have HNX := Lib.hid (hA.below hB0)
  have HNM := Lib.hid (hM.below hB0)
  have HBW := Lib.hid hB0
  have HL1 := Lib.hid l1
  have HL2 := Lib.hid l2
  have HS1 := Lib.hid s1
  have HS2 := Lib.hid s2
  have HMP := Lib.hid hm
  clear hA hM hB0 hb hm hl hl' f1a f1b f2a f2b s1 s2 l1 l2
  generalize Lw x.natAbs = lx at *
  generalize hlm : Lw m.natAbs = lm at *
  clear hlm
  obtain ⟨r1, hr1⟩ : ∃ r : Int, r = fr 1 m := ⟨_, rfl⟩
  obtain ⟨r2, hr2⟩ : ∃ r : Int, r = fr x m := ⟨_, rfl⟩
  rw [← hr1] at C2 HL1 HS1 ⊢
  rw [← hr2] at C3 HL2 HS2 ⊢
  clear hr1 hr2
  go_enter Tryz.func66, Tryz.ntmps66
  go_upto_region 2 with fail
  generalize (((w.alloc (.cells #[.bool b, .slice pa lx ca] 67)).alloc (.cells #[.bool false, .slice pm' lm cm] 67)).alloc (.cells #[.bool false, .slice none 0 0] 67)) = W at *
  have HKA := Lib.hid HW.out.1
  have HKM := Lib.hid HW.out.2.1
  have HKR := Lib.hid HW.out.2.2
  have k0 : W.cell? ⟨w.heap.size, 0, none⟩ = some (.bool b) := HKA.out.cell 0 rfl
  have k1 : W.cell? ⟨w.heap.size, 1, none⟩ = some (.slice pa lx ca) := HKA.out.cell 1 rfl
  have d0 : W.drew.cell? ⟨w.heap.size, 0, none⟩ = some (.bool b) := k0
  have d1 : W.drew.cell? ⟨w.heap.size, 1, none⟩ = some (.slice pa lx ca) := k1
  have E2 : Hid (∀ (W' : World) (v : Value), Below W.drew.heap.size W.drew W' → Nt W' v 1 → Calls Tryz.prog 124 #[.agg #[.bool false, v], .pointer (some ⟨w.heap.size + 1, 0, none⟩)] W' (IntBp false r1 W')) := fun W' v h k => C2.out W' v k (HNM.out.below h) (HKM.out.below h HKM.out.lt)
  have E3 : Hid (∀ (W' : World), Below W.drew.heap.size W.drew W' → Calls Tryz.prog 124 #[.agg #[.bool b, .slice pa lx ca], .pointer (some ⟨w.heap.size + 1, 0, none⟩)] W' (IntBp false r2 W')) := fun W' h => C3.out W' (HNX.out.below h) (HNM.out.below h) (HKM.out.below h HKM.out.lt)
  have Q0 : Hid (Below W.drew.heap.size W.drew W.drew) := Below.refl _ _
  have Q00 : Hid (Below W.drew.heap.size W.drew W) := ⟨rfl, rfl, rfl, Nat.le_refl _, fun _ _ => rfl⟩
  have HKA0 : Hid (Blk W w.heap.size 67 [.bool b, .slice pa lx ca]) := HKA.out
  have HKM0 : Hid (Blk W (w.heap.size + 1) 67 [.bool false, .slice pm' lm cm]) := HKM.out
  have HKR0 : Hid (Blk W (w.heap.size + 1 + 1) 67 [.bool false, .slice none 0 0]) := HKR.out
  have HNX0 : Hid (Nt W (.slice pa lx ca) x.natAbs) := HNX.out.below Q00.out
  have HNM0 : Hid (Nt W (.slice pm' lm cm) m.natAbs) := HNM.out.below Q00.out
  have HBW0 : Hid (Below w.heap.size w W) := bThen HBW.out Q00.out
  clear HW C2 C3
  go_cut [8, 9] (fun u8 u9 wx => ∃ (g8 g9 : Nat) (v8 v9 : Value), u8 = .pointer (some ⟨g8, 0, none⟩) ∧ u9 = .pointer (some ⟨g9, 0, none⟩) ∧ Hid (Pm w wx b (.slice pa lx ca) x (.slice pm' lm cm) m g8 g9 false v8 r1 false v9 r2))
  case first =>
    rename_i KK hKK
    have HKK := Lib.hid hKK
    clear hKK
    go_region_held3 (fun w' => w'.cell? ⟨w.heap.size, 0, none⟩ = some (.bool b) ∧ w'.cell? ⟨w.heap.size, 1, none⟩ = some (.slice pa lx ca))
      (first
        | (with_reducible exact ⟨d0, d1⟩)
        | exact ⟨Blk.cell (cs := [.bool b, .slice pa lx ca]) (e := 67) (by (repeat (first | (with_reducible exact HKA.out) | (with_reducible exact HKM.out) | (with_reducible exact HKR.out) | ((with_reducible refine newAt _ _ _ _ _ ?hg ?hl); (case hg => (simp; done)); (case hl => rfl)) | (with_reducible refine blkDrew ?_) | (with_reducible exact HKA0.out) | (with_reducible exact HKM0.out) | (with_reducible exact HKR0.out) | (with_reducible refine Blk.alloc ?_ _) | (with_reducible refine blkPair (o0 := .bool false) (o1 := .slice none 0 0) ?_) | ((with_reducible refine blkOther ?_ ?hne); (case hne => omega)) | ((with_reducible refine blkDown (X := ?_) ?_ ?hdn); (case hdn => (first | (with_reducible exact hb3) | (with_reducible exact hb2) | (with_reducible exact hb1))))))) 0 rfl, Blk.cell (cs := [.bool b, .slice pa lx ca]) (e := 67) (by (repeat (first | (with_reducible exact HKA.out) | (with_reducible exact HKM.out) | (with_reducible exact HKR.out) | ((with_reducible refine newAt _ _ _ _ _ ?hg ?hl); (case hg => (simp; done)); (case hl => rfl)) | (with_reducible refine blkDrew ?_) | (with_reducible exact HKA0.out) | (with_reducible exact HKM0.out) | (with_reducible exact HKR0.out) | (with_reducible refine Blk.alloc ?_ _) | (with_reducible refine blkPair (o0 := .bool false) (o1 := .slice none 0 0) ?_) | ((with_reducible refine blkOther ?_ ?hne); (case hne => omega)) | ((with_reducible refine blkDown (X := ?_) ?_ ?hdn); (case hdn => (first | (with_reducible exact hb3) | (with_reducible exact hb2) | (with_reducible exact hb1))))))) 1 rfl⟩
        | fail "nokeep")
      (first
        | (go_at_call 123; (with_reducible refine (t123 _).mono ?_); rintro e w1 ⟨v1, rfl, hv1, hb1⟩; obtain ⟨p1, c1, rfl, -, -, -⟩ := hv1.cells; have q1 : Below W.drew.heap.size W.drew w1 := (by (repeat (first | (with_reducible exact Q0.out) | (with_reducible exact Q00.out) | (with_reducible refine belDrew ?_) | (with_reducible exact q1) | (with_reducible exact q2) | (with_reducible refine belAl ?_) | ((with_reducible refine belDown (X := ?_) ?_ ?hdn); (case hdn => (first | (with_reducible exact hb3) | (with_reducible exact hb2) | (with_reducible exact hb1))))))); have z1 := hb1.size; (try (simp at z1)))
        | (go_at_call 124; (with_reducible refine (E2.out _ _ q1 hv1).mono ?_); rintro e w2 ⟨v2, rfl, hv2, hb2⟩; obtain ⟨p2, c2, rfl, -, -, -⟩ := hv2.cells; have q2 : Below W.drew.heap.size W.drew w2 := (by (repeat (first | (with_reducible exact Q0.out) | (with_reducible exact Q00.out) | (with_reducible refine belDrew ?_) | (with_reducible exact q1) | (with_reducible exact q2) | (with_reducible refine belAl ?_) | ((with_reducible refine belDown (X := ?_) ?_ ?hdn); (case hdn => (first | (with_reducible exact hb3) | (with_reducible exact hb2) | (with_reducible exact hb1))))))); have z2 := hb2.size; (try (simp at z2)))
        | (go_at_call 124; (with_reducible refine (E2.out _ _ (bAl q1 _) (ntAl hv1)).mono ?_); rintro e w2 ⟨v2, rfl, hv2, hb2⟩; obtain ⟨p2, c2, rfl, -, -, -⟩ := hv2.cells; have q2 : Below W.drew.heap.size W.drew w2 := (by (repeat (first | (with_reducible exact Q0.out) | (with_reducible exact Q00.out) | (with_reducible refine belDrew ?_) | (with_reducible exact q1) | (with_reducible exact q2) | (with_reducible refine belAl ?_) | ((with_reducible refine belDown (X := ?_) ?_ ?hdn); (case hdn => (first | (with_reducible exact hb3) | (with_reducible exact hb2) | (with_reducible exact hb1))))))); have z2 := hb2.size; (try (simp at z2)))
        | (go_at_call 124; (with_reducible refine (E2.out _ _ (bAl (bAl q1 _) _) (ntAl (ntAl hv1))).mono ?_); rintro e w2 ⟨v2, rfl, hv2, hb2⟩; obtain ⟨p2, c2, rfl, -, -, -⟩ := hv2.cells; have q2 : Below W.drew.heap.size W.drew w2 := (by (repeat (first | (with_reducible exact Q0.out) | (with_reducible exact Q00.out) | (with_reducible refine belDrew ?_) | (with_reducible exact q1) | (with_reducible exact q2) | (with_reducible refine belAl ?_) | ((with_reducible refine belDown (X := ?_) ?_ ?hdn); (case hdn => (first | (with_reducible exact hb3) | (with_reducible exact hb2) | (with_reducible exact hb1))))))); have z2 := hb2.size; (try (simp at z2)))
        | (go_at_call 124; (with_reducible refine (E3.out _ q2).mono ?_); rintro e w3 ⟨v3, rfl, hv3, hb3⟩; obtain ⟨p3, c3, rfl, -, -, -⟩ := hv3.cells; have q3 : Below W.drew.heap.size W.drew w3 := (by (repeat (first | (with_reducible exact Q0.out) | (with_reducible exact Q00.out) | (with_reducible refine belDrew ?_) | (with_reducible exact q1) | (with_reducible exact q2) | (with_reducible refine belAl ?_) | ((with_reducible refine belDown (X := ?_) ?_ ?hdn); (case hdn => (first | (with_reducible exact hb3) | (with_reducible exact hb2) | (with_reducible exact hb1))))))); have z3 := hb3.size; (try (simp at z3)); (try ((refine have_then (T := Blk w3 (W.heap.size) 67 [.bool false, .slice none 0 0]) ?kk ?_); (case kk => ((repeat (first | (with_reducible exact HKA.out) | (with_reducible exact HKM.out) | (with_reducible exact HKR.out) | ((with_reducible refine newAt _ _ _ _ _ ?hg ?hl); (case hg => (simp; done)); (case hl => rfl)) | (with_reducible refine blkDrew ?_) | (with_reducible exact HKA0.out) | (with_reducible exact HKM0.out) | (with_reducible exact HKR0.out) | (with_reducible refine Blk.alloc ?_ _) | (with_reducible refine blkPair (o0 := .bool false) (o1 := .slice none 0 0) ?_) | ((with_reducible refine blkOther ?_ ?hne); (case hne => omega)) | ((with_reducible refine blkDown (X := ?_) ?_ ?hdn); (case hdn => (first | (with_reducible exact hb3) | (with_reducible exact hb2) | (with_reducible exact hb1)))))); done)); (intro k0); (have HK0 := Lib.hid k0); (have a0 := fun o : Obj => k0.alloc o); (have r00 := k0.cell 0 rfl); (have r01 := k0.cell 1 rfl); (have f00 := k0.free 0); (have f01 := k0.free 1); (have s00 := fun o => (a0 o).cell 0 rfl); (have s01 := fun o => (a0 o).cell 1 rfl); (have t00 := fun o => (a0 o).free 0); (have t01 := fun o => (a0 o).free 1); clear a0 k0)); (try ((refine have_then (T := Blk w3 (W.heap.size + 1) 67 [.bool false, .slice none 0 0]) ?kk ?_); (case kk => ((repeat (first | (with_reducible exact HKA.out) | (with_reducible exact HKM.out) | (with_reducible exact HKR.out) | ((with_reducible refine newAt _ _ _ _ _ ?hg ?hl); (case hg => (simp; done)); (case hl => rfl)) | (with_reducible refine blkDrew ?_) | (with_reducible exact HKA0.out) | (with_reducible exact HKM0.out) | (with_reducible exact HKR0.out) | (with_reducible refine Blk.alloc ?_ _) | (with_reducible refine blkPair (o0 := .bool false) (o1 := .slice none 0 0) ?_) | ((with_reducible refine blkOther ?_ ?hne); (case hne => omega)) | ((with_reducible refine blkDown (X := ?_) ?_ ?hdn); (case hdn => (first | (with_reducible exact hb3) | (with_reducible exact hb2) | (with_reducible exact hb1)))))); done)); (intro k1); (have HK1 := Lib.hid k1); (have a1 := fun o : Obj => k1.alloc o); (have r10 := k1.cell 0 rfl); (have r11 := k1.cell 1 rfl); (have f10 := k1.free 0); (have f11 := k1.free 1); (have s10 := fun o => (a1 o).cell 0 rfl); (have s11 := fun o => (a1 o).cell 1 rfl); (have t10 := fun o => (a1 o).free 0); (have t11 := fun o => (a1 o).free 1); clear a1 k1)); (try ((refine have_then (T := Blk w3 (w1.heap.size) 67 [.bool false, .slice none 0 0]) ?kk ?_); (case kk => ((repeat (first | (with_reducible exact HKA.out) | (with_reducible exact HKM.out) | (with_reducible exact HKR.out) | ((with_reducible refine newAt _ _ _ _ _ ?hg ?hl); (case hg => (simp; done)); (case hl => rfl)) | (with_reducible refine blkDrew ?_) | (with_reducible exact HKA0.out) | (with_reducible exact HKM0.out) | (with_reducible exact HKR0.out) | (with_reducible refine Blk.alloc ?_ _) | (with_reducible refine blkPair (o0 := .bool false) (o1 := .slice none 0 0) ?_) | ((with_reducible refine blkOther ?_ ?hne); (case hne => omega)) | ((with_reducible refine blkDown (X := ?_) ?_ ?hdn); (case hdn => (first | (with_reducible exact hb3) | (with_reducible exact hb2) | (with_reducible exact hb1)))))); done)); (intro k2); (have HK2 := Lib.hid k2); (have a2 := fun o : Obj => k2.alloc o); (have r20 := k2.cell 0 rfl); (have r21 := k2.cell 1 rfl); (have f20 := k2.free 0); (have f21 := k2.free 1); (have s20 := fun o => (a2 o).cell 0 rfl); (have s21 := fun o => (a2 o).cell 1 rfl); (have t20 := fun o => (a2 o).free 0); (have t21 := fun o => (a2 o).free 1); clear a2 k2)); (try ((refine have_then (T := Blk w3 (w1.heap.size + 1) 67 [.bool false, .slice none 0 0]) ?kk ?_); (case kk => ((repeat (first | (with_reducible exact HKA.out) | (with_reducible exact HKM.out) | (with_reducible exact HKR.out) | ((with_reducible refine newAt _ _ _ _ _ ?hg ?hl); (case hg => (simp; done)); (case hl => rfl)) | (with_reducible refine blkDrew ?_) | (with_reducible exact HKA0.out) | (with_reducible exact HKM0.out) | (with_reducible exact HKR0.out) | (with_reducible refine Blk.alloc ?_ _) | (with_reducible refine blkPair (o0 := .bool false) (o1 := .slice none 0 0) ?_) | ((with_reducible refine blkOther ?_ ?hne); (case hne => omega)) | ((with_reducible refine blkDown (X := ?_) ?_ ?hdn); (case hdn => (first | (with_reducible exact hb3) | (with_reducible exact hb2) | (with_reducible exact hb1)))))); done)); (intro k3); (have HK3 := Lib.hid k3); (have a3 := fun o : Obj => k3.alloc o); (have r30 := k3.cell 0 rfl); (have r31 := k3.cell 1 rfl); (have f30 := k3.free 0); (have f31 := k3.free 1); (have s30 := fun o => (a3 o).cell 0 rfl); (have s31 := fun o => (a3 o).cell 1 rfl); (have t30 := fun o => (a3 o).free 0); (have t31 := fun o => (a3 o).free 1); clear a3 k3)); (try ((refine have_then (T := Blk w3 (w2.heap.size) 67 [.bool false, .slice none 0 0]) ?kk ?_); (case kk => ((repeat (first | (with_reducible exact HKA.out) | (with_reducible exact HKM.out) | (with_reducible exact HKR.out) | ((with_reducible refine newAt _ _ _ _ _ ?hg ?hl); (case hg => (simp; done)); (case hl => rfl)) | (with_reducible refine blkDrew ?_) | (with_reducible exact HKA0.out) | (with_reducible exact HKM0.out) | (with_reducible exact HKR0.out) | (with_reducible refine Blk.alloc ?_ _) | (with_reducible refine blkPair (o0 := .bool false) (o1 := .slice none 0 0) ?_) | ((with_reducible refine blkOther ?_ ?hne); (case hne => omega)) | ((with_reducible refine blkDown (X := ?_) ?_ ?hdn); (case hdn => (first | (with_reducible exact hb3) | (with_reducible exact hb2) | (with_reducible exact hb1)))))); done)); (intro k4); (have HK4 := Lib.hid k4); (have a4 := fun o : Obj => k4.alloc o); (have r40 := k4.cell 0 rfl); (have r41 := k4.cell 1 rfl); (have f40 := k4.free 0); (have f41 := k4.free 1); (have s40 := fun o => (a4 o).cell 0 rfl); (have s41 := fun o => (a4 o).cell 1 rfl); (have t40 := fun o => (a4 o).free 0); (have t41 := fun o => (a4 o).free 1); clear a4 k4)); (try ((refine have_then (T := Blk w3 (w2.heap.size + 1) 67 [.bool false, .slice none 0 0]) ?kk ?_); (case kk => ((repeat (first | (with_reducible exact HKA.out) | (with_reducible exact HKM.out) | (with_reducible exact HKR.out) | ((with_reducible refine newAt _ _ _ _ _ ?hg ?hl); (case hg => (simp; done)); (case hl => rfl)) | (with_reducible refine blkDrew ?_) | (with_reducible exact HKA0.out) | (with_reducible exact HKM0.out) | (with_reducible exact HKR0.out) | (with_reducible refine Blk.alloc ?_ _) | (with_reducible refine blkPair (o0 := .bool false) (o1 := .slice none 0 0) ?_) | ((with_reducible refine blkOther ?_ ?hne); (case hne => omega)) | ((with_reducible refine blkDown (X := ?_) ?_ ?hdn); (case hdn => (first | (with_reducible exact hb3) | (with_reducible exact hb2) | (with_reducible exact hb1)))))); done)); (intro k5); (have HK5 := Lib.hid k5); (have a5 := fun o : Obj => k5.alloc o); (have r50 := k5.cell 0 rfl); (have r51 := k5.cell 1 rfl); (have f50 := k5.free 0); (have f51 := k5.free 1); (have s50 := fun o => (a5 o).cell 0 rfl); (have s51 := fun o => (a5 o).cell 1 rfl); (have t50 := fun o => (a5 o).free 0); (have t51 := fun o => (a5 o).free 1); clear a5 k5)); (try ((have kk0 := HK0.out); (have kk1 := HK1.out); (refine have_then (T := W.heap.size + 1 ≠ W.heap.size) ?kk ?_); (case kk => omega); (intro hne); (have a01 := fun (u v : Value) => blkOther (a := u) (b := v) kk1 hne); (have u010 := fun u v => (a01 u v).cell 0 rfl); (have u011 := fun u v => (a01 u v).cell 1 rfl); (have v010 := fun u v => (a01 u v).free 0); (have v011 := fun u v => (a01 u v).free 1); clear a01 hne kk0 kk1)); (try ((have kk0 := HK0.out); (have kk2 := HK2.out); (refine have_then (T := w1.heap.size ≠ W.heap.size) ?kk ?_); (case kk => omega); (intro hne); (have a02 := fun (u v : Value) => blkOther (a := u) (b := v) kk2 hne); (have u020 := fun u v => (a02 u v).cell 0 rfl); (have u021 := fun u v => (a02 u v).cell 1 rfl); (have v020 := fun u v => (a02 u v).free 0); (have v021 := fun u v => (a02 u v).free 1); clear a02 hne kk0 kk2)); (try ((have kk0 := HK0.out); (have kk3 := HK3.out); (refine have_then (T := w1.heap.size + 1 ≠ W.heap.size) ?kk ?_); (case kk => omega); (intro hne); (have a03 := fun (u v : Value) => blkOther (a := u) (b := v) kk3 hne); (have u030 := fun u v => (a03 u v).cell 0 rfl); (have u031 := fun u v => (a03 u v).cell 1 rfl); (have v030 := fun u v => (a03 u v).free 0); (have v031 := fun u v => (a03 u v).free 1); clear a03 hne kk0 kk3)); (try ((have kk0 := HK0.out); (have kk4 := HK4.out); (refine have_then (T := w2.heap.size ≠ W.heap.size) ?kk ?_); (case kk => omega); (intro hne); (have a04 := fun (u v : Value) => blkOther (a := u) (b := v) kk4 hne); (have u040 := fun u v => (a04 u v).cell 0 rfl); (have u041 := fun u v => (a04 u v).cell 1 rfl); (have v040 := fun u v => (a04 u v).free 0); (have v041 := fun u v => (a04 u v).free 1); clear a04 hne kk0 kk4)); (try ((have kk0 := HK0.out); (have kk5 := HK5.out); (refine have_then (T := w2.heap.size + 1 ≠ W.heap.size) ?kk ?_); (case kk => omega); (intro hne); (have a05 := fun (u v : Value) => blkOther (a := u) (b := v) kk5 hne); (have u050 := fun u v => (a05 u v).cell 0 rfl); (have u051 := fun u v => (a05 u v).cell 1 rfl); (have v050 := fun u v => (a05 u v).free 0); (have v051 := fun u v => (a05 u v).free 1); clear a05 hne kk0 kk5)); (try ((have kk1 := HK1.out); (have kk0 := HK0.out); (refine have_then (T := W.heap.size ≠ W.heap.size + 1) ?kk ?_); (case kk => omega); (intro hne); (have a10 := fun (u v : Value) => blkOther (a := u) (b := v) kk0 hne); (have u100 := fun u v => (a10 u v).cell 0 rfl); (have u101 := fun u v => (a10 u v).cell 1 rfl); (have v100 := fun u v => (a10 u v).free 0); (have v101 := fun u v => (a10 u v).free 1); clear a10 hne kk1 kk0)); (try ((have kk1 := HK1.out); (have kk2 := HK2.out); (refine have_then (T := w1.heap.size ≠ W.heap.size + 1) ?kk ?_); (case kk => omega); (intro hne); (have a12 := fun (u v : Value) => blkOther (a := u) (b := v) kk2 hne); (have u120 := fun u v => (a12 u v).cell 0 rfl); (have u121 := fun u v => (a12 u v).cell 1 rfl); (have v120 := fun u v => (a12 u v).free 0); (have v121 := fun u v => (a12 u v).free 1); clear a12 hne kk1 kk2)); (try ((have kk1 := HK1.out); (have kk3 := HK3.out); (refine have_then (T := w1.heap.size + 1 ≠ W.heap.size + 1) ?kk ?_); (case kk => omega); (intro hne); (have a13 := fun (u v : Value) => blkOther (a := u) (b := v) kk3 hne); (have u130 := fun u v => (a13 u v).cell 0 rfl); (have u131 := fun u v => (a13 u v).cell 1 rfl); (have v130 := fun u v => (a13 u v).free 0); (have v131 := fun u v => (a13 u v).free 1); clear a13 hne kk1 kk3)); (try ((have kk1 := HK1.out); (have kk4 := HK4.out); (refine have_then (T := w2.heap.size ≠ W.heap.size + 1) ?kk ?_); (case kk => omega); (intro hne); (have a14 := fun (u v : Value) => blkOther (a := u) (b := v) kk4 hne); (have u140 := fun u v => (a14 u v).cell 0 rfl); (have u141 := fun u v => (a14 u v).cell 1 rfl); (have v140 := fun u v => (a14 u v).free 0); (have v141 := fun u v => (a14 u v).free 1); clear a14 hne kk1 kk4)); (try ((have kk1 := HK1.out); (have kk5 := HK5.out); (refine have_then (T := w2.heap.size + 1 ≠ W.heap.size + 1) ?kk ?_); (case kk => omega); (intro hne); (have a15 := fun (u v : Value) => blkOther (a := u) (b := v) kk5 hne); (have u150 := fun u v => (a15 u v).cell 0 rfl); (have u151 := fun u v => (a15 u v).cell 1 rfl); (have v150 := fun u v => (a15 u v).free 0); (have v151 := fun u v => (a15 u v).free 1); clear a15 hne kk1 kk5)); (try ((have kk2 := HK2.out); (have kk0 := HK0.out); (refine have_then (T := W.heap.size ≠ w1.heap.size) ?kk ?_); (case kk => omega); (intro hne); (have a20 := fun (u v : Value) => blkOther (a := u) (b := v) kk0 hne); (have u200 := fun u v => (a20 u v).cell 0 rfl); (have u201 := fun u v => (a20 u v).cell 1 rfl); (have v200 := fun u v => (a20 u v).free 0); (have v201 := fun u v => (a20 u v).free 1); clear a20 hne kk2 kk0)); (try ((have kk2 := HK2.out); (have kk1 := HK1.out); (refine have_then (T := W.heap.size + 1 ≠ w1.heap.size) ?kk ?_); (case kk => omega); (intro hne); (have a21 := fun (u v : Value) => blkOther (a := u) (b := v) kk1 hne); (have u210 := fun u v => (a21 u v).cell 0 rfl); (have u211 := fun u v => (a21 u v).cell 1 rfl); (have v210 := fun u v => (a21 u v).free 0); (have v211 := fun u v => (a21 u v).free 1); clear a21 hne kk2 kk1)); (try ((have kk2 := HK2.out); (have kk3 := HK3.out); (refine have_then (T := w1.heap.size + 1 ≠ w1.heap.size) ?kk ?_); (case kk => omega); (intro hne); (have a23 := fun (u v : Value) => blkOther (a := u) (b := v) kk3 hne); (have u230 := fun u v => (a23 u v).cell 0 rfl); (have u231 := fun u v => (a23 u v).cell 1 rfl); (have v230 := fun u v => (a23 u v).free 0); (have v231 := fun u v => (a23 u v).free 1); clear a23 hne kk2 kk3)); (try ((have kk2 := HK2.out); (have kk4 := HK4.out); (refine have_then (T := w2.heap.size ≠ w1.heap.size) ?kk ?_); (case kk => omega); (intro hne); (have a24 := fun (u v : Value) => blkOther (a := u) (b := v) kk4 hne); (have u240 := fun u v => (a24 u v).cell 0 rfl); (have u241 := fun u v => (a24 u v).cell 1 rfl); (have v240 := fun u v => (a24 u v).free 0); (have v241 := fun u v => (a24 u v).free 1); clear a24 hne kk2 kk4)); (try ((have kk2 := HK2.out); (have kk5 := HK5.out); (refine have_then (T := w2.heap.size + 1 ≠ w1.heap.size) ?kk ?_); (case kk => omega); (intro hne); (have a25 := fun (u v : Value) => blkOther (a := u) (b := v) kk5 hne); (have u250 := fun u v => (a25 u v).cell 0 rfl); (have u251 := fun u v => (a25 u v).cell 1 rfl); (have v250 := fun u v => (a25 u v).free 0); (have v251 := fun u v => (a25 u v).free 1); clear a25 hne kk2 kk5)); (try ((have kk3 := HK3.out); (have kk0 := HK0.out); (refine have_then (T := W.heap.size ≠ w1.heap.size + 1) ?kk ?_); (case kk => omega); (intro hne); (have a30 := fun (u v : Value) => blkOther (a := u) (b := v) kk0 hne); (have u300 := fun u v => (a30 u v).cell 0 rfl); (have u301 := fun u v => (a30 u v).cell 1 rfl); (have v300 := fun u v => (a30 u v).free 0); (have v301 := fun u v => (a30 u v).free 1); clear a30 hne kk3 kk0)); (try ((have kk3 := HK3.out); (have kk1 := HK1.out); (refine have_then (T := W.heap.size + 1 ≠ w1.heap.size + 1) ?kk ?_); (case kk => omega); (intro hne); (have a31 := fun (u v : Value) => blkOther (a := u) (b := v) kk1 hne); (have u310 := fun u v => (a31 u v).cell 0 rfl); (have u311 := fun u v => (a31 u v).cell 1 rfl); (have v310 := fun u v => (a31 u v).free 0); (have v311 := fun u v => (a31 u v).free 1); clear a31 hne kk3 kk1)); (try ((have kk3 := HK3.out); (have kk2 := HK2.out); (refine have_then (T := w1.heap.size ≠ w1.heap.size + 1) ?kk ?_); (case kk => omega); (intro hne); (have a32 := fun (u v : Value) => blkOther (a := u) (b := v) kk2 hne); (have u320 := fun u v => (a32 u v).cell 0 rfl); (have u321 := fun u v => (a32 u v).cell 1 rfl); (have v320 := fun u v => (a32 u v).free 0); (have v321 := fun u v => (a32 u v).free 1); clear a32 hne kk3 kk2)); (try ((have kk3 := HK3.out); (have kk4 := HK4.out); (refine have_then (T := w2.heap.size ≠ w1.heap.size + 1) ?kk ?_); (case kk => omega); (intro hne); (have a34 := fun (u v : Value) => blkOther (a := u) (b := v) kk4 hne); (have u340 := fun u v => (a34 u v).cell 0 rfl); (have u341 := fun u v => (a34 u v).cell 1 rfl); (have v340 := fun u v => (a34 u v).free 0); (have v341 := fun u v => (a34 u v).free 1); clear a34 hne kk3 kk4)); (try ((have kk3 := HK3.out); (have kk5 := HK5.out); (refine have_then (T := w2.heap.size + 1 ≠ w1.heap.size + 1) ?kk ?_); (case kk => omega); (intro hne); (have a35 := fun (u v : Value) => blkOther (a := u) (b := v) kk5 hne); (have u350 := fun u v => (a35 u v).cell 0 rfl); (have u351 := fun u v => (a35 u v).cell 1 rfl); (have v350 := fun u v => (a35 u v).free 0); (have v351 := fun u v => (a35 u v).free 1); clear a35 hne kk3 kk5)); (try ((have kk4 := HK4.out); (have kk0 := HK0.out); (refine have_then (T := W.heap.size ≠ w2.heap.size) ?kk ?_); (case kk => omega); (intro hne); (have a40 := fun (u v : Value) => blkOther (a := u) (b := v) kk0 hne); (have u400 := fun u v => (a40 u v).cell 0 rfl); (have u401 := fun u v => (a40 u v).cell 1 rfl); (have v400 := fun u v => (a40 u v).free 0); (have v401 := fun u v => (a40 u v).free 1); clear a40 hne kk4 kk0)); (try ((have kk4 := HK4.out); (have kk1 := HK1.out); (refine have_then (T := W.heap.size + 1 ≠ w2.heap.size) ?kk ?_); (case kk => omega); (intro hne); (have a41 := fun (u v : Value) => blkOther (a := u) (b := v) kk1 hne); (have u410 := fun u v => (a41 u v).cell 0 rfl); (have u411 := fun u v => (a41 u v).cell 1 rfl); (have v410 := fun u v => (a41 u v).free 0); (have v411 := fun u v => (a41 u v).free 1); clear a41 hne kk4 kk1)); (try ((have kk4 := HK4.out); (have kk2 := HK2.out); (refine have_then (T := w1.heap.size ≠ w2.heap.size) ?kk ?_); (case kk => omega); (intro hne); (have a42 := fun (u v : Value) => blkOther (a := u) (b := v) kk2 hne); (have u420 := fun u v => (a42 u v).cell 0 rfl); (have u421 := fun u v => (a42 u v).cell 1 rfl); (have v420 := fun u v => (a42 u v).free 0); (have v421 := fun u v => (a42 u v).free 1); clear a42 hne kk4 kk2)); (try ((have kk4 := HK4.out); (have kk3 := HK3.out); (refine have_then (T := w1.heap.size + 1 ≠ w2.heap.size) ?kk ?_); (case kk => omega); (intro hne); (have a43 := fun (u v : Value) => blkOther (a := u) (b := v) kk3 hne); (have u430 := fun u v => (a43 u v).cell 0 rfl); (have u431 := fun u v => (a43 u v).cell 1 rfl); (have v430 := fun u v => (a43 u v).free 0); (have v431 := fun u v => (a43 u v).free 1); clear a43 hne kk4 kk3)); (try ((have kk4 := HK4.out); (have kk5 := HK5.out); (refine have_then (T := w2.heap.size + 1 ≠ w2.heap.size) ?kk ?_); (case kk => omega); (intro hne); (have a45 := fun (u v : Value) => blkOther (a := u) (b := v) kk5 hne); (have u450 := fun u v => (a45 u v).cell 0 rfl); (have u451 := fun u v => (a45 u v).cell 1 rfl); (have v450 := fun u v => (a45 u v).free 0); (have v451 := fun u v => (a45 u v).free 1); clear a45 hne kk4 kk5)); (try ((have kk5 := HK5.out); (have kk0 := HK0.out); (refine have_then (T := W.heap.size ≠ w2.heap.size + 1) ?kk ?_); (case kk => omega); (intro hne); (have a50 := fun (u v : Value) => blkOther (a := u) (b := v) kk0 hne); (have u500 := fun u v => (a50 u v).cell 0 rfl); (have u501 := fun u v => (a50 u v).cell 1 rfl); (have v500 := fun u v => (a50 u v).free 0); (have v501 := fun u v => (a50 u v).free 1); clear a50 hne kk5 kk0)); (try ((have kk5 := HK5.out); (have kk1 := HK1.out); (refine have_then (T := W.heap.size + 1 ≠ w2.heap.size + 1) ?kk ?_); (case kk => omega); (intro hne); (have a51 := fun (u v : Value) => blkOther (a := u) (b := v) kk1 hne); (have u510 := fun u v => (a51 u v).cell 0 rfl); (have u511 := fun u v => (a51 u v).cell 1 rfl); (have v510 := fun u v => (a51 u v).free 0); (have v511 := fun u v => (a51 u v).free 1); clear a51 hne kk5 kk1)); (try ((have kk5 := HK5.out); (have kk2 := HK2.out); (refine have_then (T := w1.heap.size ≠ w2.heap.size + 1) ?kk ?_); (case kk => omega); (intro hne); (have a52 := fun (u v : Value) => blkOther (a := u) (b := v) kk2 hne); (have u520 := fun u v => (a52 u v).cell 0 rfl); (have u521 := fun u v => (a52 u v).cell 1 rfl); (have v520 := fun u v => (a52 u v).free 0); (have v521 := fun u v => (a52 u v).free 1); clear a52 hne kk5 kk2)); (try ((have kk5 := HK5.out); (have kk3 := HK3.out); (refine have_then (T := w1.heap.size + 1 ≠ w2.heap.size + 1) ?kk ?_); (case kk => omega); (intro hne); (have a53 := fun (u v : Value) => blkOther (a := u) (b := v) kk3 hne); (have u530 := fun u v => (a53 u v).cell 0 rfl); (have u531 := fun u v => (a53 u v).cell 1 rfl); (have v530 := fun u v => (a53 u v).free 0); (have v531 := fun u v => (a53 u v).free 1); clear a53 hne kk5 kk3)); (try ((have kk5 := HK5.out); (have kk4 := HK4.out); (refine have_then (T := w2.heap.size ≠ w2.heap.size + 1) ?kk ?_); (case kk => omega); (intro hne); (have a54 := fun (u v : Value) => blkOther (a := u) (b := v) kk4 hne); (have u540 := fun u v => (a54 u v).cell 0 rfl); (have u541 := fun u v => (a54 u v).cell 1 rfl); (have v540 := fun u v => (a54 u v).free 0); (have v541 := fun u v => (a54 u v).free 1); clear a54 hne kk5 kk4)))
        | (go_at_call 124; (with_reducible refine (E3.out _ (bAl q2 _)).mono ?_); rintro e w3 ⟨v3, rfl, hv3, hb3⟩; obtain ⟨p3, c3, rfl, -, -, -⟩ := hv3.cells; have q3 : Below W.drew.heap.size W.drew w3 := (by (repeat (first | (with_reducible exact Q0.out) | (with_reducible exact Q00.out) | (with_reducible refine belDrew ?_) | (with_reducible exact q1) | (with_reducible exact q2) | (with_reducible refine belAl ?_) | ((with_reducible refine belDown (X := ?_) ?_ ?hdn); (case hdn => (first | (with_reducible exact hb3) | (with_reducible exact hb2) | (with_reducible exact hb1))))))); have z3 := hb3.size; (try (simp at z3)); (try ((refine have_then (T := Blk w3 (W.heap.size) 67 [.bool false, .slice none 0 0]) ?kk ?_); (case kk => ((repeat (first | (with_reducible exact HKA.out) | (with_reducible exact HKM.out) | (with_reducible exact HKR.out) | ((with_reducible refine newAt _ _ _ _ _ ?hg ?hl); (case hg => (simp; done)); (case hl => rfl)) | (with_reducible refine blkDrew ?_) | (with_reducible exact HKA0.out) | (with_reducible exact HKM0.out) | (with_reducible exact HKR0.out) | (with_reducible refine Blk.alloc ?_ _) | (with_reducible refine blkPair (o0 := .bool false) (o1 := .slice none 0 0) ?_) | ((with_reducible refine blkOther ?_ ?hne); (case hne => omega)) | ((with_reducible refine blkDown (X := ?_) ?_ ?hdn); (case hdn => (first | (with_reducible exact hb3) | (with_reducible exact hb2) | (with_reducible exact hb1)))))); done)); (intro k0); (have HK0 := Lib.hid k0); (have a0 := fun o : Obj => k0.alloc o); (have r00 := k0.cell 0 rfl); (have r01 := k0.cell 1 rfl); (have f00 := k0.free 0); (have f01 := k0.free 1); (have s00 := fun o => (a0 o).cell 0 rfl); (have s01 := fun o => (a0 o).cell 1 rfl); (have t00 := fun o => (a0 o).free 0); (have t01 := fun o => (a0 o).free 1); clear a0 k0)); (try ((refine have_then (T := Blk w3 (W.heap.size + 1) 67 [.bool false, .slice none 0 0]) ?kk ?_); (case kk => ((repeat (first | (with_reducible exact HKA.out) | (with_reducible exact HKM.out) | (with_reducible exact HKR.out) | ((with_reducible refine newAt _ _ _ _ _ ?hg ?hl); (case hg => (simp; done)); (case hl => rfl)) | (with_reducible refine blkDrew ?_) | (with_reducible exact HKA0.out) | (with_reducible exact HKM0.out) | (with_reducible exact HKR0.out) | (with_reducible refine Blk.alloc ?_ _) | (with_reducible refine blkPair (o0 := .bool false) (o1 := .slice none 0 0) ?_) | ((with_reducible refine blkOther ?_ ?hne); (case hne => omega)) | ((with_reducible refine blkDown (X := ?_) ?_ ?hdn); (case hdn => (first | (with_reducible exact hb3) | (with_reducible exact hb2) | (with_reducible exact hb1)))))); done)); (intro k1); (have HK1 := Lib.hid k1); (have a1 := fun o : Obj => k1.alloc o); (have r10 := k1.cell 0 rfl); (have r11 := k1.cell 1 rfl); (have f10 := k1.free 0); (have f11 := k1.free 1); (have s10 := fun o => (a1 o).cell 0 rfl); (have s11 := fun o => (a1 o).cell 1 rfl); (have t10 := fun o => (a1 o).free 0); (have t11 := fun o => (a1 o).free 1); clear a1 k1)); (try ((refine have_then (T := Blk w3 (w1.heap.size) 67 [.bool false, .slice none 0 0]) ?kk ?_); (case kk => ((repeat (first | (with_reducible exact HKA.out) | (with_reducible exact HKM.out) | (with_reducible exact HKR.out) | ((with_reducible refine newAt _ _ _ _ _ ?hg ?hl); (case hg => (simp; done)); (case hl => rfl)) | (with_reducible refine blkDrew ?_) | (with_reducible exact HKA0.out) | (with_reducible exact HKM0.out) | (with_reducible exact HKR0.out) | (with_reducible refine Blk.alloc ?_ _) | (with_reducible refine blkPair (o0 := .bool false) (o1 := .slice none 0 0) ?_) | ((with_reducible refine blkOther ?_ ?hne); (case hne => omega)) | ((with_reducible refine blkDown (X := ?_) ?_ ?hdn); (case hdn => (first | (with_reducible exact hb3) | (with_reducible exact hb2) | (with_reducible exact hb1)))))); done)); (intro k2); (have HK2 := Lib.hid k2); (have a2 := fun o : Obj => k2.alloc o); (have r20 := k2.cell 0 rfl); (have r21 := k2.cell 1 rfl); (have f20 := k2.free 0); (have f21 := k2.free 1); (have s20 := fun o => (a2 o).cell 0 rfl); (have s21 := fun o => (a2 o).cell 1 rfl); (have t20 := fun o => (a2 o).free 0); (have t21 := fun o => (a2 o).free 1); clear a2 k2)); (try ((refine have_then (T := Blk w3 (w1.heap.size + 1) 67 [.bool false, .slice none 0 0]) ?kk ?_); (case kk => ((repeat (first | (with_reducible exact HKA.out) | (with_reducible exact HKM.out) | (with_reducible exact HKR.out) | ((with_reducible refine newAt _ _ _ _ _ ?hg ?hl); (case hg => (simp; done)); (case hl => rfl)) | (with_reducible refine blkDrew ?_) | (with_reducible exact HKA0.out) | (with_reducible exact HKM0.out) | (with_reducible exact HKR0.out) | (with_reducible refine Blk.alloc ?_ _) | (with_reducible refine blkPair (o0 := .bool false) (o1 := .slice none 0 0) ?_) | ((with_reducible refine blkOther ?_ ?hne); (case hne => omega)) | ((with_reducible refine blkDown (X := ?_) ?_ ?hdn); (case hdn => (first | (with_reducible exact hb3) | (with_reducible exact hb2) | (with_reducible exact hb1)))))); done)); (intro k3); (have HK3 := Lib.hid k3); (have a3 := fun o : Obj => k3.alloc o); (have r30 := k3.cell 0 rfl); (have r31 := k3.cell 1 rfl); (have f30 := k3.free 0); (have f31 := k3.free 1); (have s30 := fun o => (a3 o).cell 0 rfl); (have s31 := fun o => (a3 o).cell 1 rfl); (have t30 := fun o => (a3 o).free 0); (have t31 := fun o => (a3 o).free 1); clear a3 k3)); (try ((refine have_then (T := Blk w3 (w2.heap.size) 67 [.bool false, .slice none 0 0]) ?kk ?_); (case kk => ((repeat (first | (with_reducible exact HKA.out) | (with_reducible exact HKM.out) | (with_reducible exact HKR.out) | ((with_reducible refine newAt _ _ _ _ _ ?hg ?hl); (case hg => (simp; done)); (case hl => rfl)) | (with_reducible refine blkDrew ?_) | (with_reducible exact HKA0.out) | (with_reducible exact HKM0.out) | (with_reducible exact HKR0.out) | (with_reducible refine Blk.alloc ?_ _) | (with_reducible refine blkPair (o0 := .bool false) (o1 := .slice none 0 0) ?_) | ((with_reducible refine blkOther ?_ ?hne); (case hne => omega)) | ((with_reducible refine blkDown (X := ?_) ?_ ?hdn); (case hdn => (first | (with_reducible exact hb3) | (with_reducible exact hb2) | (with_reducible exact hb1)))))); done)); (intro k4); (have HK4 := Lib.hid k4); (have a4 := fun o : Obj => k4.alloc o); (have r40 := k4.cell 0 rfl); (have r41 := k4.cell 1 rfl); (have f40 := k4.free 0); (have f41 := k4.free 1); (have s40 := fun o => (a4 o).cell 0 rfl); (have s41 := fun o => (a4 o).cell 1 rfl); (have t40 := fun o => (a4 o).free 0); (have t41 := fun o => (a4 o).free 1); clear a4 k4)); (try ((refine have_then (T := Blk w3 (w2.heap.size + 1) 67 [.bool false, .slice none 0 0]) ?kk ?_); (case kk => ((repeat (first | (with_reducible exact HKA.out) | (with_reducible exact HKM.out) | (with_reducible exact HKR.out) | ((with_reducible refine newAt _ _ _ _ _ ?hg ?hl); (case hg => (simp; done)); (case hl => rfl)) | (with_reducible refine blkDrew ?_) | (with_reducible exact HKA0.out) | (with_reducible exact HKM0.out) | (with_reducible exact HKR0.out) | (with_reducible refine Blk.alloc ?_ _) | (with_reducible refine blkPair (o0 := .bool false) (o1 := .slice none 0 0) ?_) | ((with_reducible refine blkOther ?_ ?hne); (case hne => omega)) | ((with_reducible refine blkDown (X := ?_) ?_ ?hdn); (case hdn => (first | (with_reducible exact hb3) | (with_reducible exact hb2) | (with_reducible exact hb1)))))); done)); (intro k5); (have HK5 := Lib.hid k5); (have a5 := fun o : Obj => k5.alloc o); (have r50 := k5.cell 0 rfl); (have r51 := k5.cell 1 rfl); (have f50 := k5.free 0); (have f51 := k5.free 1); (have s50 := fun o => (a5 o).cell 0 rfl); (have s51 := fun o => (a5 o).cell 1 rfl); (have t50 := fun o => (a5 o).free 0); (have t51 := fun o => (a5 o).free 1); clear a5 k5)); (try ((have kk0 := HK0.out); (have kk1 := HK1.out); (refine have_then (T := W.heap.size + 1 ≠ W.heap.size) ?kk ?_); (case kk => omega); (intro hne); (have a01 := fun (u v : Value) => blkOther (a := u) (b := v) kk1 hne); (have u010 := fun u v => (a01 u v).cell 0 rfl); (have u011 := fun u v => (a01 u v).cell 1 rfl); (have v010 := fun u v => (a01 u v).free 0); (have v011 := fun u v => (a01 u v).free 1); clear a01 hne kk0 kk1)); (try ((have kk0 := HK0.out); (have kk2 := HK2.out); (refine have_then (T := w1.heap.size ≠ W.heap.size) ?kk ?_); (case kk => omega); (intro hne); (have a02 := fun (u v : Value) => blkOther (a := u) (b := v) kk2 hne); (have u020 := fun u v => (a02 u v).cell 0 rfl); (have u021 := fun u v => (a02 u v).cell 1 rfl); (have v020 := fun u v => (a02 u v).free 0); (have v021 := fun u v => (a02 u v).free 1); clear a02 hne kk0 kk2)); (try ((have kk0 := HK0.out); (have kk3 := HK3.out); (refine have_then (T := w1.heap.size + 1 ≠ W.heap.size) ?kk ?_); (case kk => omega); (intro hne); (have a03 := fun (u v : Value) => blkOther (a := u) (b := v) kk3 hne); (have u030 := fun u v => (a03 u v).cell 0 rfl); (have u031 := fun u v => (a03 u v).cell 1 rfl); (have v030 := fun u v => (a03 u v).free 0); (have v031 := fun u v => (a03 u v).free 1); clear a03 hne kk0 kk3)); (try ((have kk0 := HK0.out); (have kk4 := HK4.out); (refine have_then (T := w2.heap.size ≠ W.heap.size) ?kk ?_); (case kk => omega); (intro hne); (have a04 := fun (u v : Value) => blkOther (a := u) (b := v) kk4 hne); (have u040 := fun u v => (a04 u v).cell 0 rfl); (have u041 := fun u v => (a04 u v).cell 1 rfl); (have v040 := fun u v => (a04 u v).free 0); (have v041 := fun u v => (a04 u v).free 1); clear a04 hne kk0 kk4)); (try ((have kk0 := HK0.out); (have kk5 := HK5.out); (refine have_then (T := w2.heap.size + 1 ≠ W.heap.size) ?kk ?_); (case kk => omega); (intro hne); (have a05 := fun (u v : Value) => blkOther (a := u) (b := v) kk5 hne); (have u050 := fun u v => (a05 u v).cell 0 rfl); (have u051 := fun u v => (a05 u v).cell 1 rfl); (have v050 := fun u v => (a05 u v).free 0); (have v051 := fun u v => (a05 u v).free 1); clear a05 hne kk0 kk5)); (try ((have kk1 := HK1.out); (have kk0 := HK0.out); (refine have_then (T := W.heap.size ≠ W.heap.size + 1) ?kk ?_); (case kk => omega); (intro hne); (have a10 := fun (u v : Value) => blkOther (a := u) (b := v) kk0 hne); (have u100 := fun u v => (a10 u v).cell 0 rfl); (have u101 := fun u v => (a10 u v).cell 1 rfl); (have v100 := fun u v => (a10 u v).free 0); (have v101 := fun u v => (a10 u v).free 1); clear a10 hne kk1 kk0)); (try ((have kk1 := HK1.out); (have kk2 := HK2.out); (refine have_then (T := w1.heap.size ≠ W.heap.size + 1) ?kk ?_); (case kk => omega); (intro hne); (have a12 := fun (u v : Value) => blkOther (a := u) (b := v) kk2 hne); (have u120 := fun u v => (a12 u v).cell 0 rfl); (have u121 := fun u v => (a12 u v).cell 1 rfl); (have v120 := fun u v => (a12 u v).free 0); (have v121 := fun u v => (a12 u v).free 1); clear a12 hne kk1 kk2)); (try ((have kk1 := HK1.out); (have kk3 := HK3.out); (refine have_then (T := w1.heap.size + 1 ≠ W.heap.size + 1) ?kk ?_); (case kk => omega); (intro hne); (have a13 := fun (u v : Value) => blkOther (a := u) (b := v) kk3 hne); (have u130 := fun u v => (a13 u v).cell 0 rfl); (have u131 := fun u v => (a13 u v).cell 1 rfl); (have v130 := fun u v => (a13 u v).free 0); (have v131 := fun u v => (a13 u v).free 1); clear a13 hne kk1 kk3)); (try ((have kk1 := HK1.out); (have kk4 := HK4.out); (refine have_then (T := w2.heap.size ≠ W.heap.size + 1) ?kk ?_); (case kk => omega); (intro hne); (have a14 := fun (u v : Value) => blkOther (a := u) (b := v) kk4 hne); (have u140 := fun u v => (a14 u v).cell 0 rfl); (have u141 := fun u v => (a14 u v).cell 1 rfl); (have v140 := fun u v => (a14 u v).free 0); (have v141 := fun u v => (a14 u v).free 1); clear a14 hne kk1 kk4)); (try ((have kk1 := HK1.out); (have kk5 := HK5.out); (refine have_then (T := w2.heap.size + 1 ≠ W.heap.size + 1) ?kk ?_); (case kk => omega); (intro hne); (have a15 := fun (u v : Value) => blkOther (a := u) (b := v) kk5 hne); (have u150 := fun u v => (a15 u v).cell 0 rfl); (have u151 := fun u v => (a15 u v).cell 1 rfl); (have v150 := fun u v => (a15 u v).free 0); (have v151 := fun u v => (a15 u v).free 1); clear a15 hne kk1 kk5)); (try ((have kk2 := HK2.out); (have kk0 := HK0.out); (refine have_then (T := W.heap.size ≠ w1.heap.size) ?kk ?_); (case kk => omega); (intro hne); (have a20 := fun (u v : Value) => blkOther (a := u) (b := v) kk0 hne); (have u200 := fun u v => (a20 u v).cell 0 rfl); (have u201 := fun u v => (a20 u v).cell 1 rfl); (have v200 := fun u v => (a20 u v).free 0); (have v201 := fun u v => (a20 u v).free 1); clear a20 hne kk2 kk0)); (try ((have kk2 := HK2.out); (have kk1 := HK1.out); (refine have_then (T := W.heap.size + 1 ≠ w1.heap.size) ?kk ?_); (case kk => omega); (intro hne); (have a21 := fun (u v : Value) => blkOther (a := u) (b := v) kk1 hne); (have u210 := fun u v => (a21 u v).cell 0 rfl); (have u211 := fun u v => (a21 u v).cell 1 rfl); (have v210 := fun u v => (a21 u v).free 0); (have v211 := fun u v => (a21 u v).free 1); clear a21 hne kk2 kk1)); (try ((have kk2 := HK2.out); (have kk3 := HK3.out); (refine have_then (T := w1.heap.size + 1 ≠ w1.heap.size) ?kk ?_); (case kk => omega); (intro hne); (have a23 := fun (u v : Value) => blkOther (a := u) (b := v) kk3 hne); (have u230 := fun u v => (a23 u v).cell 0 rfl); (have u231 := fun u v => (a23 u v).cell 1 rfl); (have v230 := fun u v => (a23 u v).free 0); (have v231 := fun u v => (a23 u v).free 1); clear a23 hne kk2 kk3)); (try ((have kk2 := HK2.out); (have kk4 := HK4.out); (refine have_then (T := w2.heap.size ≠ w1.heap.size) ?kk ?_); (case kk => omega); (intro hne); (have a24 := fun (u v : Value) => blkOther (a := u) (b := v) kk4 hne); (have u240 := fun u v => (a24 u v).cell 0 rfl); (have u241 := fun u v => (a24 u v).cell 1 rfl); (have v240 := fun u v => (a24 u v).free 0); (have v241 := fun u v => (a24 u v).free 1); clear a24 hne kk2 kk4)); (try ((have kk2 := HK2.out); (have kk5 := HK5.out); (refine have_then (T := w2.heap.size + 1 ≠ w1.heap.size) ?kk ?_); (case kk => omega); (intro hne); (have a25 := fun (u v : Value) => blkOther (a := u) (b := v) kk5 hne); (have u250 := fun u v => (a25 u v).cell 0 rfl); (have u251 := fun u v => (a25 u v).cell 1 rfl); (have v250 := fun u v => (a25 u v).free 0); (have v251 := fun u v => (a25 u v).free 1); clear a25 hne kk2 kk5)); (try ((have kk3 := HK3.out); (have kk0 := HK0.out); (refine have_then (T := W.heap.size ≠ w1.heap.size + 1) ?kk ?_); (case kk => omega); (intro hne); (have a30 := fun (u v : Value) => blkOther (a := u) (b := v) kk0 hne); (have u300 := fun u v => (a30 u v).cell 0 rfl); (have u301 := fun u v => (a30 u v).cell 1 rfl); (have v300 := fun u v => (a30 u v).free 0); (have v301 := fun u v => (a30 u v).free 1); clear a30 hne kk3 kk0)); (try ((have kk3 := HK3.out); (have kk1 := HK1.out); (refine have_then (T := W.heap.size + 1 ≠ w1.heap.size + 1) ?kk ?_); (case kk => omega); (intro hne); (have a31 := fun (u v : Value) => blkOther (a := u) (b := v) kk1 hne); (have u310 := fun u v => (a31 u v).cell 0 rfl); (have u311 := fun u v => (a31 u v).cell 1 rfl); (have v310 := fun u v => (a31 u v).free 0); (have v311 := fun u v => (a31 u v).free 1); clear a31 hne kk3 kk1)); (try ((have kk3 := HK3.out); (have kk2 := HK2.out); (refine have_then (T := w1.heap.size ≠ w1.heap.size + 1) ?kk ?_); (case kk => omega); (intro hne); (have a32 := fun (u v : Value) => blkOther (a := u) (b := v) kk2 hne); (have u320 := fun u v => (a32 u v).cell 0 rfl); (have u321 := fun u v => (a32 u v).cell 1 rfl); (have v320 := fun u v => (a32 u v).free 0); (have v321 := fun u v => (a32 u v).free 1); clear a32 hne kk3 kk2)); (try ((have kk3 := HK3.out); (have kk4 := HK4.out); (refine have_then (T := w2.heap.size ≠ w1.heap.size + 1) ?kk ?_); (case kk => omega); (intro hne); (have a34 := fun (u v : Value) => blkOther (a := u) (b := v) kk4 hne); (have u340 := fun u v => (a34 u v).cell 0 rfl); (have u341 := fun u v => (a34 u v).cell 1 rfl); (have v340 := fun u v => (a34 u v).free 0); (have v341 := fun u v => (a34 u v).free 1); clear a34 hne kk3 kk4)); (try ((have kk3 := HK3.out); (have kk5 := HK5.out); (refine have_then (T := w2.heap.size + 1 ≠ w1.heap.size + 1) ?kk ?_); (case kk => omega); (intro hne); (have a35 := fun (u v : Value) => blkOther (a := u) (b := v) kk5 hne); (have u350 := fun u v => (a35 u v).cell 0 rfl); (have u351 := fun u v => (a35 u v).cell 1 rfl); (have v350 := fun u v => (a35 u v).free 0); (have v351 := fun u v => (a35 u v).free 1); clear a35 hne kk3 kk5)); (try ((have kk4 := HK4.out); (have kk0 := HK0.out); (refine have_then (T := W.heap.size ≠ w2.heap.size) ?kk ?_); (case kk => omega); (intro hne); (have a40 := fun (u v : Value) => blkOther (a := u) (b := v) kk0 hne); (have u400 := fun u v => (a40 u v).cell 0 rfl); (have u401 := fun u v => (a40 u v).cell 1 rfl); (have v400 := fun u v => (a40 u v).free 0); (have v401 := fun u v => (a40 u v).free 1); clear a40 hne kk4 kk0)); (try ((have kk4 := HK4.out); (have kk1 := HK1.out); (refine have_then (T := W.heap.size + 1 ≠ w2.heap.size) ?kk ?_); (case kk => omega); (intro hne); (have a41 := fun (u v : Value) => blkOther (a := u) (b := v) kk1 hne); (have u410 := fun u v => (a41 u v).cell 0 rfl); (have u411 := fun u v => (a41 u v).cell 1 rfl); (have v410 := fun u v => (a41 u v).free 0); (have v411 := fun u v => (a41 u v).free 1); clear a41 hne kk4 kk1)); (try ((have kk4 := HK4.out); (have kk2 := HK2.out); (refine have_then (T := w1.heap.size ≠ w2.heap.size) ?kk ?_); (case kk => omega); (intro hne); (have a42 := fun (u v : Value) => blkOther (a := u) (b := v) kk2 hne); (have u420 := fun u v => (a42 u v).cell 0 rfl); (have u421 := fun u v => (a42 u v).cell 1 rfl); (have v420 := fun u v => (a42 u v).free 0); (have v421 := fun u v => (a42 u v).free 1); clear a42 hne kk4 kk2)); (try ((have kk4 := HK4.out); (have kk3 := HK3.out); (refine have_then (T := w1.heap.size + 1 ≠ w2.heap.size) ?kk ?_); (case kk => omega); (intro hne); (have a43 := fun (u v : Value) => blkOther (a := u) (b := v) kk3 hne); (have u430 := fun u v => (a43 u v).cell 0 rfl); (have u431 := fun u v => (a43 u v).cell 1 rfl); (have v430 := fun u v => (a43 u v).free 0); (have v431 := fun u v => (a43 u v).free 1); clear a43 hne kk4 kk3)); (try ((have kk4 := HK4.out); (have kk5 := HK5.out); (refine have_then (T := w2.heap.size + 1 ≠ w2.heap.size) ?kk ?_); (case kk => omega); (intro hne); (have a45 := fun (u v : Value) => blkOther (a := u) (b := v) kk5 hne); (have u450 := fun u v => (a45 u v).cell 0 rfl); (have u451 := fun u v => (a45 u v).cell 1 rfl); (have v450 := fun u v => (a45 u v).free 0); (have v451 := fun u v => (a45 u v).free 1); clear a45 hne kk4 kk5)); (try ((have kk5 := HK5.out); (have kk0 := HK0.out); (refine have_then (T := W.heap.size ≠ w2.heap.size + 1) ?kk ?_); (case kk => omega); (intro hne); (have a50 := fun (u v : Value) => blkOther (a := u) (b := v) kk0 hne); (have u500 := fun u v => (a50 u v).cell 0 rfl); (have u501 := fun u v => (a50 u v).cell 1 rfl); (have v500 := fun u v => (a50 u v).free 0); (have v501 := fun u v => (a50 u v).free 1); clear a50 hne kk5 kk0)); (try ((have kk5 := HK5.out); (have kk1 := HK1.out); (refine have_then (T := W.heap.size + 1 ≠ w2.heap.size + 1) ?kk ?_); (case kk => omega); (intro hne); (have a51 := fun (u v : Value) => blkOther (a := u) (b := v) kk1 hne); (have u510 := fun u v => (a51 u v).cell 0 rfl); (have u511 := fun u v => (a51 u v).cell 1 rfl); (have v510 := fun u v => (a51 u v).free 0); (have v511 := fun u v => (a51 u v).free 1); clear a51 hne kk5 kk1)); (try ((have kk5 := HK5.out); (have kk2 := HK2.out); (refine have_then (T := w1.heap.size ≠ w2.heap.size + 1) ?kk ?_); (case kk => omega); (intro hne); (have a52 := fun (u v : Value) => blkOther (a := u) (b := v) kk2 hne); (have u520 := fun u v => (a52 u v).cell 0 rfl); (have u521 := fun u v => (a52 u v).cell 1 rfl); (have v520 := fun u v => (a52 u v).free 0); (have v521 := fun u v => (a52 u v).free 1); clear a52 hne kk5 kk2)); (try ((have kk5 := HK5.out); (have kk3 := HK3.out); (refine have_then (T := w1.heap.size + 1 ≠ w2.heap.size + 1) ?kk ?_); (case kk => omega); (intro hne); (have a53 := fun (u v : Value) => blkOther (a := u) (b := v) kk3 hne); (have u530 := fun u v => (a53 u v).cell 0 rfl); (have u531 := fun u v => (a53 u v).cell 1 rfl); (have v530 := fun u v => (a53 u v).free 0); (have v531 := fun u v => (a53 u v).free 1); clear a53 hne kk5 kk3)); (try ((have kk5 := HK5.out); (have kk4 := HK4.out); (refine have_then (T := w2.heap.size ≠ w2.heap.size + 1) ?kk ?_); (case kk => omega); (intro hne); (have a54 := fun (u v : Value) => blkOther (a := u) (b := v) kk4 hne); (have u540 := fun u v => (a54 u v).cell 0 rfl); (have u541 := fun u v => (a54 u v).cell 1 rfl); (have v540 := fun u v => (a54 u v).free 0); (have v541 := fun u v => (a54 u v).free 1); clear a54 hne kk5 kk4)))
        | (go_at_call 124; (with_reducible refine (E3.out _ (bAl (bAl q2 _) _)).mono ?_); rintro e w3 ⟨v3, rfl, hv3, hb3⟩; obtain ⟨p3, c3, rfl, -, -, -⟩ := hv3.cells; have q3 : Below W.drew.heap.size W.drew w3 := (by (repeat (first | (with_reducible exact Q0.out) | (with_reducible exact Q00.out) | (with_reducible refine belDrew ?_) | (with_reducible exact q1) | (with_reducible exact q2) | (with_reducible refine belAl ?_) | ((with_reducible refine belDown (X := ?_) ?_ ?hdn); (case hdn => (first | (with_reducible exact hb3) | (with_reducible exact hb2) | (with_reducible exact hb1))))))); have z3 := hb3.size; (try (simp at z3)); (try ((refine have_then (T := Blk w3 (W.heap.size) 67 [.bool false, .slice none 0 0]) ?kk ?_); (case kk => ((repeat (first | (with_reducible exact HKA.out) | (with_reducible exact HKM.out) | (with_reducible exact HKR.out) | ((with_reducible refine newAt _ _ _ _ _ ?hg ?hl); (case hg => (simp; done)); (case hl => rfl)) | (with_reducible refine blkDrew ?_) | (with_reducible exact HKA0.out) | (with_reducible exact HKM0.out) | (with_reducible exact HKR0.out) | (with_reducible refine Blk.alloc ?_ _) | (with_reducible refine blkPair (o0 := .bool false) (o1 := .slice none 0 0) ?_) | ((with_reducible refine blkOther ?_ ?hne); (case hne => omega)) | ((with_reducible refine blkDown (X := ?_) ?_ ?hdn); (case hdn => (first | (with_reducible exact hb3) | (with_reducible exact hb2) | (with_reducible exact hb1)))))); done)); (intro k0); (have HK0 := Lib.hid k0); (have a0 := fun o : Obj => k0.alloc o); (have r00 := k0.cell 0 rfl); (have r01 := k0.cell 1 rfl); (have f00 := k0.free 0); (have f01 := k0.free 1); (have s00 := fun o => (a0 o).cell 0 rfl); (have s01 := fun o => (a0 o).cell 1 rfl); (have t00 := fun o => (a0 o).free 0); (have t01 := fun o => (a0 o).free 1); clear a0 k0)); (try ((refine have_then (T := Blk w3 (W.heap.size + 1) 67 [.bool false, .slice none 0 0]) ?kk ?_); (case kk => ((repeat (first | (with_reducible exact HKA.out) | (with_reducible exact HKM.out) | (with_reducible exact HKR.out) | ((with_reducible refine newAt _ _ _ _ _ ?hg ?hl); (case hg => (simp; done)); (case hl => rfl)) | (with_reducible refine blkDrew ?_) | (with_reducible exact HKA0.out) | (with_reducible exact HKM0.out) | (with_reducible exact HKR0.out) | (with_reducible refine Blk.alloc ?_ _) | (with_reducible refine blkPair (o0 := .bool false) (o1 := .slice none 0 0) ?_) | ((with_reducible refine blkOther ?_ ?hne); (case hne => omega)) | ((with_reducible refine blkDown (X := ?_) ?_ ?hdn); (case hdn => (first | (with_reducible exact hb3) | (with_reducible exact hb2) | (with_reducible exact hb1)))))); done)); (intro k1); (have HK1 := Lib.hid k1); (have a1 := fun o : Obj => k1.alloc o); (have r10 := k1.cell 0 rfl); (have r11 := k1.cell 1 rfl); (have f10 := k1.free 0); (have f11 := k1.free 1); (have s10 := fun o => (a1 o).cell 0 rfl); (have s11 := fun o => (a1 o).cell 1 rfl); (have t10 := fun o => (a1 o).free 0); (have t11 := fun o => (a1 o).free 1); clear a1 k1)); (try ((refine have_then (T := Blk w3 (w1.heap.size) 67 [.bool false, .slice none 0 0]) ?kk ?_); (case kk => ((repeat (first | (with_reducible exact HKA.out) | (with_reducible exact HKM.out) | (with_reducible exact HKR.out) | ((with_reducible refine newAt _ _ _ _ _ ?hg ?hl); (case hg => (simp; done)); (case hl => rfl)) | (with_reducible refine blkDrew ?_) | (with_reducible exact HKA0.out) | (with_reducible exact HKM0.out) | (with_reducible exact HKR0.out) | (with_reducible refine Blk.alloc ?_ _) | (with_reducible refine blkPair (o0 := .bool false) (o1 := .slice none 0 0) ?_) | ((with_reducible refine blkOther ?_ ?hne); (case hne => omega)) | ((with_reducible refine blkDown (X := ?_) ?_ ?hdn); (case hdn => (first | (with_reducible exact hb3) | (with_reducible exact hb2) | (with_reducible exact hb1)))))); done)); (intro k2); (have HK2 := Lib.hid k2); (have a2 := fun o : Obj => k2.alloc o); (have r20 := k2.cell 0 rfl); (have r21 := k2.cell 1 rfl); (have f20 := k2.free 0); (have f21 := k2.free 1); (have s20 := fun o => (a2 o).cell 0 rfl); (have s21 := fun o => (a2 o).cell 1 rfl); (have t20 := fun o => (a2 o).free 0); (have t21 := fun o => (a2 o).free 1); clear a2 k2)); (try ((refine have_then (T := Blk w3 (w1.heap.size + 1) 67 [.bool false, .slice none 0 0]) ?kk ?_); (case kk => ((repeat (first | (with_reducible exact HKA.out) | (with_reducible exact HKM.out) | (with_reducible exact HKR.out) | ((with_reducible refine newAt _ _ _ _ _ ?hg ?hl); (case hg => (simp; done)); (case hl => rfl)) | (with_reducible refine blkDrew ?_) | (with_reducible exact HKA0.out) | (with_reducible exact HKM0.out) | (with_reducible exact HKR0.out) | (with_reducible refine Blk.alloc ?_ _) | (with_reducible refine blkPair (o0 := .bool false) (o1 := .slice none 0 0) ?_) | ((with_reducible refine blkOther ?_ ?hne); (case hne => omega)) | ((with_reducible refine blkDown (X := ?_) ?_ ?hdn); (case hdn => (first | (with_reducible exact hb3) | (with_reducible exact hb2) | (with_reducible exact hb1)))))); done)); (intro k3); (have HK3 := Lib.hid k3); (have a3 := fun o : Obj => k3.alloc o); (have r30 := k3.cell 0 rfl); (have r31 := k3.cell 1 rfl); (have f30 := k3.free 0); (have f31 := k3.free 1); (have s30 := fun o => (a3 o).cell 0 rfl); (have s31 := fun o => (a3 o).cell 1 rfl); (have t30 := fun o => (a3 o).free 0); (have t31 := fun o => (a3 o).free 1); clear a3 k3)); (try ((refine have_then (T := Blk w3 (w2.heap.size) 67 [.bool false, .slice none 0 0]) ?kk ?_); (case kk => ((repeat (first | (with_reducible exact HKA.out) | (with_reducible exact HKM.out) | (with_reducible exact HKR.out) | ((with_reducible refine newAt _ _ _ _ _ ?hg ?hl); (case hg => (simp; done)); (case hl => rfl)) | (with_reducible refine blkDrew ?_) | (with_reducible exact HKA0.out) | (with_reducible exact HKM0.out) | (with_reducible exact HKR0.out) | (with_reducible refine Blk.alloc ?_ _) | (with_reducible refine blkPair (o0 := .bool false) (o1 := .slice none 0 0) ?_) | ((with_reducible refine blkOther ?_ ?hne); (case hne => omega)) | ((with_reducible refine blkDown (X := ?_) ?_ ?hdn); (case hdn => (first | (with_reducible exact hb3) | (with_reducible exact hb2) | (with_reducible exact hb1)))))); done)); (intro k4); (have HK4 := Lib.hid k4); (have a4 := fun o : Obj => k4.alloc o); (have r40 := k4.cell 0 rfl); (have r41 := k4.cell 1 rfl); (have f40 := k4.free 0); (have f41 := k4.free 1); (have s40 := fun o => (a4 o).cell 0 rfl); (have s41 := fun o => (a4 o).cell 1 rfl); (have t40 := fun o => (a4 o).free 0); (have t41 := fun o => (a4 o).free 1); clear a4 k4)); (try ((refine have_then (T := Blk w3 (w2.heap.size + 1) 67 [.bool false, .slice none 0 0]) ?kk ?_); (case kk => ((repeat (first | (with_reducible exact HKA.out) | (with_reducible exact HKM.out) | (with_reducible exact HKR.out) | ((with_reducible refine newAt _ _ _ _ _ ?hg ?hl); (case hg => (simp; done)); (case hl => rfl)) | (with_reducible refine blkDrew ?_) | (with_reducible exact HKA0.out) | (with_reducible exact HKM0.out) | (with_reducible exact HKR0.out) | (with_reducible refine Blk.alloc ?_ _) | (with_reducible refine blkPair (o0 := .bool false) (o1 := .slice none 0 0) ?_) | ((with_reducible refine blkOther ?_ ?hne); (case hne => omega)) | ((with_reducible refine blkDown (X := ?_) ?_ ?hdn); (case hdn => (first | (with_reducible exact hb3) | (with_reducible exact hb2) | (with_reducible exact hb1)))))); done)); (intro k5); (have HK5 := Lib.hid k5); (have a5 := fun o : Obj => k5.alloc o); (have r50 := k5.cell 0 rfl); (have r51 := k5.cell 1 rfl); (have f50 := k5.free 0); (have f51 := k5.free 1); (have s50 := fun o => (a5 o).cell 0 rfl); (have s51 := fun o => (a5 o).cell 1 rfl); (have t50 := fun o => (a5 o).free 0); (have t51 := fun o => (a5 o).free 1); clear a5 k5)); (try ((have kk0 := HK0.out); (have kk1 := HK1.out); (refine have_then (T := W.heap.size + 1 ≠ W.heap.size) ?kk ?_); (case kk => omega); (intro hne); (have a01 := fun (u v : Value) => blkOther (a := u) (b := v) kk1 hne); (have u010 := fun u v => (a01 u v).cell 0 rfl); (have u011 := fun u v => (a01 u v).cell 1 rfl); (have v010 := fun u v => (a01 u v).free 0); (have v011 := fun u v => (a01 u v).free 1); clear a01 hne kk0 kk1)); (try ((have kk0 := HK0.out); (have kk2 := HK2.out); (refine have_then (T := w1.heap.size ≠ W.heap.size) ?kk ?_); (case kk => omega); (intro hne); (have a02 := fun (u v : Value) => blkOther (a := u) (b := v) kk2 hne); (have u020 := fun u v => (a02 u v).cell 0 rfl); (have u021 := fun u v => (a02 u v).cell 1 rfl); (have v020 := fun u v => (a02 u v).free 0); (have v021 := fun u v => (a02 u v).free 1); clear a02 hne kk0 kk2)); (try ((have kk0 := HK0.out); (have kk3 := HK3.out); (refine have_then (T := w1.heap.size + 1 ≠ W.heap.size) ?kk ?_); (case kk => omega); (intro hne); (have a03 := fun (u v : Value) => blkOther (a := u) (b := v) kk3 hne); (have u030 := fun u v => (a03 u v).cell 0 rfl); (have u031 := fun u v => (a03 u v).cell 1 rfl); (have v030 := fun u v => (a03 u v).free 0); (have v031 := fun u v => (a03 u v).free 1); clear a03 hne kk0 kk3)); (try ((have kk0 := HK0.out); (have kk4 := HK4.out); (refine have_then (T := w2.heap.size ≠ W.heap.size) ?kk ?_); (case kk => omega); (intro hne); (have a04 := fun (u v : Value) => blkOther (a := u) (b := v) kk4 hne); (have u040 := fun u v => (a04 u v).cell 0 rfl); (have u041 := fun u v => (a04 u v).cell 1 rfl); (have v040 := fun u v => (a04 u v).free 0); (have v041 := fun u v => (a04 u v).free 1); clear a04 hne kk0 kk4)); (try ((have kk0 := HK0.out); (have kk5 := HK5.out); (refine have_then (T := w2.heap.size + 1 ≠ W.heap.size) ?kk ?_); (case kk => omega); (intro hne); (have a05 := fun (u v : Value) => blkOther (a := u) (b := v) kk5 hne); (have u050 := fun u v => (a05 u v).cell 0 rfl); (have u051 := fun u v => (a05 u v).cell 1 rfl); (have v050 := fun u v => (a05 u v).free 0); (have v051 := fun u v => (a05 u v).free 1); clear a05 hne kk0 kk5)); (try ((have kk1 := HK1.out); (have kk0 := HK0.out); (refine have_then (T := W.heap.size ≠ W.heap.size + 1) ?kk ?_); (case kk => omega); (intro hne); (have a10 := fun (u v : Value) => blkOther (a := u) (b := v) kk0 hne); (have u100 := fun u v => (a10 u v).cell 0 rfl); (have u101 := fun u v => (a10 u v).cell 1 rfl); (have v100 := fun u v => (a10 u v).free 0); (have v101 := fun u v => (a10 u v).free 1); clear a10 hne kk1 kk0)); (try ((have kk1 := HK1.out); (have kk2 := HK2.out); (refine have_then (T := w1.heap.size ≠ W.heap.size + 1) ?kk ?_); (case kk => omega); (intro hne); (have a12 := fun (u v : Value) => blkOther (a := u) (b := v) kk2 hne); (have u120 := fun u v => (a12 u v).cell 0 rfl); (have u121 := fun u v => (a12 u v).cell 1 rfl); (have v120 := fun u v => (a12 u v).free 0); (have v121 := fun u v => (a12 u v).free 1); clear a12 hne kk1 kk2)); (try ((have kk1 := HK1.out); (have kk3 := HK3.out); (refine have_then (T := w1.heap.size + 1 ≠ W.heap.size + 1) ?kk ?_); (case kk => omega); (intro hne); (have a13 := fun (u v : Value) => blkOther (a := u) (b := v) kk3 hne); (have u130 := fun u v => (a13 u v).cell 0 rfl); (have u131 := fun u v => (a13 u v).cell 1 rfl); (have v130 := fun u v => (a13 u v).free 0); (have v131 := fun u v => (a13 u v).free 1); clear a13 hne kk1 kk3)); (try ((have kk1 := HK1.out); (have kk4 := HK4.out); (refine have_then (T := w2.heap.size ≠ W.heap.size + 1) ?kk ?_); (case kk => omega); (intro hne); (have a14 := fun (u v : Value) => blkOther (a := u) (b := v) kk4 hne); (have u140 := fun u v => (a14 u v).cell 0 rfl); (have u141 := fun u v => (a14 u v).cell 1 rfl); (have v140 := fun u v => (a14 u v).free 0); (have v141 := fun u v => (a14 u v).free 1); clear a14 hne kk1 kk4)); (try ((have kk1 := HK1.out); (have kk5 := HK5.out); (refine have_then (T := w2.heap.size + 1 ≠ W.heap.size + 1) ?kk ?_); (case kk => omega); (intro hne); (have a15 := fun (u v : Value) => blkOther (a := u) (b := v) kk5 hne); (have u150 := fun u v => (a15 u v).cell 0 rfl); (have u151 := fun u v => (a15 u v).cell 1 rfl); (have v150 := fun u v => (a15 u v).free 0); (have v151 := fun u v => (a15 u v).free 1); clear a15 hne kk1 kk5)); (try ((have kk2 := HK2.out); (have kk0 := HK0.out); (refine have_then (T := W.heap.size ≠ w1.heap.size) ?kk ?_); (case kk => omega); (intro hne); (have a20 := fun (u v : Value) => blkOther (a := u) (b := v) kk0 hne); (have u200 := fun u v => (a20 u v).cell 0 rfl); (have u201 := fun u v => (a20 u v).cell 1 rfl); (have v200 := fun u v => (a20 u v).free 0); (have v201 := fun u v => (a20 u v).free 1); clear a20 hne kk2 kk0)); (try ((have kk2 := HK2.out); (have kk1 := HK1.out); (refine have_then (T := W.heap.size + 1 ≠ w1.heap.size) ?kk ?_); (case kk => omega); (intro hne); (have a21 := fun (u v : Value) => blkOther (a := u) (b := v) kk1 hne); (have u210 := fun u v => (a21 u v).cell 0 rfl); (have u211 := fun u v => (a21 u v).cell 1 rfl); (have v210 := fun u v => (a21 u v).free 0); (have v211 := fun u v => (a21 u v).free 1); clear a21 hne kk2 kk1)); (try ((have kk2 := HK2.out); (have kk3 := HK3.out); (refine have_then (T := w1.heap.size + 1 ≠ w1.heap.size) ?kk ?_); (case kk => omega); (intro hne); (have a23 := fun (u v : Value) => blkOther (a := u) (b := v) kk3 hne); (have u230 := fun u v => (a23 u v).cell 0 rfl); (have u231 := fun u v => (a23 u v).cell 1 rfl); (have v230 := fun u v => (a23 u v).free 0); (have v231 := fun u v => (a23 u v).free 1); clear a23 hne kk2 kk3)); (try ((have kk2 := HK2.out); (have kk4 := HK4.out); (refine have_then (T := w2.heap.size ≠ w1.heap.size) ?kk ?_); (case kk => omega); (intro hne); (have a24 := fun (u v : Value) => blkOther (a := u) (b := v) kk4 hne); (have u240 := fun u v => (a24 u v).cell 0 rfl); (have u241 := fun u v => (a24 u v).cell 1 rfl); (have v240 := fun u v => (a24 u v).free 0); (have v241 := fun u v => (a24 u v).free 1); clear a24 hne kk2 kk4)); (try ((have kk2 := HK2.out); (have kk5 := HK5.out); (refine have_then (T := w2.heap.size + 1 ≠ w1.heap.size) ?kk ?_); (case kk => omega); (intro hne); (have a25 := fun (u v : Value) => blkOther (a := u) (b := v) kk5 hne); (have u250 := fun u v => (a25 u v).cell 0 rfl); (have u251 := fun u v => (a25 u v).cell 1 rfl); (have v250 := fun u v => (a25 u v).free 0); (have v251 := fun u v => (a25 u v).free 1); clear a25 hne kk2 kk5)); (try ((have kk3 := HK3.out); (have kk0 := HK0.out); (refine have_then (T := W.heap.size ≠ w1.heap.size + 1) ?kk ?_); (case kk => omega); (intro hne); (have a30 := fun (u v : Value) => blkOther (a := u) (b := v) kk0 hne); (have u300 := fun u v => (a30 u v).cell 0 rfl); (have u301 := fun u v => (a30 u v).cell 1 rfl); (have v300 := fun u v => (a30 u v).free 0); (have v301 := fun u v => (a30 u v).free 1); clear a30 hne kk3 kk0)); (try ((have kk3 := HK3.out); (have kk1 := HK1.out); (refine have_then (T := W.heap.size + 1 ≠ w1.heap.size + 1) ?kk ?_); (case kk => omega); (intro hne); (have a31 := fun (u v : Value) => blkOther (a := u) (b := v) kk1 hne); (have u310 := fun u v => (a31 u v).cell 0 rfl); (have u311 := fun u v => (a31 u v).cell 1 rfl); (have v310 := fun u v => (a31 u v).free 0); (have v311 := fun u v => (a31 u v).free 1); clear a31 hne kk3 kk1)); (try ((have kk3 := HK3.out); (have kk2 := HK2.out); (refine have_then (T := w1.heap.size ≠ w1.heap.size + 1) ?kk ?_); (case kk => omega); (intro hne); (have a32 := fun (u v : Value) => blkOther (a := u) (b := v) kk2 hne); (have u320 := fun u v => (a32 u v).cell 0 rfl); (have u321 := fun u v => (a32 u v).cell 1 rfl); (have v320 := fun u v => (a32 u v).free 0); (have v321 := fun u v => (a32 u v).free 1); clear a32 hne kk3 kk2)); (try ((have kk3 := HK3.out); (have kk4 := HK4.out); (refine have_then (T := w2.heap.size ≠ w1.heap.size + 1) ?kk ?_); (case kk => omega); (intro hne); (have a34 := fun (u v : Value) => blkOther (a := u) (b := v) kk4 hne); (have u340 := fun u v => (a34 u v).cell 0 rfl); (have u341 := fun u v => (a34 u v).cell 1 rfl); (have v340 := fun u v => (a34 u v).free 0); (have v341 := fun u v => (a34 u v).free 1); clear a34 hne kk3 kk4)); (try ((have kk3 := HK3.out); (have kk5 := HK5.out); (refine have_then (T := w2.heap.size + 1 ≠ w1.heap.size + 1) ?kk ?_); (case kk => omega); (intro hne); (have a35 := fun (u v : Value) => blkOther (a := u) (b := v) kk5 hne); (have u350 := fun u v => (a35 u v).cell 0 rfl); (have u351 := fun u v => (a35 u v).cell 1 rfl); (have v350 := fun u v => (a35 u v).free 0); (have v351 := fun u v => (a35 u v).free 1); clear a35 hne kk3 kk5)); (try ((have kk4 := HK4.out); (have kk0 := HK0.out); (refine have_then (T := W.heap.size ≠ w2.heap.size) ?kk ?_); (case kk => omega); (intro hne); (have a40 := fun (u v : Value) => blkOther (a := u) (b := v) kk0 hne); (have u400 := fun u v => (a40 u v).cell 0 rfl); (have u401 := fun u v => (a40 u v).cell 1 rfl); (have v400 := fun u v => (a40 u v).free 0); (have v401 := fun u v => (a40 u v).free 1); clear a40 hne kk4 kk0)); (try ((have kk4 := HK4.out); (have kk1 := HK1.out); (refine have_then (T := W.heap.size + 1 ≠ w2.heap.size) ?kk ?_); (case kk => omega); (intro hne); (have a41 := fun (u v : Value) => blkOther (a := u) (b := v) kk1 hne); (have u410 := fun u v => (a41 u v).cell 0 rfl); (have u411 := fun u v => (a41 u v).cell 1 rfl); (have v410 := fun u v => (a41 u v).free 0); (have v411 := fun u v => (a41 u v).free 1); clear a41 hne kk4 kk1)); (try ((have kk4 := HK4.out); (have kk2 := HK2.out); (refine have_then (T := w1.heap.size ≠ w2.heap.size) ?kk ?_); (case kk => omega); (intro hne); (have a42 := fun (u v : Value) => blkOther (a := u) (b := v) kk2 hne); (have u420 := fun u v => (a42 u v).cell 0 rfl); (have u421 := fun u v => (a42 u v).cell 1 rfl); (have v420 := fun u v => (a42 u v).free 0); (have v421 := fun u v => (a42 u v).free 1); clear a42 hne kk4 kk2)); (try ((have kk4 := HK4.out); (have kk3 := HK3.out); (refine have_then (T := w1.heap.size + 1 ≠ w2.heap.size) ?kk ?_); (case kk => omega); (intro hne); (have a43 := fun (u v : Value) => blkOther (a := u) (b := v) kk3 hne); (have u430 := fun u v => (a43 u v).cell 0 rfl); (have u431 := fun u v => (a43 u v).cell 1 rfl); (have v430 := fun u v => (a43 u v).free 0); (have v431 := fun u v => (a43 u v).free 1); clear a43 hne kk4 kk3)); (try ((have kk4 := HK4.out); (have kk5 := HK5.out); (refine have_then (T := w2.heap.size + 1 ≠ w2.heap.size) ?kk ?_); (case kk => omega); (intro hne); (have a45 := fun (u v : Value) => blkOther (a := u) (b := v) kk5 hne); (have u450 := fun u v => (a45 u v).cell 0 rfl); (have u451 := fun u v => (a45 u v).cell 1 rfl); (have v450 := fun u v => (a45 u v).free 0); (have v451 := fun u v => (a45 u v).free 1); clear a45 hne kk4 kk5)); (try ((have kk5 := HK5.out); (have kk0 := HK0.out); (refine have_then (T := W.heap.size ≠ w2.heap.size + 1) ?kk ?_); (case kk => omega); (intro hne); (have a50 := fun (u v : Value) => blkOther (a := u) (b := v) kk0 hne); (have u500 := fun u v => (a50 u v).cell 0 rfl); (have u501 := fun u v => (a50 u v).cell 1 rfl); (have v500 := fun u v => (a50 u v).free 0); (have v501 := fun u v => (a50 u v).free 1); clear a50 hne kk5 kk0)); (try ((have kk5 := HK5.out); (have kk1 := HK1.out); (refine have_then (T := W.heap.size + 1 ≠ w2.heap.size + 1) ?kk ?_); (case kk => omega); (intro hne); (have a51 := fun (u v : Value) => blkOther (a := u) (b := v) kk1 hne); (have u510 := fun u v => (a51 u v).cell 0 rfl); (have u511 := fun u v => (a51 u v).cell 1 rfl); (have v510 := fun u v => (a51 u v).free 0); (have v511 := fun u v => (a51 u v).free 1); clear a51 hne kk5 kk1)); (try ((have kk5 := HK5.out); (have kk2 := HK2.out); (refine have_then (T := w1.heap.size ≠ w2.heap.size + 1) ?kk ?_); (case kk => omega); (intro hne); (have a52 := fun (u v : Value) => blkOther (a := u) (b := v) kk2 hne); (have u520 := fun u v => (a52 u v).cell 0 rfl); (have u521 := fun u v => (a52 u v).cell 1 rfl); (have v520 := fun u v => (a52 u v).free 0); (have v521 := fun u v => (a52 u v).free 1); clear a52 hne kk5 kk2)); (try ((have kk5 := HK5.out); (have kk3 := HK3.out); (refine have_then (T := w1.heap.size + 1 ≠ w2.heap.size + 1) ?kk ?_); (case kk => omega); (intro hne); (have a53 := fun (u v : Value) => blkOther (a := u) (b := v) kk3 hne); (have u530 := fun u v => (a53 u v).cell 0 rfl); (have u531 := fun u v => (a53 u v).cell 1 rfl); (have v530 := fun u v => (a53 u v).free 0); (have v531 := fun u v => (a53 u v).free 1); clear a53 hne kk5 kk3)); (try ((have kk5 := HK5.out); (have kk4 := HK4.out); (refine have_then (T := w2.heap.size ≠ w2.heap.size + 1) ?kk ?_); (case kk => omega); (intro hne); (have a54 := fun (u v : Value) => blkOther (a := u) (b := v) kk4 hne); (have u540 := fun u v => (a54 u v).cell 0 rfl); (have u541 := fun u v => (a54 u v).cell 1 rfl); (have v540 := fun u v => (a54 u v).free 0); (have v541 := fun u v => (a54 u v).free 1); clear a54 hne kk5 kk4)))
        | fail "noarm")
    all_goals (
      have hKK := HKK.out
      clear HKK
      go_wp2_with fail
      go_meet
      refine ⟨_, _, .slice p2 (Lw r1.natAbs) c2, .slice p3 (Lw r2.natAbs) c3, rfl, rfl, ?_⟩
      refine Pm.mk ?_ ?_ ?_ ?_ ?_ ?_ ?_ ?_ ?_ ?_ ?_ HS1.out HS2.out ?_
      · (repeat (first | (with_reducible exact HKA.out) | (with_reducible exact HKM.out) | (with_reducible exact HKR.out) | ((with_reducible refine newAt _ _ _ _ _ ?hg ?hl); (case hg => (simp; done)); (case hl => rfl)) | (with_reducible refine blkDrew ?_) | (with_reducible exact HKA0.out) | (with_reducible exact HKM0.out) | (with_reducible exact HKR0.out) | (with_reducible refine Blk.alloc ?_ _) | (with_reducible refine blkPair (o0 := .bool false) (o1 := .slice none 0 0) ?_) | ((with_reducible refine blkOther ?_ ?hne); (case hne => omega)) | ((with_reducible refine blkDown (X := ?_) ?_ ?hdn); (case hdn => (first | (with_reducible exact hb3) | (with_reducible exact hb2) | (with_reducible exact hb1))))))
      · (repeat (first | (with_reducible exact HKA.out) | (with_reducible exact HKM.out) | (with_reducible exact HKR.out) | ((with_reducible refine newAt _ _ _ _ _ ?hg ?hl); (case hg => (simp; done)); (case hl => rfl)) | (with_reducible refine blkDrew ?_) | (with_reducible exact HKA0.out) | (with_reducible exact HKM0.out) | (with_reducible exact HKR0.out) | (with_reducible refine Blk.alloc ?_ _) | (with_reducible refine blkPair (o0 := .bool false) (o1 := .slice none 0 0) ?_) | ((with_reducible refine blkOther ?_ ?hne); (case hne => omega)) | ((with_reducible refine blkDown (X := ?_) ?_ ?hdn); (case hdn => (first | (with_reducible exact hb3) | (with_reducible exact hb2) | (with_reducible exact hb1))))))
      · (repeat (first | (with_reducible exact HKA.out) | (with_reducible exact HKM.out) | (with_reducible exact HKR.out) | ((with_reducible refine newAt _ _ _ _ _ ?hg ?hl); (case hg => (simp; done)); (case hl => rfl)) | (with_reducible refine blkDrew ?_) | (with_reducible exact HKA0.out) | (with_reducible exact HKM0.out) | (with_reducible exact HKR0.out) | (with_reducible refine Blk.alloc ?_ _) | (with_reducible refine blkPair (o0 := .bool false) (o1 := .slice none 0 0) ?_) | ((with_reducible refine blkOther ?_ ?hne); (case hne => omega)) | ((with_reducible refine blkDown (X := ?_) ?_ ?hdn); (case hdn => (first | (with_reducible exact hb3) | (with_reducible exact hb2) | (with_reducible exact hb1))))))
      · (repeat (first | (with_reducible exact HKA.out) | (with_reducible exact HKM.out) | (with_reducible exact HKR.out) | ((with_reducible refine newAt _ _ _ _ _ ?hg ?hl); (case hg => (simp; done)); (case hl => rfl)) | (with_reducible refine blkDrew ?_) | (with_reducible exact HKA0.out) | (with_reducible exact HKM0.out) | (with_reducible exact HKR0.out) | (with_reducible refine Blk.alloc ?_ _) | (with_reducible refine blkPair (o0 := .bool false) (o1 := .slice none 0 0) ?_) | ((with_reducible refine blkOther ?_ ?hne); (case hne => omega)) | ((with_reducible refine blkDown (X := ?_) ?_ ?hdn); (case hdn => (first | (with_reducible exact hb3) | (with_reducible exact hb2) | (with_reducible exact hb1))))))
      · (repeat (first | (with_reducible exact HKA.out) | (with_reducible exact HKM.out) | (with_reducible exact HKR.out) | ((with_reducible refine newAt _ _ _ _ _ ?hg ?hl); (case hg => (simp; done)); (case hl => rfl)) | (with_reducible refine blkDrew ?_) | (with_reducible exact HKA0.out) | (with_reducible exact HKM0.out) | (with_reducible exact HKR0.out) | (with_reducible refine Blk.alloc ?_ _) | (with_reducible refine blkPair (o0 := .bool false) (o1 := .slice none 0 0) ?_) | ((with_reducible refine blkOther ?_ ?hne); (case hne => omega)) | ((with_reducible refine blkDown (X := ?_) ?_ ?hdn); (case hdn => (first | (with_reducible exact hb3) | (with_reducible exact hb2) | (with_reducible exact hb1))))))
      · (repeat (first | (with_reducible exact HNX.out) | (with_reducible exact HNM.out) | (with_reducible exact hv1) | (with_reducible exact hv2) | (with_reducible exact hv3) | (with_reducible exact HNX0.out) | (with_reducible exact HNM0.out) | (with_reducible refine ntDrew ?_) | (with_reducible refine ntAl ?_) | ((with_reducible refine ntPair (o0 := .bool false) (o1 := .slice none 0 0) ?hk ?_); (case hk => (repeat (first | (with_reducible exact HKA.out) | (with_reducible exact HKM.out) | (with_reducible exact HKR.out) | ((with_reducible refine newAt _ _ _ _ _ ?hg ?hl); (case hg => (simp; done)); (case hl => rfl)) | (with_reducible refine blkDrew ?_) | (with_reducible exact HKA0.out) | (with_reducible exact HKM0.out) | (with_reducible exact HKR0.out) | (with_reducible refine Blk.alloc ?_ _) | (with_reducible refine blkPair (o0 := .bool false) (o1 := .slice none 0 0) ?_) | ((with_reducible refine blkOther ?_ ?hne); (case hne => omega)) | ((with_reducible refine blkDown (X := ?_) ?_ ?hdn); (case hdn => (first | (with_reducible exact hb3) | (with_reducible exact hb2) | (with_reducible exact hb1)))))))) | ((with_reducible refine ntDown (X := ?_) ?_ ?hdn); (case hdn => (first | (with_reducible exact hb3) | (with_reducible exact hb2) | (with_reducible exact hb1))))))
      · (repeat (first | (with_reducible exact HNX.out) | (with_reducible exact HNM.out) | (with_reducible exact hv1) | (with_reducible exact hv2) | (with_reducible exact hv3) | (with_reducible exact HNX0.out) | (with_reducible exact HNM0.out) | (with_reducible refine ntDrew ?_) | (with_reducible refine ntAl ?_) | ((with_reducible refine ntPair (o0 := .bool false) (o1 := .slice none 0 0) ?hk ?_); (case hk => (repeat (first | (with_reducible exact HKA.out) | (with_reducible exact HKM.out) | (with_reducible exact HKR.out) | ((with_reducible refine newAt _ _ _ _ _ ?hg ?hl); (case hg => (simp; done)); (case hl => rfl)) | (with_reducible refine blkDrew ?_) | (with_reducible exact HKA0.out) | (with_reducible exact HKM0.out) | (with_reducible exact HKR0.out) | (with_reducible refine Blk.alloc ?_ _) | (with_reducible refine blkPair (o0 := .bool false) (o1 := .slice none 0 0) ?_) | ((with_reducible refine blkOther ?_ ?hne); (case hne => omega)) | ((with_reducible refine blkDown (X := ?_) ?_ ?hdn); (case hdn => (first | (with_reducible exact hb3) | (with_reducible exact hb2) | (with_reducible exact hb1)))))))) | ((with_reducible refine ntDown (X := ?_) ?_ ?hdn); (case hdn => (first | (with_reducible exact hb3) | (with_reducible exact hb2) | (with_reducible exact hb1))))))
      · (repeat (first | (with_reducible exact HNX.out) | (with_reducible exact HNM.out) | (with_reducible exact hv1) | (with_reducible exact hv2) | (with_reducible exact hv3) | (with_reducible exact HNX0.out) | (with_reducible exact HNM0.out) | (with_reducible refine ntDrew ?_) | (with_reducible refine ntAl ?_) | ((with_reducible refine ntPair (o0 := .bool false) (o1 := .slice none 0 0) ?hk ?_); (case hk => (repeat (first | (with_reducible exact HKA.out) | (with_reducible exact HKM.out) | (with_reducible exact HKR.out) | ((with_reducible refine newAt _ _ _ _ _ ?hg ?hl); (case hg => (simp; done)); (case hl => rfl)) | (with_reducible refine blkDrew ?_) | (with_reducible exact HKA0.out) | (with_reducible exact HKM0.out) | (with_reducible exact HKR0.out) | (with_reducible refine Blk.alloc ?_ _) | (with_reducible refine blkPair (o0 := .bool false) (o1 := .slice none 0 0) ?_) | ((with_reducible refine blkOther ?_ ?hne); (case hne => omega)) | ((with_reducible refine blkDown (X := ?_) ?_ ?hdn); (case hdn => (first | (with_reducible exact hb3) | (with_reducible exact hb2) | (with_reducible exact hb1)))))))) | ((with_reducible refine ntDown (X := ?_) ?_ ?hdn); (case hdn => (first | (with_reducible exact hb3) | (with_reducible exact hb2) | (with_reducible exact hb1))))))
      · omega
      · omega
      · omega
      · (repeat (first | (with_reducible exact HBW.out) | (with_reducible exact HBW0.out) | (with_reducible refine belDrew ?_) | (with_reducible refine belAl ?_) | ((with_reducible refine belPair ?_ ?hg); (case hg => omega)) | ((with_reducible refine belDown (X := ?_) ?_ ?hdn); (case hdn => (first | (with_reducible exact hb3) | (with_reducible exact hb2) | (with_reducible exact hb1)))))))
  case rest =>
    obtain ⟨g8, g9, v8, v9, rfl, rfl, HS0⟩ := hcut
    obtain ⟨WX, rfl⟩ : ∃ WX : World, WX = wc := ⟨_, rfl⟩
    clear k0 k1 d0 d1 E2 E3 Q0 Q00 HKA HKM HKR HNX HNM HBW HKA0 HKM0 HKR0 HNX0 HNM0 HBW0 hz HS1 HS2
    go_wp2_with fail
    go_loopw [1] (fun u wr => ∃ (k : Nat) (p f : Int) (v8 v9 : Value), k ≤ 1000000 ∧ u = .int .i64 k ∧ Hid (pm m k p f = pm m n r1 r2) ∧ Hid (Lw p.natAbs ≤ 40000 ∧ Lw f.natAbs ≤ 40000) ∧ Hid (Pm w wr b (.slice pa lx ca) x (.slice pm' lm cm) m g8 g9 false v8 p false v9 f)) (fun u _ => (intOf u).toNat)
    case atStart => exact ⟨n, r1, r2, v8, v9, hn, rfl, rfl, ⟨HL1.out, HL2.out⟩, HS0⟩
    case round =>
      obtain ⟨k, p, f, v8, v9, hk, rfl, HPM, HL, HS⟩ := hrel
      obtain ⟨wo, rfl⟩ : ∃ wo : World, wo = wr := ⟨_, rfl⟩
      clear HS0 HL1 HL2
      obtain ⟨p8, e8, rfl, -, -, -⟩ := HS.out.n8.cells
      obtain ⟨p9, e9, rfl, -, -, -⟩ := HS.out.n9.cells
      have a0 := HS.out.k8.cell 0 rfl
      have a1 := HS.out.k8.cell 1 rfl
      have a2 := HS.out.k9.cell 0 rfl
      have a3 := HS.out.k9.cell 1 rfl
      by_cases hpos : 0 < k
      · have hkp : (0 : Int) < k := by omega
        have hst := pm_step m k p f hpos
        rw [HPM.out] at hst
        by_cases hodd : k % 2 = 1
        · have hoi : (((k : Int) % 2) == 1) = true := by rw [beq_iff_eq]; omega
          rw [if_pos hodd] at hst
          have HST := Lib.hid hst.symm
          clear hst hodd
          obtain ⟨z, hz⟩ : ∃ z : Int, z = p * f := ⟨_, rfl⟩
          obtain ⟨cz, hcz⟩ : ∃ c : Bool, c = decide (z < 0) := ⟨_, rfl⟩
          have lz : Lw z.natAbs ≤ 400000 := by rw [hz]; exact Nat.le_trans (Lw_mulZ _ _ 40000 HL.out.1 HL.out.2) (by omega)
          have D1 : Hid (Calls Tryz.prog 95 #[.agg #[.bool false, .slice p8 (Lw p.natAbs) e8], .agg #[.bool false, .slice p9 (Lw f.natAbs) e9]] wo (IntBp cz z wo)) := by
            have := t95I p f false false _ _ wo HS.out.s8 HS.out.s9 HS.out.n8 HS.out.n9 (by have := HL.out.1; omega) (by have := HL.out.2; omega)
            rw [← hz] at this
            exact this.mono fun _ _ q => q.toBp hcz
          rw [← hz] at HST
          have HCZ := Lib.hid hcz
          have HLZ := Lib.hid lz
          clear hz hcz lz
          go_wp2_with fail
          refine D1.out.mono ?_
          rintro e w1 ⟨v1, rfl, hv1, hb1⟩
          obtain ⟨p1, c1, rfl, -, -, -⟩ := hv1.cells
          have HS1 := Lib.hid (HS.out.next hb1)
          have D2 := Lib.hid (C5.out w1 z cz _ HCZ.out HLZ.out hv1 HS1.out.nm HS1.out.km)
          clear hv1 hb1 a0 a1 a2 a3 D1
          go_wp2_with fail
          refine D2.out.mono ?_
          rintro e w2 ⟨v2, rfl, hv2, hb2⟩
          obtain ⟨p2, c2, rfl, -, -, -⟩ := hv2.cells
          have hL2 := C6.out z
          obtain ⟨q, hq⟩ : ∃ q : Int, q = fr z m := ⟨_, rfl⟩
          rw [← hq] at hv2 hL2 HST ⊢
          have hsq : false = decide (q < 0) := by rw [hq]; obtain ⟨-, g, -⟩ := fqr z m (by have := HMP.out; omega); have := (g HMP.out).1; simp; omega
          have HS2 := Lib.hid (HS1.out.next hb2)
          have HS3 := Lib.hid (HS2.out.put8 false (.slice p2 (Lw q.natAbs) c2) q hsq hv2)
          have b0 := HS2.out.k8.cell 0 rfl
          have b1 := HS2.out.k8.cell 1 rfl
          have f0 := HS2.out.k8.free 0
          have f1 := HS2.out.k8.free 1
          have HLq := Lib.hid (And.intro hL2 HL.out.2)
          clear hv2 hb2 hq hsq hL2 HS HS1 D2 HCZ HLZ
          go_upto_region 7 with fail
          clear b0 b1 f0 f1 HS2
          generalize ((w2.setCell ⟨g8, 0, none⟩ (.bool false)).setCell ⟨g8, 1, none⟩ (.slice p2 (Lw q.natAbs) c2)) = wp at *
          have a4 := HS3.out.k9.cell 0 rfl
          have a5 := HS3.out.k9.cell 1 rfl
          obtain ⟨y, hy⟩ : ∃ y : Int, y = f * f := ⟨_, rfl⟩
          obtain ⟨cy, hcy⟩ : ∃ c : Bool, c = decide (y < 0) := ⟨_, rfl⟩
          have ly : Lw y.natAbs ≤ 400000 := by rw [hy]; exact Nat.le_trans (Lw_mulZ _ _ 40000 HLq.out.2 HLq.out.2) (by omega)
          have F1 : Hid (Calls Tryz.prog 95 #[.agg #[.bool false, .slice p9 (Lw f.natAbs) e9], .agg #[.bool false, .slice p9 (Lw f.natAbs) e9]] wp (IntBp cy y wp)) := by
            have := t95I f f false false _ _ wp HS3.out.s9 HS3.out.s9 HS3.out.n9 HS3.out.n9 (by have := HLq.out.2; omega) (by have := HLq.out.2; omega)
            rw [← hy] at this
            exact this.mono fun _ _ q => q.toBp hcy
          rw [← hy] at HST
          have HCY := Lib.hid hcy
          have HLY := Lib.hid ly
          clear hy hcy ly
          go_wp2_with fail
          refine F1.out.mono ?_
          rintro e w4 ⟨v4, rfl, hv4, hb4⟩
          obtain ⟨p4, c4, rfl, -, -, -⟩ := hv4.cells
          have HS4 := Lib.hid (HS3.out.next hb4)
          have F2 := Lib.hid (C5.out w4 y cy _ HCY.out HLY.out hv4 HS4.out.nm HS4.out.km)
          clear hv4 hb4 a4 a5 F1 HS3
          go_wp2_with fail
          refine F2.out.mono ?_
          rintro e w5 ⟨v5, rfl, hv5, hb5⟩
          obtain ⟨p5, c5, rfl, -, -, -⟩ := hv5.cells
          have hL5 := C6.out y
          obtain ⟨s, hs⟩ : ∃ s : Int, s = fr y m := ⟨_, rfl⟩
          rw [← hs] at hv5 hL5 HST ⊢
          have hss : false = decide (s < 0) := by rw [hs]; obtain ⟨-, g, -⟩ := fqr y m (by have := HMP.out; omega); have := (g HMP.out).1; simp; omega
          have HS5 := Lib.hid (HS4.out.next hb5)
          have HS6 := Lib.hid (HS5.out.put9 false (.slice p5 (Lw s.natAbs) c5) s hss hv5)
          have b4 := HS5.out.k9.cell 0 rfl
          have b5 := HS5.out.k9.cell 1 rfl
          have f4 := HS5.out.k9.free 0
          have f5 := HS5.out.k9.free 1
          have HL5 := Lib.hid (And.intro HLq.out.1 hL5)
          clear hv5 hb5 hs hss hL5 HS4 F2 HCY HLY HLq
          go_wp2
          go_roundw
          case rel => exact ⟨k / 2, _, s, _, _, by omega, congrArg (Value.int .i64) (Int.natCast_ediv k 2).symm, HST, HL5, HS6⟩
          case measure => simp [intOf]; omega
        · have hoi : (((k : Int) % 2) == 1) = false := by rw [beq_eq_false_iff_ne]; omega
          rw [if_neg hodd] at hst
          have HST := Lib.hid hst.symm
          clear hst hodd
          have HS3 := HS
          have HLq := HL
          clear HS HL a0 a1
          obtain ⟨wp, hwp⟩ : ∃ wp : World, wp = wo := ⟨_, rfl⟩
          go_upto_region 7 with fail
          rw [← hwp] at HS3 a2 a3 ⊢
          clear hwp
          have a4 := HS3.out.k9.cell 0 rfl
          have a5 := HS3.out.k9.cell 1 rfl
          obtain ⟨y, hy⟩ : ∃ y : Int, y = f * f := ⟨_, rfl⟩
          obtain ⟨cy, hcy⟩ : ∃ c : Bool, c = decide (y < 0) := ⟨_, rfl⟩
          have ly : Lw y.natAbs ≤ 400000 := by rw [hy]; exact Nat.le_trans (Lw_mulZ _ _ 40000 HLq.out.2 HLq.out.2) (by omega)
          have F1 : Hid (Calls Tryz.prog 95 #[.agg #[.bool false, .slice p9 (Lw f.natAbs) e9], .agg #[.bool false, .slice p9 (Lw f.natAbs) e9]] wp (IntBp cy y wp)) := by
            have := t95I f f false false _ _ wp HS3.out.s9 HS3.out.s9 HS3.out.n9 HS3.out.n9 (by have := HLq.out.2; omega) (by have := HLq.out.2; omega)
            rw [← hy] at this
            exact this.mono fun _ _ q => q.toBp hcy
          rw [← hy] at HST
          have HCY := Lib.hid hcy
          have HLY := Lib.hid ly
          clear hy hcy ly
          go_wp2_with fail
          refine F1.out.mono ?_
          rintro e w4 ⟨v4, rfl, hv4, hb4⟩
          obtain ⟨p4, c4, rfl, -, -, -⟩ := hv4.cells
          have HS4 := Lib.hid (HS3.out.next hb4)
          have F2 := Lib.hid (C5.out w4 y cy _ HCY.out HLY.out hv4 HS4.out.nm HS4.out.km)
          clear hv4 hb4 a4 a5 F1 HS3
          go_wp2_with fail
          refine F2.out.mono ?_
          rintro e w5 ⟨v5, rfl, hv5, hb5⟩
          obtain ⟨p5, c5, rfl, -, -, -⟩ := hv5.cells
          have hL5 := C6.out y
          obtain ⟨s, hs⟩ : ∃ s : Int, s = fr y m := ⟨_, rfl⟩
          rw [← hs] at hv5 hL5 HST ⊢
          have hss : false = decide (s < 0) := by rw [hs]; obtain ⟨-, g, -⟩ := fqr y m (by have := HMP.out; omega); have := (g HMP.out).1; simp; omega
          have HS5 := Lib.hid (HS4.out.next hb5)
          have HS6 := Lib.hid (HS5.out.put9 false (.slice p5 (Lw s.natAbs) c5) s hss hv5)
          have b4 := HS5.out.k9.cell 0 rfl
          have b5 := HS5.out.k9.cell 1 rfl
          have f4 := HS5.out.k9.free 0
          have f5 := HS5.out.k9.free 1
          have HL5 := Lib.hid (And.intro HLq.out.1 hL5)
          clear hv5 hb5 hs hss hL5 HS4 F2 HCY HLY HLq
          go_wp2
          go_roundw
          case rel => exact ⟨k / 2, _, s, _, _, by omega, congrArg (Value.int .i64) (Int.natCast_ediv k 2).symm, HST, HL5, HS6⟩
          case measure => simp [intOf]; omega
      · obtain rfl : k = 0 := by omega
        have h6 := HPM.out
        rw [pm_zero] at h6
        have HP6 := Lib.hid h6
        have s0 := HS.out.kr.cell 0 rfl
        have s1 := HS.out.kr.cell 1 rfl
        have f0 := HS.out.kr.free 0
        have f1 := HS.out.kr.free 1
        clear hpos h6 a2 a3
        go_wp2
        have g0 : (wo.setCell ⟨w.heap.size + 1 + 1, 0, none⟩ (.bool false)).cell? ⟨w.heap.size + 1 + 1, 0, none⟩ = some (.bool false) := (HS.out.kr.set 0 _).cell 0 rfl
        have g1 : ((wo.setCell ⟨w.heap.size + 1 + 1, 0, none⟩ (.bool false)).setCell ⟨w.heap.size + 1 + 1, 1, none⟩ (.slice p8 (Lw p.natAbs) e8)).cell? ⟨w.heap.size + 1 + 1, 1, none⟩ = some (.slice p8 (Lw p.natAbs) e8) := ((HS.out.kr.set 0 _).set 1 _).cell 1 rfl
        refine bodyPost_ret (v := .agg #[.bool false, .slice p8 (Lw p.natAbs) e8]) (by simp [results, Tryz.results66, go_sem, g0, g1]) rfl ?_
        rw [← HP6.out]
        exact ⟨_, by rw [← HS.out.s8], (HS.out.n8.setCell (HS.out.n8.ne67 HS.out.kr)).setCell (HS.out.n8.ne67 HS.out.kr), (HS.out.bel.setCell (by show w.heap.size ≤ w.heap.size + 1 + 1; omega) _).setCell (by show w.heap.size ≤ w.heap.size + 1 + 1; omega) _⟩
theorem fr_lw {x y : Int} {k : Nat} (hy : 0 < y) (hl : Lw y.natAbs ≤ k) : Lw (fr x y).natAbs ≤ k := Nat.le_trans (Lw_mono (by obtain ⟨-, g, -⟩ := fqr x y (by omega); have := g hy; omega)) hl
theorem pmF_lw {y : Int} {k : Nat} (hy : 0 < y) (hl : Lw y.natAbs ≤ k) : ∀ F n p f, Lw p.natAbs ≤ k → Lw (pmF y F n p f).natAbs ≤ k
  | 0, _, _, _, h => h
  | F + 1, n, p, f, h => by
    unfold pmF
    split
    · exact h
    · refine pmF_lw hy hl F _ _ _ ?_
      split
      · exact fr_lw hy hl
      · exact h
set_option maxRecDepth 100000 in
set_option maxHeartbeats 4000000 in
theorem t64 (x y n : Int) (b c : Bool) (va vb : Value) (gn : Nat) (w : World) (hb : b = decide (x < 0)) (hc : c = decide (y < 0)) (hA : Nt w va x.natAbs) (hB : Nt w vb y.natAbs) (hl : Lw x.natAbs ≤ 40000) (hl' : Lw y.natAbs ≤ 40000) (hn : w.cell? ⟨gn, 0, none⟩ = some (.int .i64 n)) :
    Calls Tryz.prog 64 #[.agg #[.bool b, va], .agg #[.bool c, vb], .pointer (some ⟨gn, 0, none⟩)] w fun e w' => e = .returned (.tuple #[.string (modS n x y), .int .i64 (modE n x y)]) ∧ Below w.heap.size w w' := by
  have hb0 : Below w.heap.size w ((w.alloc (.cells #[.bool b, va] 67)).alloc (.cells #[.bool c, vb] 67)) := ((Below.refl _ _).alloc (Nat.le_refl _) _).alloc (by simp) _
  have c0 := t65 c vb y.natAbs _ (hB.below hb0)
  have HA := Lib.hid (hA.below hb0)
  have HBB := Lib.hid (hB.below hb0)
  have hnc := below_cell hb0 hn
  obtain ⟨ka, kb⟩ : Blk ((w.alloc (.cells #[.bool b, va] 67)).alloc (.cells #[.bool c, vb] 67)) w.heap.size 67 [.bool b, va] ∧ Blk ((w.alloc (.cells #[.bool b, va] 67)).alloc (.cells #[.bool c, vb] 67)) (w.heap.size + 1) 67 [.bool c, vb] := by
    refine ⟨(Blk.new w #[.bool b, va] 67).alloc _, ?_⟩
    have := Blk.new (w.alloc (.cells #[.bool b, va] 67)) #[.bool c, vb] 67
    simpa using this
  obtain ⟨pa, ca, rfl, -, -, -⟩ := hA.cells
  obtain ⟨pb, cb, rfl, -, -, -⟩ := hB.cells
  have HB0 := Lib.hid hb0
  have HKA := Lib.hid ka
  have HKB := Lib.hid kb
  clear hA hB ka kb hb0 hn
  by_cases h1 : n < 0
  · have HM := Lib.hid (mod_bad (x := x) (y := y) (.inl h1 : n < 0 ∨ 1000000 < n ∨ y ≤ 0))
    clear c0 hb hc
    go_enter Tryz.func64, Tryz.ntmps64
    go_wp2_with fail
    go_ret2
    exact ⟨by rw [HM.out.1, HM.out.2]; rfl, HB0.out⟩
  · have h1' : 0 ≤ n := by omega
    by_cases h2 : 1000000 < n
    · have HM := Lib.hid (mod_bad (x := x) (y := y) (.inr (.inl h2) : n < 0 ∨ 1000000 < n ∨ y ≤ 0))
      clear c0 hb hc h1
      go_enter Tryz.func64, Tryz.ntmps64
      go_wp2_with fail
      go_ret2
      exact ⟨by rw [HM.out.1, HM.out.2]; rfl, HB0.out⟩
    · have h2' : n ≤ 1000000 := by omega
      by_cases h3 : y < 0
      · have HM := Lib.hid (mod_bad (x := x) (.inr (.inr (by omega)) : n < 0 ∨ 1000000 < n ∨ y ≤ 0))
        obtain rfl : c = true := by rw [hc]; simpa using h3
        clear c0 hb hc h1 h2 h3
        go_enter Tryz.func64, Tryz.ntmps64
        go_wp2_with fail
        go_ret2
        exact ⟨by rw [HM.out.1, HM.out.2]; rfl, HB0.out⟩
      · obtain rfl : c = false := by rw [hc]; simpa using h3
        by_cases h4 : y = 0
        · have HM := Lib.hid (mod_bad (x := x) (.inr (.inr (by omega)) : n < 0 ∨ 1000000 < n ∨ y ≤ 0))
          rw [show decide (y.natAbs = 0) = true by rw [h4]; rfl] at c0
          have C0 := Lib.hid c0
          clear c0 hb hc h1 h2 h3 h4
          go_enter Tryz.func64, Tryz.ntmps64
          go_wp2_with fail
          refine C0.out.mono ?_
          rintro e w1 ⟨rfl, hb1⟩
          have hB1 := bThen HB0.out hb1
          go_wp2_with fail
          go_ret2
          exact ⟨by rw [HM.out.1, HM.out.2]; rfl, hB1⟩
        · have HM := Lib.hid (mod_good (x := x) (show ¬ (n < 0 ∨ 1000000 < n ∨ y ≤ 0) by omega))
          rw [show decide (y.natAbs = 0) = false by simp; omega] at c0
          have C0 := Lib.hid c0
          obtain ⟨k, rfl⟩ := Int.eq_ofNat_of_zero_le h1'
          have hyp : 0 < y := by omega
          have hk : k ≤ 1000000 := by omega
          have C1 := Lib.hid (fun (W : World) (h1 : Nt W (.slice pa (Lw x.natAbs) ca) x.natAbs) (h2 : Nt W (.slice pb (Lw y.natAbs) cb) y.natAbs) => t66 x y b _ _ k W hb hyp h1 h2 hl hl' hk)
          have hlr : Lw (pm y k (fr 1 y) (fr x y)).natAbs ≤ 40000 := pmF_lw hyp hl' _ _ _ _ (fr_lw hyp hl')
          rw [Int.toNat_natCast] at HM
          generalize pm y k (fr 1 y) (fr x y) = r at *
          clear c0 hb hc h1 h2 h3 h4 hl hl' hk hyp
          go_enter Tryz.func64, Tryz.ntmps64
          go_wp2_with fail
          refine C0.out.mono ?_
          rintro e w1 ⟨rfl, hb1⟩
          have hB1 := bThen HB0.out hb1
          have j1 := HKA.out.below hb1 HKA.out.lt
          have j2 := HKB.out.below hb1 HKB.out.lt
          have r0 := j1.cell 0 rfl
          have r1 := j1.cell 1 rfl
          have r2 := j2.cell 0 rfl
          have r3 := j2.cell 1 rfl
          have r4 := below_cell hb1 hnc
          have C2 := Lib.hid (C1.out w1 (HA.out.below hb1) (HBB.out.below hb1))
          clear hb1 C0 C1 j1 j2 HKA HKB HA HBB hnc
          go_wp2_with fail
          refine C2.out.mono ?_
          rintro e w2 ⟨v, rfl, hv, hb2⟩
          obtain ⟨p2, c2, rfl, -, -, -⟩ := hv.cells
          have hB2 := bThen hB1 hb2
          have C3 := Lib.hid (t58 r (decide (r < 0)) _ w2 rfl hv (by omega))
          obtain ⟨d, hd⟩ : ∃ d : Bool, d = decide (r < 0) := ⟨_, rfl⟩
          rw [← hd] at C3 ⊢
          clear hv hb2 hd hB1 r0 r1 r2 r3 r4
          go_wp2_with fail
          refine C3.out.mono ?_
          rintro e w3 ⟨rfl, hb3⟩
          have hB3 := bThen hB2 hb3
          go_wp2_with fail
          go_ret2
          exact ⟨by rw [HM.out.1, HM.out.2]; rfl, hB3⟩
set_option maxRecDepth 100000 in
set_option maxHeartbeats 2000000 in
theorem r63_64 (s t : ByteArray) (gn : Nat) (n : Int) (w : World) (hn : w.cell? ⟨gn, 0, none⟩ = some (.int .i64 n)) :
    Calls Tryz.prog 63 #[.func (.func 56) #[] #[], .string s, .string t, .func (.func 64) #[] #[.pointer (some ⟨gn, 0, none⟩)]] w (RkR s.data.toList t.data.toList (.tuple #[.string ⟨#[]⟩, .int .i64 1]) (fun x y => .tuple #[.string (modS n x y), .int .i64 (modE n x y)]) w) := by
  have HN := Lib.hid hn
  clear hn
  go_enter Tryz.func63, Tryz.ntmps63
  go_wp2_with fail
  refine (t56 s w).mono ?_
  rintro e w1 (⟨hv1, rfl, hb1⟩ | ⟨x, v, hx, rfl, hn1, hb1⟩)
  · have HV1 := Lib.hid hv1
    have hB1 := hb1.alloc hb1.size (.cells #[.bool false, .slice none 0 0] 67)
    have HB1 := Lib.hid hB1
    clear hv1 hB1
    go_wp2_with fail
    refine (t56 t _).mono ?_
    rintro e w2 (⟨hv2, rfl, hb2⟩ | ⟨y, v2, hy, rfl, hn2, hb2⟩)
    · have HB2 := Lib.hid (HB1.out.trans (hb2.mono HB1.out.size))
      clear hv2 hb2
      go_wp2_with fail
      go_ret2
      exact .inl ⟨.inl HV1.out, rfl, HB2.out.alloc HB2.out.size _⟩
    · have HB2 := Lib.hid (HB1.out.trans (hb2.mono HB1.out.size))
      obtain ⟨p2, c2, rfl, -, -, -⟩ := hn2.cells
      clear hy hn2 hb2
      go_wp2_with fail
      go_ret2
      exact .inl ⟨.inl HV1.out, rfl, HB2.out.alloc HB2.out.size _⟩
  · have HX := Lib.hid hx
    obtain ⟨p1, c1, rfl, -, -, -⟩ := hn1.cells
    have hB1 := hb1.alloc hb1.size (.cells #[.bool (decide (x < 0)), .slice p1 (Lw x.natAbs) c1] 67)
    have HB1 := Lib.hid hB1
    have HK1 := Lib.hid (Blk.new w1 #[.bool (decide (x < 0)), .slice p1 (Lw x.natAbs) c1] 67)
    have HN1 := Lib.hid (hn1.below ((Below.refl _ _).alloc (Nat.le_refl _) (.cells #[.bool (decide (x < 0)), .slice p1 (Lw x.natAbs) c1] 67)))
    obtain ⟨b, hb⟩ : ∃ b : Bool, b = decide (x < 0) := ⟨_, rfl⟩
    rw [← hb] at HB1 HK1 HN1 ⊢
    have HBX := Lib.hid hb
    clear hx hn1 hB1 hb1 hb
    go_wp2_with fail
    refine (t56 t _).mono ?_
    rintro e w2 (⟨hv2, rfl, hb2⟩ | ⟨y, v2, hy, rfl, hn2, hb2⟩)
    · have HB2 := Lib.hid (HB1.out.trans (hb2.mono HB1.out.size))
      have HV2 := Lib.hid hv2
      clear hv2 hb2
      go_wp2_with fail
      go_ret2
      exact .inl ⟨.inr HV2.out, rfl, HB2.out.alloc HB2.out.size _⟩
    · have HY := Lib.hid hy
      obtain ⟨p2, c2, rfl, -, -, -⟩ := hn2.cells
      obtain ⟨c, hc⟩ : ∃ c : Bool, c = decide (y < 0) := ⟨_, rfl⟩
      rw [← hc]
      have HBY := Lib.hid hc
      have hk := HK1.out.below hb2 (by simp)
      have h1 := (hk.alloc (.cells #[.bool c, .slice p2 (Lw y.natAbs) c2] 67)).cell 0 rfl
      have h2 := (hk.alloc (.cells #[.bool c, .slice p2 (Lw y.natAbs) c2] 67)).cell 1 rfl
      have hB2 := HB1.out.trans (hb2.mono HB1.out.size)
      have hB3 := hB2.alloc hB2.size (.cells #[.bool c, .slice p2 (Lw y.natAbs) c2] 67)
      have c3 := t64 x y n b c _ _ gn (w2.alloc (.cells #[.bool c, .slice p2 (Lw y.natAbs) c2] 67)) HBX.out HBY.out ((HN1.out.below hb2).below ((Below.refl _ _).alloc (Nat.le_refl _) _)) (hn2.below ((Below.refl _ _).alloc (Nat.le_refl _) _)) (Nat.le_trans (fits_Lw HX.out.2) (by omega)) (Nat.le_trans (fits_Lw HY.out.2) (by omega)) (below_cell hB3 HN.out)
      have C3 := Lib.hid c3
      have HB3 := Lib.hid hB3
      clear hy hn2 hb2 hk hB2 hB3 c3 hc
      go_wp2_with fail
      refine C3.out.mono ?_
      rintro e w3 ⟨rfl, hb3⟩
      go_wp2_with fail
      go_ret2
      exact .inr ⟨x, y, HX.out, HY.out, rfl, HB3.out.trans (hb3.mono HB3.out.size)⟩
set_option maxRecDepth 100000 in
set_option maxHeartbeats 4000000 in
set_option maxRecDepth 100000 in
set_option maxHeartbeats 4000000 in
theorem t20 (s t : ByteArray) (n : Int) (w : World) : Calls Tryz.prog 20 #[.string s, .int .i64 n, .string t] w (ModQ s.data.toList t.data.toList n w) := by
  have HB0 := Lib.hid (bSelf w (.cells #[.int .i64 n] 3))
  have C := Lib.hid (r63_64 s t w.heap.size n (w.alloc (.cells #[.int .i64 n] 3)) ((Blk.new w #[.int .i64 n] 3).cell 0 rfl))
  go_enter Tryz.func20, Tryz.ntmps20
  go_wp2_with fail
  refine C.out.mono ?_
  rintro e w1 (⟨hv, rfl, hb⟩ | ⟨x, y, hx, hy, rfl, hb⟩)
  · have HV := Lib.hid hv
    have hB := bThen HB0.out hb
    clear hv hb
    go_wp2_with fail
    go_ret2
    exact .inl ⟨HV.out, rfl, hB⟩
  · have HX := Lib.hid hx
    have HY := Lib.hid hy
    have hB := bThen HB0.out hb
    clear hx hy hb
    go_wp2_with fail
    go_ret2
    exact .inr ⟨x, y, HX.out, HY.out, rfl, hB⟩
end Go.Proofs.YtifhiefdhhmdeaaGreatDoor
