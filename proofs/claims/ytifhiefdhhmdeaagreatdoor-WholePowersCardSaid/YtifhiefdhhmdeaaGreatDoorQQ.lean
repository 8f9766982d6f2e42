/- Contract of the integers' over. -/
import Derived.Test.YtifhiefdhhmdeaaGreatDoorQ
namespace Go.Proofs.YtifhiefdhhmdeaaGreatDoor
open Go Go.RowKit
set_option maxRecDepth 100000 in
set_option maxHeartbeats 20000000 in
theorem t98 (x y : Int) (b c : Bool) (va vb : Value) (w : World) (hbx : b = decide (x < 0)) (hcy : c = decide (y < 0)) (hy0 : y ≠ 0) (hA : Nt w va x.natAbs) (hB : Nt w vb y.natAbs) (hl : Lw x.natAbs ≤ 800000) (hl' : Lw y.natAbs ≤ 800000) :
    Calls Tryz.prog 98 #[.agg #[.bool b, va], .agg #[.bool c, vb]] w (IntR2 (fq x y) (fr x y) w) := by
  obtain ⟨pa, ca, rfl, -, -, -⟩ := hA.cells
  obtain ⟨pb, cb, rfl, -, -, -⟩ := hB.cells
  have hb0 : Below w.heap.size w ((((w.alloc (.cells #[.bool b, .slice pa (Lw x.natAbs) ca] 67)).alloc (.cells #[.bool c, .slice pb (Lw y.natAbs) cb] 67)).alloc (.cells #[.bool false, .slice none 0 0] 67)).alloc (.cells #[.bool false, .slice none 0 0] 67)) := ((((Below.refl _ _).alloc (Nat.le_refl _) _).alloc (by simp) _).alloc (by simp; omega) _).alloc (by simp; omega) _
  have c1 := t141 _ _ x.natAbs y.natAbs _ (hA.below hb0) (hB.below hb0) (by omega) (by omega) (by omega)
  have C1 := Lib.hid c1
  have HB0 := Lib.hid hb0
  have HA := Lib.hid hA
  have HB := Lib.hid hB
  have HX := Lib.hid hbx
  have HY := Lib.hid hcy
  have HY0 := Lib.hid hy0
  clear c1 hb0 hA hB hbx hcy hy0
  go_enter Tryz.func98, Tryz.ntmps98
  go_wp2_with fail
  refine C1.out.mono ?_
  rintro e w1 ⟨vq, vr, rfl, hq, hr, hb1⟩
  obtain ⟨pq, cq, rfl, -, -, -⟩ := hq.cells
  obtain ⟨pr, cr, rfl, -, -, -⟩ := hr.cells
  have hBw1 : Below w.heap.size w w1 := HB0.out.trans (hb1.mono HB0.out.size)
  have hN : Hid (Blk w1 w.heap.size 67 [.bool b, .slice pa (Lw x.natAbs) ca] ∧ Blk w1 (w.heap.size + 1) 67 [.bool c, .slice pb (Lw y.natAbs) cb] ∧ Blk w1 (w.heap.size + 2) 67 [.bool false, .slice none 0 0] ∧ Blk w1 (w.heap.size + 3) 67 [.bool false, .slice none 0 0]) := by
    have hx := bx2s w b c (.slice pa (Lw x.natAbs) ca) (.slice pb (Lw y.natAbs) cb)
    refine ⟨(hx.bx.alloc _).below hb1 (hx.bx.alloc _).lt, (hx.by'.alloc _).below hb1 (hx.by'.alloc _).lt, (hx.res.alloc _).below hb1 (hx.res.alloc _).lt, ?_⟩
    have h4 := Blk.new ((((w.alloc (.cells #[.bool b, .slice pa (Lw x.natAbs) ca] 67)).alloc (.cells #[.bool c, .slice pb (Lw y.natAbs) cb] 67)).alloc (.cells #[.bool false, .slice none 0 0] 67))) #[.bool false, .slice none 0 0] 67
    simp at h4
    exact h4.below hb1 h4.lt
  have h1 := hN.out.1.cell 0 rfl
  have h2 := hN.out.1.cell 1 rfl
  have h3 := hN.out.2.1.cell 0 rfl
  have h4 := hN.out.2.1.cell 1 rfl
  obtain ⟨s1, hs1⟩ : ∃ s : Bool, s = ((b != c) && decide (0 < x.natAbs / y.natAbs)) := ⟨_, rfl⟩
  obtain ⟨s2, hs2⟩ : ∃ s : Bool, s = (b && decide (0 < x.natAbs % y.natAbs)) := ⟨_, rfl⟩
  have D1 := Lib.hid (fun v (W : World) (h : Nt W v (x.natAbs / y.natAbs)) => hs1 ▸ t73 (b != c) v (x.natAbs / y.natAbs) W h)
  have D2 := Lib.hid (fun v (W : World) (h : Nt W v (x.natAbs % y.natAbs)) => hs2 ▸ t73 b v (x.natAbs % y.natAbs) W h)
  have HS1 := Lib.hid hs1
  have HS2 := Lib.hid hs2
  have HQ := Lib.hid hq
  have HR := Lib.hid hr
  generalize hQx : x.natAbs / y.natAbs = Q at *
  generalize hRx : x.natAbs % y.natAbs = R at *
  have HQX := Lib.hid hQx
  have HRX := Lib.hid hRx
  clear hs1 hs2 hq hr hb1 hQx hRx
  go_wp2_with fail
  refine (D1.out _ _ HQ.out).mono ?_
  rintro e w2 ⟨rfl, hb2⟩
  have hBw2 : Below w.heap.size w w2 := hBw1.trans (hb2.mono hBw1.size)
  have hN2 : Hid (Blk w2 w.heap.size 67 [.bool b, .slice pa (Lw x.natAbs) ca] ∧ Blk w2 (w.heap.size + 1) 67 [.bool c, .slice pb (Lw y.natAbs) cb] ∧ Blk w2 (w.heap.size + 2) 67 [.bool false, .slice none 0 0] ∧ Blk w2 (w.heap.size + 3) 67 [.bool false, .slice none 0 0]) :=
    ⟨hN.out.1.below hb2 hN.out.1.lt, hN.out.2.1.below hb2 hN.out.2.1.lt, hN.out.2.2.1.below hb2 hN.out.2.2.1.lt, hN.out.2.2.2.below hb2 hN.out.2.2.2.lt⟩
  have HQ2 := Lib.hid (HQ.out.below hb2)
  have HR2 := Lib.hid (HR.out.below hb2)
  have r0 := hN2.out.2.2.1.cell 0 rfl
  have r1 := hN2.out.2.2.1.cell 1 rfl
  have f0 := hN2.out.2.2.1.free 0
  have f1 := hN2.out.2.2.1.free 1
  have g1 := hN2.out.1.cell 0 rfl
  clear h1 h2 h3 h4 hb2 hN HQ HR hBw1
  go_wp2_with fail
  have hN3 : Hid (Blk ((w2.setCell ⟨w.heap.size + 1 + 1, 0, none⟩ (.bool s1)).setCell ⟨w.heap.size + 1 + 1, 1, none⟩ (.slice pq (Lw Q) cq)) w.heap.size 67 [.bool b, .slice pa (Lw x.natAbs) ca] ∧ Blk ((w2.setCell ⟨w.heap.size + 1 + 1, 0, none⟩ (.bool s1)).setCell ⟨w.heap.size + 1 + 1, 1, none⟩ (.slice pq (Lw Q) cq)) (w.heap.size + 1) 67 [.bool c, .slice pb (Lw y.natAbs) cb] ∧ Blk ((w2.setCell ⟨w.heap.size + 1 + 1, 0, none⟩ (.bool s1)).setCell ⟨w.heap.size + 1 + 1, 1, none⟩ (.slice pq (Lw Q) cq)) (w.heap.size + 2) 67 [.bool s1, .slice pq (Lw Q) cq] ∧ Blk ((w2.setCell ⟨w.heap.size + 1 + 1, 0, none⟩ (.bool s1)).setCell ⟨w.heap.size + 1 + 1, 1, none⟩ (.slice pq (Lw Q) cq)) (w.heap.size + 3) 67 [.bool false, .slice none 0 0]) :=
    ⟨(hN2.out.1.setOther _ _ (by first | (simp; done) | (simp; omega))).setOther _ _ (by first | (simp; done) | (simp; omega)), (hN2.out.2.1.setOther _ _ (by first | (simp; done) | (simp; omega))).setOther _ _ (by first | (simp; done) | (simp; omega)), (hN2.out.2.2.1.set 0 _).set 1 _, (hN2.out.2.2.2.setOther _ _ (by first | (simp; done) | (simp; omega))).setOther _ _ (by first | (simp; done) | (simp; omega))⟩
  have HQ3 : Hid (Nt ((w2.setCell ⟨w.heap.size + 1 + 1, 0, none⟩ (.bool s1)).setCell ⟨w.heap.size + 1 + 1, 1, none⟩ (.slice pq (Lw Q) cq)) (.slice pq (Lw Q) cq) Q) := (HQ2.out.setCell (HQ2.out.ne67 hN2.out.2.2.1)).setCell (HQ2.out.ne67 hN2.out.2.2.1)
  have HR3 : Hid (Nt ((w2.setCell ⟨w.heap.size + 1 + 1, 0, none⟩ (.bool s1)).setCell ⟨w.heap.size + 1 + 1, 1, none⟩ (.slice pq (Lw Q) cq)) (.slice pr (Lw R) cr) R) := (HR2.out.setCell (HR2.out.ne67 hN2.out.2.2.1)).setCell (HR2.out.ne67 hN2.out.2.2.1)
  have hBw3 : Below w.heap.size w ((w2.setCell ⟨w.heap.size + 1 + 1, 0, none⟩ (.bool s1)).setCell ⟨w.heap.size + 1 + 1, 1, none⟩ (.slice pq (Lw Q) cq)) := (hBw2.setCell (by simp; omega) _).setCell (by simp; omega) _
  clear r0 r1 f0 f1 g1 hBw2 hN2 HQ2 HR2
  generalize (w2.setCell ⟨w.heap.size + 1 + 1, 0, none⟩ (.bool s1)).setCell ⟨w.heap.size + 1 + 1, 1, none⟩ (.slice pq (Lw Q) cq) = W3 at *
  refine (D2.out _ _ HR3.out).mono ?_
  rintro e w4 ⟨rfl, hb4⟩
  have hBw4 : Below w.heap.size w w4 := hBw3.trans (hb4.mono hBw3.size)
  have hN4 : Hid (Blk w4 w.heap.size 67 [.bool b, .slice pa (Lw x.natAbs) ca] ∧ Blk w4 (w.heap.size + 1) 67 [.bool c, .slice pb (Lw y.natAbs) cb] ∧ Blk w4 (w.heap.size + 2) 67 [.bool s1, .slice pq (Lw Q) cq] ∧ Blk w4 (w.heap.size + 3) 67 [.bool false, .slice none 0 0]) :=
    ⟨hN3.out.1.below hb4 hN3.out.1.lt, hN3.out.2.1.below hb4 hN3.out.2.1.lt, hN3.out.2.2.1.below hb4 hN3.out.2.2.1.lt, hN3.out.2.2.2.below hb4 hN3.out.2.2.2.lt⟩
  have HQ4 := Lib.hid (HQ3.out.below hb4)
  have HR4 := Lib.hid (HR3.out.below hb4)
  have r0 := hN4.out.2.2.2.cell 0 rfl
  have r1 := hN4.out.2.2.2.cell 1 rfl
  have f0 := hN4.out.2.2.2.free 0
  have f1 := hN4.out.2.2.2.free 1
  have hN5 : Hid (Blk ((w4.setCell ⟨w.heap.size + 1 + 1 + 1, 0, none⟩ (.bool s2)).setCell ⟨w.heap.size + 1 + 1 + 1, 1, none⟩ (.slice pr (Lw R) cr)) w.heap.size 67 [.bool b, .slice pa (Lw x.natAbs) ca] ∧ Blk ((w4.setCell ⟨w.heap.size + 1 + 1 + 1, 0, none⟩ (.bool s2)).setCell ⟨w.heap.size + 1 + 1 + 1, 1, none⟩ (.slice pr (Lw R) cr)) (w.heap.size + 1) 67 [.bool c, .slice pb (Lw y.natAbs) cb] ∧ Blk ((w4.setCell ⟨w.heap.size + 1 + 1 + 1, 0, none⟩ (.bool s2)).setCell ⟨w.heap.size + 1 + 1 + 1, 1, none⟩ (.slice pr (Lw R) cr)) (w.heap.size + 2) 67 [.bool s1, .slice pq (Lw Q) cq] ∧ Blk ((w4.setCell ⟨w.heap.size + 1 + 1 + 1, 0, none⟩ (.bool s2)).setCell ⟨w.heap.size + 1 + 1 + 1, 1, none⟩ (.slice pr (Lw R) cr)) (w.heap.size + 3) 67 [.bool s2, .slice pr (Lw R) cr]) :=
    ⟨(hN4.out.1.setOther _ _ (by first | (simp; done) | (simp; omega))).setOther _ _ (by first | (simp; done) | (simp; omega)), (hN4.out.2.1.setOther _ _ (by first | (simp; done) | (simp; omega))).setOther _ _ (by first | (simp; done) | (simp; omega)), (hN4.out.2.2.1.setOther _ _ (by first | (simp; done) | (simp; omega))).setOther _ _ (by first | (simp; done) | (simp; omega)), (hN4.out.2.2.2.set 0 _).set 1 _⟩
  have HQ5 : Hid (Nt ((w4.setCell ⟨w.heap.size + 1 + 1 + 1, 0, none⟩ (.bool s2)).setCell ⟨w.heap.size + 1 + 1 + 1, 1, none⟩ (.slice pr (Lw R) cr)) (.slice pq (Lw Q) cq) Q) := (HQ4.out.setCell (HQ4.out.ne67 hN4.out.2.2.2)).setCell (HQ4.out.ne67 hN4.out.2.2.2)
  have HR5 : Hid (Nt ((w4.setCell ⟨w.heap.size + 1 + 1 + 1, 0, none⟩ (.bool s2)).setCell ⟨w.heap.size + 1 + 1 + 1, 1, none⟩ (.slice pr (Lw R) cr)) (.slice pr (Lw R) cr) R) := (HR4.out.setCell (HR4.out.ne67 hN4.out.2.2.2)).setCell (HR4.out.ne67 hN4.out.2.2.2)
  have hBw5 : Below w.heap.size w ((w4.setCell ⟨w.heap.size + 1 + 1 + 1, 0, none⟩ (.bool s2)).setCell ⟨w.heap.size + 1 + 1 + 1, 1, none⟩ (.slice pr (Lw R) cr)) := (hBw4.setCell (by simp; omega) _).setCell (by simp; omega) _
  clear hb4 hBw4 hBw3 hN3 HQ3 HR3
  have z0 : ((w4.setCell ⟨w.heap.size + 1 + 1 + 1, 0, none⟩ (.bool s2))).cell? ⟨w.heap.size + 1 + 1 + 1, 0, none⟩ = some (.bool s2) := (hN4.out.2.2.2.set 0 _).cell 0 rfl
  have z1 : ((w4.setCell ⟨w.heap.size + 1 + 1 + 1, 0, none⟩ (.bool s2)).setCell ⟨w.heap.size + 1 + 1 + 1, 1, none⟩ (.slice pr (Lw R) cr)).cell? ⟨w.heap.size + 1 + 1 + 1, 1, none⟩ = some (.slice pr (Lw R) cr) := hN5.out.2.2.2.cell 1 rfl
  have hw4 : Hid (Blk w4 w.heap.size 67 [.bool b, .slice pa (Lw x.natAbs) ca]) := hN4.out.1
  clear hN4 HQ4 HR4
  go_wp2_with fail
  clear z0 z1 r0 r1 f0 f1 hw4
  generalize (w4.setCell ⟨w.heap.size + 1 + 1 + 1, 0, none⟩ (.bool s2)).setCell ⟨w.heap.size + 1 + 1 + 1, 1, none⟩ (.slice pr (Lw R) cr) = W5 at *
  have D5 := Lib.hid (t65 s2 _ R W5 HR5.out)
  refine D5.out.mono ?_
  rintro e w6 ⟨rfl, hb6⟩
  have hBw6 : Below w.heap.size w w6 := hBw5.trans (hb6.mono hBw5.size)
  have hN6 : Hid (Blk w6 w.heap.size 67 [.bool b, .slice pa (Lw x.natAbs) ca] ∧ Blk w6 (w.heap.size + 1) 67 [.bool c, .slice pb (Lw y.natAbs) cb] ∧ Blk w6 (w.heap.size + 2) 67 [.bool s1, .slice pq (Lw Q) cq] ∧ Blk w6 (w.heap.size + 3) 67 [.bool s2, .slice pr (Lw R) cr]) :=
    ⟨hN5.out.1.below hb6 hN5.out.1.lt, hN5.out.2.1.below hb6 hN5.out.2.1.lt, hN5.out.2.2.1.below hb6 hN5.out.2.2.1.lt, hN5.out.2.2.2.below hb6 hN5.out.2.2.2.lt⟩
  have HQ6 := Lib.hid (HQ5.out.below hb6)
  have HR6 := Lib.hid (HR5.out.below hb6)
  have h1 := hN6.out.1.cell 0 rfl
  have h3 := hN6.out.2.1.cell 0 rfl
  have q0 := hN6.out.2.2.1.cell 0 rfl
  have q1 := hN6.out.2.2.1.cell 1 rfl
  have t0 := hN6.out.2.2.2.cell 0 rfl
  have t1 := hN6.out.2.2.2.cell 1 rfl
  clear hb6 hBw5 hN5 HQ5 HR5
  by_cases hcase : R = 0 ∨ (b != c) = false
  · have hd : Hid (s1 = decide (fq x y < 0) ∧ s2 = decide (fr x y < 0) ∧ (fq x y).natAbs = Q ∧ (fr x y).natAbs = R) := fq_fr_plain x y b c s1 s2 Q R HX.out HY.out HS1.out HS2.out HQX.out HRX.out hcase
    have f0 := hN6.out.2.2.1.free 0
    have f1 := hN6.out.2.2.1.free 1
    have f2 := hN6.out.2.2.2.free 0
    have f3 := hN6.out.2.2.2.free 1
    rcases hcase with hR0 | hbc
    · have hdz : decide (R = 0) = true := by simpa using hR0
      rw [hdz]
      clear hR0 hdz
      go_wp2_with fail
      go_region
      have hA : Blk ((w6.setCell ⟨w.heap.size + 1 + 1, 0, none⟩ (.bool s1)).setCell ⟨w.heap.size + 1 + 1, 1, none⟩ (.slice pq (Lw Q) cq)) (w.heap.size + 1 + 1) 67 [.bool s1, .slice pq (Lw Q) cq] := (Blk.set (w := w6) hN6.out.2.2.1 0 _).set 1 _
      have hB : Blk ((w6.setCell ⟨w.heap.size + 1 + 1, 0, none⟩ (.bool s1)).setCell ⟨w.heap.size + 1 + 1, 1, none⟩ (.slice pq (Lw Q) cq)) (w.heap.size + 1 + 1 + 1) 67 [.bool s2, .slice pr (Lw R) cr] := (Blk.setOther (w := w6) hN6.out.2.2.2 _ _ (by simp)).setOther _ _ (by simp)
      have g0 : (w6.setCell ⟨w.heap.size + 1 + 1, 0, none⟩ (.bool s1)).cell? ⟨w.heap.size + 1 + 1, 0, none⟩ = some (.bool s1) := (Blk.set (w := w6) hN6.out.2.2.1 0 _).cell 0 rfl
      have g1 : ((w6.setCell ⟨w.heap.size + 1 + 1, 0, none⟩ (.bool s1)).setCell ⟨w.heap.size + 1 + 1, 1, none⟩ (.slice pq (Lw Q) cq)).cell? ⟨w.heap.size + 1 + 1, 1, none⟩ = some (.slice pq (Lw Q) cq) := hA.cell 1 rfl
      have g2 : (((w6.setCell ⟨w.heap.size + 1 + 1, 0, none⟩ (.bool s1)).setCell ⟨w.heap.size + 1 + 1, 1, none⟩ (.slice pq (Lw Q) cq)).setCell ⟨w.heap.size + 1 + 1 + 1, 0, none⟩ (.bool s2)).cell? ⟨w.heap.size + 1 + 1 + 1, 0, none⟩ = some (.bool s2) := (hB.set 0 _).cell 0 rfl
      have g3 : ((((w6.setCell ⟨w.heap.size + 1 + 1, 0, none⟩ (.bool s1)).setCell ⟨w.heap.size + 1 + 1, 1, none⟩ (.slice pq (Lw Q) cq)).setCell ⟨w.heap.size + 1 + 1 + 1, 0, none⟩ (.bool s2)).setCell ⟨w.heap.size + 1 + 1 + 1, 1, none⟩ (.slice pr (Lw R) cr)).cell? ⟨w.heap.size + 1 + 1 + 1, 1, none⟩ = some (.slice pr (Lw R) cr) := ((hB.set 0 _).set 1 _).cell 1 rfl
      have HAB := Lib.hid hA
      have HBB := Lib.hid hB
      clear hA hB
      go_wp2
      refine bodyPost_ret (v := .tuple #[.agg #[.bool s1, .slice pq (Lw Q) cq], .agg #[.bool s2, .slice pr (Lw R) cr]]) (by simp [results, Tryz.results98, go_sem, g0, g1, g2, g3]) rfl ?_
      have hq2 : Nt ((w6.setCell ⟨w.heap.size + 1 + 1, 0, none⟩ (.bool s1)).setCell ⟨w.heap.size + 1 + 1, 1, none⟩ (.slice pq (Lw Q) cq)) (.slice pq (Lw Q) cq) Q := (Nt.setCell (w := w6) HQ6.out (HQ6.out.ne67 hN6.out.2.2.1)).setCell (HQ6.out.ne67 hN6.out.2.2.1)
      have hr2 : Nt ((w6.setCell ⟨w.heap.size + 1 + 1, 0, none⟩ (.bool s1)).setCell ⟨w.heap.size + 1 + 1, 1, none⟩ (.slice pq (Lw Q) cq)) (.slice pr (Lw R) cr) R := (Nt.setCell (w := w6) HR6.out (HR6.out.ne67 hN6.out.2.2.1)).setCell (HR6.out.ne67 hN6.out.2.2.1)
      refine ⟨_, _, by rw [← hd.out.1, ← hd.out.2.1], ?_, ?_, ((((hBw6.setCell (by simp; omega) _).setCell (by simp; omega) _).setCell (by simp; omega) _).setCell (by simp; omega) _).drew⟩
      · rw [hd.out.2.2.1]; exact ((hq2.setCell (hq2.ne67 HBB.out)).setCell (hq2.ne67 HBB.out)).below (Below.refl _ _).drew
      · rw [hd.out.2.2.2]; exact ((hr2.setCell (hr2.ne67 HBB.out)).setCell (hr2.ne67 HBB.out)).below (Below.refl _ _).drew
    · by_cases hR0 : R = 0
      · have hdz : decide (R = 0) = true := by simpa using hR0
        rw [hdz]
        clear hR0 hdz
        go_wp2_with fail
        go_region
        have hA : Blk ((w6.setCell ⟨w.heap.size + 1 + 1, 0, none⟩ (.bool s1)).setCell ⟨w.heap.size + 1 + 1, 1, none⟩ (.slice pq (Lw Q) cq)) (w.heap.size + 1 + 1) 67 [.bool s1, .slice pq (Lw Q) cq] := (Blk.set (w := w6) hN6.out.2.2.1 0 _).set 1 _
        have hB : Blk ((w6.setCell ⟨w.heap.size + 1 + 1, 0, none⟩ (.bool s1)).setCell ⟨w.heap.size + 1 + 1, 1, none⟩ (.slice pq (Lw Q) cq)) (w.heap.size + 1 + 1 + 1) 67 [.bool s2, .slice pr (Lw R) cr] := (Blk.setOther (w := w6) hN6.out.2.2.2 _ _ (by simp)).setOther _ _ (by simp)
        have g0 : (w6.setCell ⟨w.heap.size + 1 + 1, 0, none⟩ (.bool s1)).cell? ⟨w.heap.size + 1 + 1, 0, none⟩ = some (.bool s1) := (Blk.set (w := w6) hN6.out.2.2.1 0 _).cell 0 rfl
        have g1 : ((w6.setCell ⟨w.heap.size + 1 + 1, 0, none⟩ (.bool s1)).setCell ⟨w.heap.size + 1 + 1, 1, none⟩ (.slice pq (Lw Q) cq)).cell? ⟨w.heap.size + 1 + 1, 1, none⟩ = some (.slice pq (Lw Q) cq) := hA.cell 1 rfl
        have g2 : (((w6.setCell ⟨w.heap.size + 1 + 1, 0, none⟩ (.bool s1)).setCell ⟨w.heap.size + 1 + 1, 1, none⟩ (.slice pq (Lw Q) cq)).setCell ⟨w.heap.size + 1 + 1 + 1, 0, none⟩ (.bool s2)).cell? ⟨w.heap.size + 1 + 1 + 1, 0, none⟩ = some (.bool s2) := (hB.set 0 _).cell 0 rfl
        have g3 : ((((w6.setCell ⟨w.heap.size + 1 + 1, 0, none⟩ (.bool s1)).setCell ⟨w.heap.size + 1 + 1, 1, none⟩ (.slice pq (Lw Q) cq)).setCell ⟨w.heap.size + 1 + 1 + 1, 0, none⟩ (.bool s2)).setCell ⟨w.heap.size + 1 + 1 + 1, 1, none⟩ (.slice pr (Lw R) cr)).cell? ⟨w.heap.size + 1 + 1 + 1, 1, none⟩ = some (.slice pr (Lw R) cr) := ((hB.set 0 _).set 1 _).cell 1 rfl
        have HAB := Lib.hid hA
        have HBB := Lib.hid hB
        clear hA hB
        go_wp2
        refine bodyPost_ret (v := .tuple #[.agg #[.bool s1, .slice pq (Lw Q) cq], .agg #[.bool s2, .slice pr (Lw R) cr]]) (by simp [results, Tryz.results98, go_sem, g0, g1, g2, g3]) rfl ?_
        have hq2 : Nt ((w6.setCell ⟨w.heap.size + 1 + 1, 0, none⟩ (.bool s1)).setCell ⟨w.heap.size + 1 + 1, 1, none⟩ (.slice pq (Lw Q) cq)) (.slice pq (Lw Q) cq) Q := (Nt.setCell (w := w6) HQ6.out (HQ6.out.ne67 hN6.out.2.2.1)).setCell (HQ6.out.ne67 hN6.out.2.2.1)
        have hr2 : Nt ((w6.setCell ⟨w.heap.size + 1 + 1, 0, none⟩ (.bool s1)).setCell ⟨w.heap.size + 1 + 1, 1, none⟩ (.slice pq (Lw Q) cq)) (.slice pr (Lw R) cr) R := (Nt.setCell (w := w6) HR6.out (HR6.out.ne67 hN6.out.2.2.1)).setCell (HR6.out.ne67 hN6.out.2.2.1)
        refine ⟨_, _, by rw [← hd.out.1, ← hd.out.2.1], ?_, ?_, ((((hBw6.setCell (by simp; omega) _).setCell (by simp; omega) _).setCell (by simp; omega) _).setCell (by simp; omega) _).drew⟩
        · rw [hd.out.2.2.1]; exact ((hq2.setCell (hq2.ne67 HBB.out)).setCell (hq2.ne67 HBB.out)).below (Below.refl _ _).drew
        · rw [hd.out.2.2.2]; exact ((hr2.setCell (hr2.ne67 HBB.out)).setCell (hr2.ne67 HBB.out)).below (Below.refl _ _).drew
      · have hdz : decide (R = 0) = false := by simpa using hR0
        obtain rfl : b = c := by simpa using hbc
        rw [hdz]
        clear hR0 hdz hbc
        go_wp2_with fail
        go_region
        have hA : Blk ((w6.setCell ⟨w.heap.size + 1 + 1, 0, none⟩ (.bool s1)).setCell ⟨w.heap.size + 1 + 1, 1, none⟩ (.slice pq (Lw Q) cq)) (w.heap.size + 1 + 1) 67 [.bool s1, .slice pq (Lw Q) cq] := (Blk.set (w := w6) hN6.out.2.2.1 0 _).set 1 _
        have hB : Blk ((w6.setCell ⟨w.heap.size + 1 + 1, 0, none⟩ (.bool s1)).setCell ⟨w.heap.size + 1 + 1, 1, none⟩ (.slice pq (Lw Q) cq)) (w.heap.size + 1 + 1 + 1) 67 [.bool s2, .slice pr (Lw R) cr] := (Blk.setOther (w := w6) hN6.out.2.2.2 _ _ (by simp)).setOther _ _ (by simp)
        have g0 : (w6.setCell ⟨w.heap.size + 1 + 1, 0, none⟩ (.bool s1)).cell? ⟨w.heap.size + 1 + 1, 0, none⟩ = some (.bool s1) := (Blk.set (w := w6) hN6.out.2.2.1 0 _).cell 0 rfl
        have g1 : ((w6.setCell ⟨w.heap.size + 1 + 1, 0, none⟩ (.bool s1)).setCell ⟨w.heap.size + 1 + 1, 1, none⟩ (.slice pq (Lw Q) cq)).cell? ⟨w.heap.size + 1 + 1, 1, none⟩ = some (.slice pq (Lw Q) cq) := hA.cell 1 rfl
        have g2 : (((w6.setCell ⟨w.heap.size + 1 + 1, 0, none⟩ (.bool s1)).setCell ⟨w.heap.size + 1 + 1, 1, none⟩ (.slice pq (Lw Q) cq)).setCell ⟨w.heap.size + 1 + 1 + 1, 0, none⟩ (.bool s2)).cell? ⟨w.heap.size + 1 + 1 + 1, 0, none⟩ = some (.bool s2) := (hB.set 0 _).cell 0 rfl
        have g3 : ((((w6.setCell ⟨w.heap.size + 1 + 1, 0, none⟩ (.bool s1)).setCell ⟨w.heap.size + 1 + 1, 1, none⟩ (.slice pq (Lw Q) cq)).setCell ⟨w.heap.size + 1 + 1 + 1, 0, none⟩ (.bool s2)).setCell ⟨w.heap.size + 1 + 1 + 1, 1, none⟩ (.slice pr (Lw R) cr)).cell? ⟨w.heap.size + 1 + 1 + 1, 1, none⟩ = some (.slice pr (Lw R) cr) := ((hB.set 0 _).set 1 _).cell 1 rfl
        have HAB := Lib.hid hA
        have HBB := Lib.hid hB
        clear hA hB
        go_wp2
        refine bodyPost_ret (v := .tuple #[.agg #[.bool s1, .slice pq (Lw Q) cq], .agg #[.bool s2, .slice pr (Lw R) cr]]) (by simp [results, Tryz.results98, go_sem, g0, g1, g2, g3]) rfl ?_
        have hq2 : Nt ((w6.setCell ⟨w.heap.size + 1 + 1, 0, none⟩ (.bool s1)).setCell ⟨w.heap.size + 1 + 1, 1, none⟩ (.slice pq (Lw Q) cq)) (.slice pq (Lw Q) cq) Q := (Nt.setCell (w := w6) HQ6.out (HQ6.out.ne67 hN6.out.2.2.1)).setCell (HQ6.out.ne67 hN6.out.2.2.1)
        have hr2 : Nt ((w6.setCell ⟨w.heap.size + 1 + 1, 0, none⟩ (.bool s1)).setCell ⟨w.heap.size + 1 + 1, 1, none⟩ (.slice pq (Lw Q) cq)) (.slice pr (Lw R) cr) R := (Nt.setCell (w := w6) HR6.out (HR6.out.ne67 hN6.out.2.2.1)).setCell (HR6.out.ne67 hN6.out.2.2.1)
        refine ⟨_, _, by rw [← hd.out.1, ← hd.out.2.1], ?_, ?_, ((((hBw6.setCell (by simp; omega) _).setCell (by simp; omega) _).setCell (by simp; omega) _).setCell (by simp; omega) _).drew⟩
        · rw [hd.out.2.2.1]; exact ((hq2.setCell (hq2.ne67 HBB.out)).setCell (hq2.ne67 HBB.out)).below (Below.refl _ _).drew
        · rw [hd.out.2.2.2]; exact ((hr2.setCell (hr2.ne67 HBB.out)).setCell (hr2.ne67 HBB.out)).below (Below.refl _ _).drew
  · have hR0 : R ≠ 0 := fun h => hcase (.inl h)
    have hbc : (b != c) = true := by
      cases hx : (b != c)
      · exact absurd (.inr hx) hcase
      · rfl
    have hd := fq_fr_less x y b c s1 s2 Q R HX.out HY.out HS1.out HS2.out HQX.out HRX.out hR0 hbc
    obtain ⟨r, hr1, hr2, hr3, hr4, hr5⟩ := hd
    have hlQ : Lw Q ≤ 800000 := by
      have h1 : Lw (x.natAbs / y.natAbs) ≤ Lw x.natAbs := Lw_mono (Nat.div_le_self _ _)
      rw [HQX.out] at h1; omega
    have hlR : Lw r.natAbs ≤ 800000 := by
      have h1 : Lw (x.natAbs % y.natAbs) ≤ Lw x.natAbs := Lw_mono (Nat.mod_le _ _)
      rw [HRX.out] at h1; rw [hr5]; omega
    have E93 := Lib.hid (fun (W : World) (v : Value) (h1 : Nt W (.slice pq (Lw Q) cq) Q) (h2 : Nt W v 1) => t93 (-(Q : Int)) 1 s1 false _ v W hr1 (by decide) (by rw [Int.natAbs_neg, Int.natAbs_natCast]; exact h1) h2 (by rw [Int.natAbs_neg, Int.natAbs_natCast]; omega) (Nat.le_trans (Lw_small (by decide)) (by omega)))
    have E91 := Lib.hid (fun (W : World) (h1 : Nt W (.slice pr (Lw R) cr) R) (h2 : Nt W (.slice pb (Lw y.natAbs) cb) y.natAbs) => t91 r y s2 c _ _ W hr2 HY.out (by rw [hr5]; exact h1) h2 (by omega) (by omega))
    have HB6 := Lib.hid (HB.out.below hBw6)
    have HQd : Hid (Nt w6.drew (.slice pq (Lw Q) cq) Q) := HQ6.out
    have HRd : Hid (Nt w6.drew (.slice pr (Lw R) cr) R) := HR6.out
    have HBd : Hid (Nt w6.drew (.slice pb (Lw y.natAbs) cb) y.natAbs) := HB6.out
    have N2d : Hid (Blk w6.drew (w.heap.size + 2) 67 [.bool s1, .slice pq (Lw Q) cq]) := hN6.out.2.2.1
    have N3d : Hid (Blk w6.drew (w.heap.size + 3) 67 [.bool s2, .slice pr (Lw R) cr]) := hN6.out.2.2.2
    have HR3 := Lib.hid hr3
    have HR4 := Lib.hid hr4
    have hdz : decide (R = 0) = false := by simpa using hR0
    have hcb : c = !b := by cases b <;> cases c <;> simp_all
    have h4 := hN6.out.2.1.cell 1 rfl
    rw [hdz]
    subst hcb
    clear hdz hR0 hbc hcase hr1 hr2 hr3 hr4 hr5
    go_wp2_with fail
    go_region_with (first
      | (go_at_call 123; (with_reducible refine (t123 _).mono ?_); rintro e a1 ⟨v1, rfl, hv1, hba1⟩; obtain ⟨p1, c1, rfl, -, -, -⟩ := hv1.cells; have q0a := below_cell (w := w6.drew) hba1 q0; have q1a := below_cell (w := w6.drew) hba1 q1; have t0a := below_cell (w := w6.drew) hba1 t0; have t1a := below_cell (w := w6.drew) hba1 t1; have h3a := below_cell (w := w6.drew) hba1 h3; have h4a := below_cell (w := w6.drew) hba1 h4)
      | (go_at_call 93; (with_reducible refine (E93.out _ _ (HQd.out.below hba1) hv1).mono ?_); rintro e a2 ⟨v2, rfl, hv2, hba2⟩; obtain ⟨p2, c2, rfl, -, -, -⟩ := hv2.cells; have q0b := below_cell hba2 q0a; have q1b := below_cell hba2 q1a; have t0b := below_cell hba2 t0a; have t1b := below_cell hba2 t1a; have h3b := below_cell hba2 h3a; have h4b := below_cell hba2 h4a)
      | (go_at_call 91; (with_reducible refine (E91.out _ ((HRd.out.below hba1).below hba2) ((HBd.out.below hba1).below hba2)).mono ?_); rintro e a3 ⟨v3, rfl, hv3, hba3⟩; obtain ⟨p3, c3, rfl, -, -, -⟩ := hv3.cells; have q0c := below_cell hba3 q0b; have q1c := below_cell hba3 q1b; have t0c := below_cell hba3 t0b; have t1c := below_cell hba3 t1b; have m2 := (N2d.out.below hba1 N2d.out.lt); have m2 := m2.below hba2 m2.lt; have m2 := m2.below hba3 m2.lt; have m3 := (N3d.out.below hba1 N3d.out.lt); have m3 := m3.below hba2 m3.lt; have m3 := m3.below hba3 m3.lt; have f0c := m2.free 0; have f1c := m2.free 1; have f2c := m3.free 0; have f3c := m3.free 1; have M2 := Lib.hid m2; have M3 := Lib.hid m3; clear m2 m3))
    all_goals
      have hA : Blk ((a3.setCell ⟨w.heap.size + 1 + 1, 0, none⟩ (.bool (decide ((-(Q : Int) - 1) < 0)))).setCell ⟨w.heap.size + 1 + 1, 1, none⟩ (.slice p2 (Lw (-(Q : Int) - 1).natAbs) c2)) (w.heap.size + 1 + 1) 67 [.bool (decide ((-(Q : Int) - 1) < 0)), .slice p2 (Lw (-(Q : Int) - 1).natAbs) c2] := (M2.out.set 0 _).set 1 _
      have hB : Blk ((a3.setCell ⟨w.heap.size + 1 + 1, 0, none⟩ (.bool (decide ((-(Q : Int) - 1) < 0)))).setCell ⟨w.heap.size + 1 + 1, 1, none⟩ (.slice p2 (Lw (-(Q : Int) - 1).natAbs) c2)) (w.heap.size + 1 + 1 + 1) 67 [.bool s2, .slice pr (Lw R) cr] := (M3.out.setOther _ _ (by simp)).setOther _ _ (by simp)
      have g0 : (a3.setCell ⟨w.heap.size + 1 + 1, 0, none⟩ (.bool (decide ((-(Q : Int) - 1) < 0)))).cell? ⟨w.heap.size + 1 + 1, 0, none⟩ = some (.bool (decide ((-(Q : Int) - 1) < 0))) := (M2.out.set 0 _).cell 0 rfl
      have g1 : ((a3.setCell ⟨w.heap.size + 1 + 1, 0, none⟩ (.bool (decide ((-(Q : Int) - 1) < 0)))).setCell ⟨w.heap.size + 1 + 1, 1, none⟩ (.slice p2 (Lw (-(Q : Int) - 1).natAbs) c2)).cell? ⟨w.heap.size + 1 + 1, 1, none⟩ = some (.slice p2 (Lw (-(Q : Int) - 1).natAbs) c2) := hA.cell 1 rfl
      have g2 : (((a3.setCell ⟨w.heap.size + 1 + 1, 0, none⟩ (.bool (decide ((-(Q : Int) - 1) < 0)))).setCell ⟨w.heap.size + 1 + 1, 1, none⟩ (.slice p2 (Lw (-(Q : Int) - 1).natAbs) c2)).setCell ⟨w.heap.size + 1 + 1 + 1, 0, none⟩ (.bool (decide ((r + y) < 0)))).cell? ⟨w.heap.size + 1 + 1 + 1, 0, none⟩ = some (.bool (decide ((r + y) < 0))) := (hB.set 0 _).cell 0 rfl
      have g3 : ((((a3.setCell ⟨w.heap.size + 1 + 1, 0, none⟩ (.bool (decide ((-(Q : Int) - 1) < 0)))).setCell ⟨w.heap.size + 1 + 1, 1, none⟩ (.slice p2 (Lw (-(Q : Int) - 1).natAbs) c2)).setCell ⟨w.heap.size + 1 + 1 + 1, 0, none⟩ (.bool (decide ((r + y) < 0)))).setCell ⟨w.heap.size + 1 + 1 + 1, 1, none⟩ (.slice p3 (Lw (r + y).natAbs) c3)).cell? ⟨w.heap.size + 1 + 1 + 1, 1, none⟩ = some (.slice p3 (Lw (r + y).natAbs) c3) := ((hB.set 0 _).set 1 _).cell 1 rfl
      have HBB := Lib.hid hB
      clear hA hB
      go_wp2
      refine bodyPost_ret (v := .tuple #[.agg #[.bool (decide ((-(Q : Int) - 1) < 0)), .slice p2 (Lw (-(Q : Int) - 1).natAbs) c2], .agg #[.bool (decide ((r + y) < 0)), .slice p3 (Lw (r + y).natAbs) c3]]) (by simp [results, Tryz.results98, go_sem, g0, g1, g2, g3]) rfl ?_
      have n2 : Nt a3 (.slice p2 (Lw (-(Q : Int) - 1).natAbs) c2) (-(Q : Int) - 1).natAbs := hv2.below hba3
      have q2 : Nt ((a3.setCell ⟨w.heap.size + 1 + 1, 0, none⟩ (.bool (decide ((-(Q : Int) - 1) < 0)))).setCell ⟨w.heap.size + 1 + 1, 1, none⟩ (.slice p2 (Lw (-(Q : Int) - 1).natAbs) c2)) (.slice p2 (Lw (-(Q : Int) - 1).natAbs) c2) (-(Q : Int) - 1).natAbs := (n2.setCell (n2.ne67 M2.out)).setCell (n2.ne67 M2.out)
      have q3 : Nt ((a3.setCell ⟨w.heap.size + 1 + 1, 0, none⟩ (.bool (decide ((-(Q : Int) - 1) < 0)))).setCell ⟨w.heap.size + 1 + 1, 1, none⟩ (.slice p2 (Lw (-(Q : Int) - 1).natAbs) c2)) (.slice p3 (Lw (r + y).natAbs) c3) (r + y).natAbs := (hv3.setCell (hv3.ne67 M2.out)).setCell (hv3.ne67 M2.out)
      have hBa : Below w.heap.size w a3 := ((((Below.drew hBw6).trans (hba1.mono hBw6.size))).trans (hba2.mono (Nat.le_trans hBw6.size hba1.size))).trans (hba3.mono (Nat.le_trans hBw6.size (Nat.le_trans hba1.size hba2.size)))
      rw [← HR3.out, ← HR4.out]
      exact ⟨_, _, rfl, (q2.setCell (q2.ne67 HBB.out)).setCell (q2.ne67 HBB.out), (q3.setCell (q3.ne67 HBB.out)).setCell (q3.ne67 HBB.out), (((hBa.setCell (by simp; omega) _).setCell (by simp; omega) _).setCell (by simp; omega) _).setCell (by simp; omega) _⟩
end Go.Proofs.YtifhiefdhhmdeaaGreatDoor
