/- Contracts of reduced. -/
import Derived.Test.YtifhiefdhhmdeaaGreatDoorZR
import Derived.Deep.RegionLaw
import Derived.Deep.AppendLies
namespace Go.Proofs.YtifhiefdhhmdeaaGreatDoor
open Go Go.RowKit

/-- a rational as a result -/
def RatR (t : Int) (m : Nat) (w : World) (e : Ending) (w' : World) : Prop := ∃ v u, e = .returned (ratV (decide (t < 0)) v false u) ∧ Nt w' v t.natAbs ∧ Nt w' u m ∧ Below w.heap.size w w'
/-- what lies in memory while reduced runs -/
structure Rd (w W : World) (b : Bool) (va : Value) (x : Int) (c : Bool) (vb : Value) (y : Int) : Prop where
  ka : Blk W w.heap.size 67 [.bool b, va]
  kb : Blk W (w.heap.size + 1) 67 [.bool c, vb]
  kr : Blk W (w.heap.size + 1 + 1) 98 Z98.toList
  na : Nt W va x.natAbs
  nb : Nt W vb y.natAbs
  sa : b = decide (x < 0)
  sb : c = decide (y < 0)
  la' : Lw x.natAbs ≤ 100000
  lb' : Lw y.natAbs ≤ 100000
  pos : 0 < y
  bel : Below w.heap.size w W
theorem Rd.la {w W : World} {b c : Bool} {va vb : Value} {x y : Int} (h : Rd w W b va x c vb y) : Lw x.natAbs ≤ 900000 := Nat.le_trans h.la' (by omega)
theorem Rd.lb {w W : World} {b c : Bool} {va vb : Value} {x y : Int} (h : Rd w W b va x c vb y) : Lw y.natAbs ≤ 900000 := Nat.le_trans h.lb' (by omega)
theorem Rd.next {w W W' : World} {b c : Bool} {va vb : Value} {x y : Int} (h : Rd w W b va x c vb y) (hb : Below W.heap.size W W') : Rd w W' b va x c vb y :=
  ⟨h.ka.below hb h.ka.lt, h.kb.below hb h.kb.lt, h.kr.below hb h.kr.lt, h.na.below hb, h.nb.below hb, h.sa, h.sb, h.la', h.lb', h.pos, bThen h.bel hb⟩
/-- an integer is stored -/
theorem st67 {W : World} {g : Nat} {o0 o1 : Value} (h : Blk W g 67 [o0, o1]) (a b : Value) :
    Blk ((W.setCell ⟨g, 0, none⟩ a).setCell ⟨g, 1, none⟩ b) g 67 [a, b] ∧
    (∀ g' e cs, g' ≠ g → Blk W g' e cs → Blk ((W.setCell ⟨g, 0, none⟩ a).setCell ⟨g, 1, none⟩ b) g' e cs) ∧
    (∀ v n, Nt W v n → Nt ((W.setCell ⟨g, 0, none⟩ a).setCell ⟨g, 1, none⟩ b) v n) ∧
    (∀ B w, B ≤ g → Below B w W → Below B w ((W.setCell ⟨g, 0, none⟩ a).setCell ⟨g, 1, none⟩ b)) :=
  ⟨(h.set 0 a).set 1 b, fun _ _ _ hne hk => (hk.setOther _ _ hne).setOther _ _ hne, fun _ _ hv => (hv.setCell (hv.ne67 h)).setCell (hv.ne67 h),
    fun _ _ hle hb => (hb.setCell hle _).setCell hle _⟩

theorem red_pos (x y : Int) (G : Nat) (hG : G = Nat.gcd x.natAbs y.natAbs) (hy : 0 < y) : redT x y = x / (G : Int) ∧ decide (y / (G : Int) < 0) = false ∧ redM x y = (y / (G : Int)).natAbs := by
  unfold redT redM
  rw [if_neg (by omega), ← hG]
  obtain ⟨n, rfl⟩ := Int.eq_ofNat_of_zero_le (show 0 ≤ y by omega)
  have h := Int.natCast_ediv n G
  refine ⟨rfl, decide_eq_false (by rw [← h]; exact Int.not_lt.2 (Int.natCast_nonneg _)), ?_⟩
  rw [← h, Int.natAbs_natCast, Int.natAbs_natCast]
set_option maxRecDepth 100000 in
set_option maxHeartbeats 4000000 in
theorem t82p (x y : Int) (b c : Bool) (va vb : Value) (w : World) (hb : b = decide (x < 0)) (hc : c = decide (y < 0)) (hA : Nt w va x.natAbs) (hB : Nt w vb y.natAbs) (hy : 0 < y) (hl : Lw x.natAbs ≤ 100000) (hl' : Lw y.natAbs ≤ 100000) :
    Calls Tryz.prog 82 #[.agg #[.bool b, va], .agg #[.bool c, vb]] w (RatR (redT x y) (redM x y) w) := by
  obtain ⟨pa, ca, rfl, -, -, -⟩ := hA.cells
  obtain ⟨pb, cb, rfl, -, -, -⟩ := hB.cells
  obtain rfl : c = false := by rw [hc]; simp; omega
  have HS : Hid (Rd w (((w.alloc (.cells #[.bool b, .slice pa (Lw x.natAbs) ca] 67)).alloc (.cells #[.bool false, .slice pb (Lw y.natAbs) cb] 67)).alloc (.cells Z98 98)) b (.slice pa (Lw x.natAbs) ca) x false (.slice pb (Lw y.natAbs) cb) y) := by
    have hb1 := bSelf w (.cells #[.bool b, .slice pa (Lw x.natAbs) ca] 67)
    have k1 := Blk.new w #[.bool b, .slice pa (Lw x.natAbs) ca] 67
    have hb2 := bSelf (w.alloc (.cells #[.bool b, .slice pa (Lw x.natAbs) ca] 67)) (.cells #[.bool false, .slice pb (Lw y.natAbs) cb] 67)
    have k2 := Blk.new (w.alloc (.cells #[.bool b, .slice pa (Lw x.natAbs) ca] 67)) #[.bool false, .slice pb (Lw y.natAbs) cb] 67
    have hb3 := bSelf ((w.alloc (.cells #[.bool b, .slice pa (Lw x.natAbs) ca] 67)).alloc (.cells #[.bool false, .slice pb (Lw y.natAbs) cb] 67)) (.cells Z98 98)
    have k3 := Blk.new ((w.alloc (.cells #[.bool b, .slice pa (Lw x.natAbs) ca] 67)).alloc (.cells #[.bool false, .slice pb (Lw y.natAbs) cb] 67)) Z98 98
    have hB' := bThen (bThen hb1 hb2) hb3
    refine ⟨(k1.below hb2 k1.lt).below hb3 (k1.below hb2 k1.lt).lt, ?_, ?_, hA.below hB', hB.below hB', hb, hc, hl, hl', hy, hB'⟩
    · have := k2.below hb3 k2.lt
      simpa using this
    · simpa using k3
  have h0 := HS.out.kb.cell 0 rfl
  clear hA hB hb hc hl hl' hy
  go_enter Tryz.func82, Tryz.ntmps82
  go_upto_region 3 with fail
  generalize (((w.alloc (.cells #[.bool b, .slice pa (Lw x.natAbs) ca] 67)).alloc (.cells #[.bool false, .slice pb (Lw y.natAbs) cb] 67)).alloc (.cells Z98 98)) = WW at *
  clear h0

  have h1 := HS.out.ka.cell 1 rfl
  have h2 := HS.out.kb.cell 1 rfl
  have C1 := Lib.hid (t104 _ _ x.natAbs y.natAbs WW HS.out.na HS.out.nb HS.out.la HS.out.lb)
  go_wp2_with fail
  refine C1.out.mono ?_
  rintro e w1 ⟨vg, rfl, hg, hb1⟩
  obtain ⟨pg, cg, rfl, -, -, -⟩ := hg.cells
  have S1 := Lib.hid (HS.out.next hb1)
  obtain ⟨G, hG⟩ : ∃ G, G = Nat.gcd x.natAbs y.natAbs := ⟨_, rfl⟩
  rw [← hG] at hg ⊢
  have HG := Lib.hid hG
  have hG0 : 0 < G := by rw [hG]; exact Nat.gcd_pos_of_pos_right _ (by have := HS.out.pos; omega)
  have hGl : Lw G ≤ 100000 := by rw [hG]; exact Nat.le_trans (Lw_mono (Nat.gcd_le_right _ (by have := HS.out.pos; omega))) HS.out.lb'
  have HG0 := Lib.hid hG0
  have HGL := Lib.hid hGl
  have C2 : Hid (Calls Tryz.prog 73 #[.bool false, .slice pg (Lw G) cg] w1 fun e w' => e = .returned (.agg #[.bool false, .slice pg (Lw G) cg]) ∧ Below w1.heap.size w1 w') := t73 false _ G w1 hg
  have HGN := Lib.hid hg
  clear hg hb1 hG hG0 hGl h1 h2 C1
  go_wp2_with fail
  refine C2.out.mono ?_
  rintro e w2 ⟨rfl, hb2⟩
  have S2 := Lib.hid (S1.out.next (hb2.alloc hb2.size (.cells #[.bool false, .slice pg (Lw G) cg] 67)))
  have HK2 := Lib.hid (Blk.new w2 #[.bool false, .slice pg (Lw G) cg] 67)
  have HG2 := Lib.hid ((HGN.out.below hb2).below (bSelf w2 (.cells #[.bool false, .slice pg (Lw G) cg] 67)))
  have hgne : w.heap.size + 2 < w2.heap.size := Nat.lt_of_lt_of_le S1.out.kr.lt hb2.size
  clear hb2 C2 S1 HGN
  have h1 := S2.out.ka.cell 0 rfl
  have h2 := S2.out.ka.cell 1 rfl
  have h3 := S2.out.kb.cell 0 rfl
  have h4 := S2.out.kb.cell 1 rfl
  have g1 := HK2.out.cell 0 rfl
  have g2 := HK2.out.cell 1 rfl
  go_upto_region 4 with fail
  have hgs : w2.heap.size = w2.heap.size := rfl
  generalize (w2.alloc (.cells #[.bool false, .slice pg (Lw G) cg] 67)) = W2 at *
  generalize hgx : w2.heap.size = gx at *
  have C3 := Lib.hid (t98 x (G : Int) b false _ _ W2 HS.out.sa (by simp) (by have := HG0.out; omega) S2.out.na HG2.out (Nat.le_trans HS.out.la' (by omega)) (Nat.le_trans HGL.out (by omega)))
  go_wp2_with fail
  refine C3.out.mono ?_
  rintro e w3 ⟨v1, u1, rfl, hv1, -, hb3⟩
  obtain ⟨p1, c1, rfl, -, -, -⟩ := hv1.cells
  have S3 := Lib.hid (S2.out.next hb3)
  have HV1 := Lib.hid hv1
  have HK3 := Lib.hid (HK2.out.below hb3 HK2.out.lt)
  have HG3 := Lib.hid (HG2.out.below hb3)
  have hgg : ¬ gx = w.heap.size + 1 := by have := hgne; omega
  have r0 := S3.out.ka.cell 0 rfl
  have r1 := S3.out.ka.cell 1 rfl
  have f0 := S3.out.ka.free 0
  have f1 := S3.out.ka.free 1
  have T3 := st67 S3.out.ka (.bool (decide (fq x (G : Int) < 0))) (.slice p1 (Lw (fq x (G : Int)).natAbs) c1)
  clear hv1 hb3 h1 h2 h3 h4 g1 g2 C3
  have HX0 := Lib.hid S3.out.la'
  have HPOS := Lib.hid S3.out.pos
  have HYB := Lib.hid (T3.2.1 _ _ _ (by omega) S3.out.kb)
  have HYN := Lib.hid (T3.2.2.1 _ _ S3.out.nb)
  have HYS := Lib.hid S3.out.sb
  have HYL := Lib.hid S3.out.lb'
  have HXB := Lib.hid T3.1
  have HXN := Lib.hid (T3.2.2.1 _ _ HV1.out)
  have HRB := Lib.hid (T3.2.1 _ _ _ (by omega) S3.out.kr)
  have HGB := Lib.hid (T3.2.1 _ _ _ (by omega) HK3.out)
  have HGN := Lib.hid (T3.2.2.1 _ _ HG3.out)
  have HBL := Lib.hid (T3.2.2.2 _ _ (Nat.le_refl _) S3.out.bel)
  go_upto_region 5 with fail
  clear r0 r1 f0 f1 T3 S3 HV1 HK3 HG3 S2 HK2 HG2
  generalize (w3.setCell ⟨w.heap.size, 0, none⟩ (.bool (decide (fq x (G : Int) < 0)))).setCell ⟨w.heap.size, 1, none⟩ (.slice p1 (Lw (fq x (G : Int)).natAbs) c1) = W3 at *
  have h3 := HYB.out.cell 0 rfl
  have h4 := HYB.out.cell 1 rfl
  have g1 := HGB.out.cell 0 rfl
  have g2 := HGB.out.cell 1 rfl
  have C5 := Lib.hid (t98 y (G : Int) false false _ _ W3 HYS.out (by simp) (by have := HG0.out; omega) HYN.out HGN.out (Nat.le_trans HYL.out (by omega)) (Nat.le_trans HGL.out (by omega)))
  go_wp2_with fail
  refine C5.out.mono ?_
  rintro e w5 ⟨v5, u5, rfl, hv5, -, hb5⟩
  obtain ⟨p5, c5, rfl, -, -, -⟩ := hv5.cells
  have K5 := Lib.hid (HYB.out.below hb5 HYB.out.lt)
  have r0 := K5.out.cell 0 rfl
  have r1 := K5.out.cell 1 rfl
  have f0 := K5.out.free 0
  have f1 := K5.out.free 1
  have T5 := st67 K5.out (.bool (decide (fq y (G : Int) < 0))) (.slice p5 (Lw (fq y (G : Int)).natAbs) c5)
  have HYB6 := Lib.hid T5.1
  have HYN6 := Lib.hid (T5.2.2.1 _ _ hv5)
  have HXB6 := Lib.hid (T5.2.1 _ _ _ (by omega) (HXB.out.below hb5 HXB.out.lt))
  have HXN6 := Lib.hid (T5.2.2.1 _ _ (HXN.out.below hb5))
  have HRB6 := Lib.hid (T5.2.1 _ _ _ (by omega) (HRB.out.below hb5 HRB.out.lt))
  have HBL6 := Lib.hid (T5.2.2.2 _ _ (by omega) (bThen HBL.out hb5))
  clear h3 h4 g1 g2 hb5 hv5 T5 C5
  go_upto_region 6 with fail
  clear r0 r1 f0 f1
  generalize (w5.setCell ⟨w.heap.size + 1, 0, none⟩ (.bool (decide (fq y (G : Int) < 0)))).setCell ⟨w.heap.size + 1, 1, none⟩ (.slice p5 (Lw (fq y (G : Int)).natAbs) c5) = W6 at *
  obtain ⟨b6, hb6⟩ : ∃ b6 : Bool, b6 = decide (fq x (G : Int) < 0) := ⟨_, rfl⟩
  obtain ⟨b7, hb7⟩ : ∃ b7 : Bool, b7 = decide (fq y (G : Int) < 0) := ⟨_, rfl⟩
  rw [← hb6] at HXB6
  rw [← hb7] at HYB6
  have q0 := HXB6.out.cell 0 rfl
  have q1 := HXB6.out.cell 1 rfl
  have q2 := HYB6.out.cell 0 rfl
  have q3 := HYB6.out.cell 1 rfl
  have z0 := HRB6.out.cell 0 rfl
  have z1 := HRB6.out.cell 1 rfl
  have z2 := HRB6.out.cell 2 rfl
  have z3 := HRB6.out.cell 3 rfl
  have y0 := HRB6.out.free 0
  have y1 := HRB6.out.free 1
  have y2 := HRB6.out.free 2
  have y3 := HRB6.out.free 3
  have HTT : Hid (redT x y = fq x (G : Int) ∧ b7 = false ∧ redM x y = (fq y (G : Int)).natAbs) := by
    show _ ∧ _
    rw [hb7, fq_pos x G HG0.out, fq_pos y G HG0.out]
    exact red_pos x y G HG.out HPOS.out
  have HB6E := Lib.hid hb6
  clear hb6 hb7
  go_wp2
  have g0 := (HRB6.out.set 0 (.bool b6)).cell 0 rfl
  have g1 := ((HRB6.out.set 0 (.bool b6)).set 1 (.slice p1 (Lw (fq x (G : Int)).natAbs) c1)).cell 1 rfl
  have g2 := (((HRB6.out.set 0 (.bool b6)).set 1 (.slice p1 (Lw (fq x (G : Int)).natAbs) c1)).set 2 (.bool b7)).cell 2 rfl
  have g3 := ((((HRB6.out.set 0 (.bool b6)).set 1 (.slice p1 (Lw (fq x (G : Int)).natAbs) c1)).set 2 (.bool b7)).set 3 (.slice p5 (Lw (fq y (G : Int)).natAbs) c5)).cell 3 rfl
  refine bodyPost_ret (v := ratV b6 (.slice p1 (Lw (fq x (G : Int)).natAbs) c1) b7 (.slice p5 (Lw (fq y (G : Int)).natAbs) c5)) (by simp [results, Tryz.results82, go_sem, g0, g1, g2, g3]) rfl ?_
  refine ⟨_, _, by rw [HTT.out.1, HTT.out.2.1, HB6E.out], by rw [HTT.out.1]; exact HXN6.out.four HRB6.out _ _ _ _, by rw [HTT.out.2.2]; exact HYN6.out.four HRB6.out _ _ _ _, ?_⟩
  exact (((HBL6.out.setCell (p := ⟨w.heap.size + 1 + 1, 0, none⟩) (by show w.heap.size ≤ w.heap.size + 1 + 1; omega) _).setCell (p := ⟨w.heap.size + 1 + 1, 1, none⟩) (by show w.heap.size ≤ w.heap.size + 1 + 1; omega) _).setCell (p := ⟨w.heap.size + 1 + 1, 2, none⟩) (by show w.heap.size ≤ w.heap.size + 1 + 1; omega) _).setCell (p := ⟨w.heap.size + 1 + 1, 3, none⟩) (by show w.heap.size ≤ w.heap.size + 1 + 1; omega) _

theorem red_neg (x y : Int) (hy : y < 0) : redT x y = redT (-x) (-y) ∧ redM x y = redM (-x) (-y) := by
  unfold redT redM
  rw [if_pos hy, if_neg (by omega), Int.natAbs_neg, Int.natAbs_neg]
  exact ⟨rfl, rfl⟩
set_option maxRecDepth 100000 in
set_option maxHeartbeats 4000000 in
theorem t82n (x0 y0 : Int) (b0 c : Bool) (va0 vb0 : Value) (w : World) (hb : b0 = decide (x0 < 0)) (hc : c = decide (y0 < 0)) (hA : Nt w va0 x0.natAbs) (hB : Nt w vb0 y0.natAbs) (hy : y0 < 0) (hl : Lw x0.natAbs ≤ 100000) (hl' : Lw y0.natAbs ≤ 100000) :
    Calls Tryz.prog 82 #[.agg #[.bool b0, va0], .agg #[.bool c, vb0]] w (RatR (redT x0 y0) (redM x0 y0) w) := by
  obtain ⟨pa0, ca0, rfl, -, -, -⟩ := hA.cells
  obtain ⟨pb0, cb0, rfl, -, -, -⟩ := hB.cells
  obtain rfl : c = true := by rw [hc]; simpa using hy
  rw [(red_neg x0 y0 hy).1, (red_neg x0 y0 hy).2]
  obtain ⟨x, hx⟩ : ∃ x, x = -x0 := ⟨_, rfl⟩
  obtain ⟨y, hyy⟩ : ∃ y, y = -y0 := ⟨_, rfl⟩
  have ex : x.natAbs = x0.natAbs := by omega
  have ey : y.natAbs = y0.natAbs := by omega
  rw [← hx, ← hyy, ← ex, ← ey]
  rw [← ex] at hA hl
  rw [← ey] at hB hl'
  obtain ⟨b1, hb1⟩ : ∃ b1 : Bool, b1 = (!b0 && decide (0 < x.natAbs)) := ⟨_, rfl⟩
  have HB1 : Hid (b1 = decide (x < 0)) := by show _ = _; rw [hb1, hb, Bool.eq_iff_iff]; simp; omega
  have HYP : Hid (0 < y) := by show _ < _; omega
  have D1 := Lib.hid (fun (W : World) (h : Nt W (.slice pa0 (Lw x.natAbs) ca0) x.natAbs) => hb1 ▸ t135 b0 _ _ W h)
  have D2 : Hid (∀ W : World, Nt W (.slice pb0 (Lw y.natAbs) cb0) y.natAbs → Calls Tryz.prog 135 #[.agg #[.bool true, .slice pb0 (Lw y.natAbs) cb0]] W fun e w' => e = .returned (.agg #[.bool false, .slice pb0 (Lw y.natAbs) cb0]) ∧ Below W.heap.size W w') := fun W h => t135 true _ _ W h
  have hB1 := bSelf w (.cells #[.bool b0, .slice pa0 (Lw x.natAbs) ca0] 67)
  have k1 := Blk.new w #[.bool b0, .slice pa0 (Lw x.natAbs) ca0] 67
  have hB2 := bSelf (w.alloc (.cells #[.bool b0, .slice pa0 (Lw x.natAbs) ca0] 67)) (.cells #[.bool true, .slice pb0 (Lw y.natAbs) cb0] 67)
  have k2 := Blk.new (w.alloc (.cells #[.bool b0, .slice pa0 (Lw x.natAbs) ca0] 67)) #[.bool true, .slice pb0 (Lw y.natAbs) cb0] 67
  have hB3 := bSelf ((w.alloc (.cells #[.bool b0, .slice pa0 (Lw x.natAbs) ca0] 67)).alloc (.cells #[.bool true, .slice pb0 (Lw y.natAbs) cb0] 67)) (.cells Z98 98)
  have k3 := Blk.new ((w.alloc (.cells #[.bool b0, .slice pa0 (Lw x.natAbs) ca0] 67)).alloc (.cells #[.bool true, .slice pb0 (Lw y.natAbs) cb0] 67)) Z98 98
  have HBL0 := Lib.hid (bThen (bThen hB1 hB2) hB3)
  have HK1 := Lib.hid ((k1.below hB2 k1.lt).below hB3 (k1.below hB2 k1.lt).lt)
  have HK2 : Hid (Blk (((w.alloc (.cells #[.bool b0, .slice pa0 (Lw x.natAbs) ca0] 67)).alloc (.cells #[.bool true, .slice pb0 (Lw y.natAbs) cb0] 67)).alloc (.cells Z98 98)) (w.heap.size + 1) 67 [.bool true, .slice pb0 (Lw y.natAbs) cb0]) := by
    have := k2.below hB3 k2.lt
    show Blk _ _ _ _
    simpa using this
  have HK3 : Hid (Blk (((w.alloc (.cells #[.bool b0, .slice pa0 (Lw x.natAbs) ca0] 67)).alloc (.cells #[.bool true, .slice pb0 (Lw y.natAbs) cb0] 67)).alloc (.cells Z98 98)) (w.heap.size + 1 + 1) 98 Z98.toList) := by
    show Blk _ _ _ _
    simpa using k3
  have HNA := Lib.hid (hA.below HBL0.out)
  have HNB := Lib.hid (hB.below HBL0.out)
  have HLA := Lib.hid hl
  have HLB := Lib.hid hl'
  have h0 := HK2.out.cell 0 rfl
  clear hb1 hb hc hy hx hyy ex ey hA hB hl hl' k1 k2 k3 hB1 hB2 hB3
  go_enter Tryz.func82, Tryz.ntmps82
  go_upto_region 2 with fail
  generalize (((w.alloc (.cells #[.bool b0, .slice pa0 (Lw x.natAbs) ca0] 67)).alloc (.cells #[.bool true, .slice pb0 (Lw y.natAbs) cb0] 67)).alloc (.cells Z98 98)) = W at *
  have k0_0 := HK1.out.cell 0 rfl
  have k0_1 := HK1.out.cell 1 rfl
  have k0_2 := HK2.out.cell 0 rfl
  have k0_3 := HK2.out.cell 1 rfl
  go_cut [] (fun wx => ∃ (b : Bool) (va vb : Value), Hid (Rd w wx b va x false vb y))
  case first =>
    go_region_law
      (first
        | (go_simp; go_at_call 135; (with_reducible refine (D1.out _ (HNA.out.below (Below.refl _ _).drew)).mono ?_); rintro e w1 ⟨rfl, hb1⟩; have k1_0 := below_cell hb1 k0_0; have k1_1 := below_cell hb1 k0_1; have k1_2 := below_cell hb1 k0_2; have k1_3 := below_cell hb1 k0_3)
        | (go_simp; go_at_call 135; (with_reducible refine (D2.out w1 ((HNB.out.below (Below.refl _ _).drew).below hb1)).mono ?_); rintro e w2 ⟨rfl, hb2⟩; have k2_0 := below_cell hb2 k1_0; have k2_1 := below_cell hb2 k1_1; have k2_2 := below_cell hb2 k1_2; have k2_3 := below_cell hb2 k1_3; have hb12 := hb1.trans (hb2.mono hb1.size); have J1 := Lib.hid (Blk.below (w := W.drew) HK1.out hb12 HK1.out.lt); have J2 := Lib.hid (Blk.below (w := W.drew) HK2.out hb12 HK2.out.lt); have J3 := Lib.hid (Blk.below (w := W.drew) HK3.out hb12 HK3.out.lt); have f0 := J1.out.free 0; have f1 := J1.out.free 1; have f2 := J2.out.free 0; have f3 := J2.out.free 1; have HB12 := Lib.hid hb12; clear hb12)
        )
    all_goals (
      have T1 := st67 J1.out (.bool b1) (.slice pa0 (Lw x.natAbs) ca0)
      have T2 := st67 (T1.2.1 _ _ _ (by omega) J2.out) (.bool false) (.slice pb0 (Lw y.natAbs) cb0)
      have hn1 := (HNA.out.below (Below.refl W.heap.size W).drew).below HB12.out
      have hn2 := (HNB.out.below (Below.refl W.heap.size W).drew).below HB12.out
      have hR : Rd w _ b1 (.slice pa0 (Lw x.natAbs) ca0) x false (.slice pb0 (Lw y.natAbs) cb0) y :=
        ⟨T2.2.1 _ _ _ (by omega) T1.1, T2.1, T2.2.1 _ _ _ (by omega) (T1.2.1 _ _ _ (by omega) J3.out), T2.2.2.1 _ _ (T1.2.2.1 _ _ hn1), T2.2.2.1 _ _ (T1.2.2.1 _ _ hn2), HB1.out, by have := HYP.out; simp; omega, HLA.out, HLB.out, HYP.out, T2.2.2.2 _ _ (by omega) (T1.2.2.2 _ _ (Nat.le_refl _) (bThen HBL0.out.drew HB12.out))⟩
      go_wp2_with fail
      go_meet
      exact ⟨b1, _, _, hR⟩)
  case rest =>
    obtain ⟨b, va, vb, HS⟩ := hcut
    obtain ⟨pa, ca, rfl, -, -, -⟩ := HS.out.na.cells
    obtain ⟨pb, cb, rfl, -, -, -⟩ := HS.out.nb.cells
    obtain ⟨WW, rfl⟩ : ∃ WW : World, WW = wc := ⟨_, rfl⟩
    clear k0_0 k0_1 k0_2 k0_3 HK1 HK2 HK3 HNA HNB D1 D2 HBL0 h0

    have h1 := HS.out.ka.cell 1 rfl
    have h2 := HS.out.kb.cell 1 rfl
    have C1 := Lib.hid (t104 _ _ x.natAbs y.natAbs WW HS.out.na HS.out.nb HS.out.la HS.out.lb)
    go_wp2_with fail
    refine C1.out.mono ?_
    rintro e w1 ⟨vg, rfl, hg, hb1⟩
    obtain ⟨pg, cg, rfl, -, -, -⟩ := hg.cells
    have S1 := Lib.hid (HS.out.next hb1)
    obtain ⟨G, hG⟩ : ∃ G, G = Nat.gcd x.natAbs y.natAbs := ⟨_, rfl⟩
    rw [← hG] at hg ⊢
    have HG := Lib.hid hG
    have hG0 : 0 < G := by rw [hG]; exact Nat.gcd_pos_of_pos_right _ (by have := HS.out.pos; omega)
    have hGl : Lw G ≤ 100000 := by rw [hG]; exact Nat.le_trans (Lw_mono (Nat.gcd_le_right _ (by have := HS.out.pos; omega))) HS.out.lb'
    have HG0 := Lib.hid hG0
    have HGL := Lib.hid hGl
    have C2 : Hid (Calls Tryz.prog 73 #[.bool false, .slice pg (Lw G) cg] w1 fun e w' => e = .returned (.agg #[.bool false, .slice pg (Lw G) cg]) ∧ Below w1.heap.size w1 w') := t73 false _ G w1 hg
    have HGN := Lib.hid hg
    clear hg hb1 hG hG0 hGl h1 h2 C1
    go_wp2_with fail
    refine C2.out.mono ?_
    rintro e w2 ⟨rfl, hb2⟩
    have S2 := Lib.hid (S1.out.next (hb2.alloc hb2.size (.cells #[.bool false, .slice pg (Lw G) cg] 67)))
    have HK2 := Lib.hid (Blk.new w2 #[.bool false, .slice pg (Lw G) cg] 67)
    have HG2 := Lib.hid ((HGN.out.below hb2).below (bSelf w2 (.cells #[.bool false, .slice pg (Lw G) cg] 67)))
    have hgne : w.heap.size + 2 < w2.heap.size := Nat.lt_of_lt_of_le S1.out.kr.lt hb2.size
    clear hb2 C2 S1 HGN
    have h1 := S2.out.ka.cell 0 rfl
    have h2 := S2.out.ka.cell 1 rfl
    have h3 := S2.out.kb.cell 0 rfl
    have h4 := S2.out.kb.cell 1 rfl
    have g1 := HK2.out.cell 0 rfl
    have g2 := HK2.out.cell 1 rfl
    go_upto_region 4 with fail
    have hgs : w2.heap.size = w2.heap.size := rfl
    generalize (w2.alloc (.cells #[.bool false, .slice pg (Lw G) cg] 67)) = W2 at *
    generalize hgx : w2.heap.size = gx at *
    have C3 := Lib.hid (t98 x (G : Int) b false _ _ W2 HS.out.sa (by simp) (by have := HG0.out; omega) S2.out.na HG2.out (Nat.le_trans HS.out.la' (by omega)) (Nat.le_trans HGL.out (by omega)))
    go_wp2_with fail
    refine C3.out.mono ?_
    rintro e w3 ⟨v1, u1, rfl, hv1, -, hb3⟩
    obtain ⟨p1, c1, rfl, -, -, -⟩ := hv1.cells
    have S3 := Lib.hid (S2.out.next hb3)
    have HV1 := Lib.hid hv1
    have HK3 := Lib.hid (HK2.out.below hb3 HK2.out.lt)
    have HG3 := Lib.hid (HG2.out.below hb3)
    have hgg : ¬ gx = w.heap.size + 1 := by have := hgne; omega
    have r0 := S3.out.ka.cell 0 rfl
    have r1 := S3.out.ka.cell 1 rfl
    have f0 := S3.out.ka.free 0
    have f1 := S3.out.ka.free 1
    have T3 := st67 S3.out.ka (.bool (decide (fq x (G : Int) < 0))) (.slice p1 (Lw (fq x (G : Int)).natAbs) c1)
    clear hv1 hb3 h1 h2 h3 h4 g1 g2 C3
    have HX0 := Lib.hid S3.out.la'
    have HPOS := Lib.hid S3.out.pos
    have HYB := Lib.hid (T3.2.1 _ _ _ (by omega) S3.out.kb)
    have HYN := Lib.hid (T3.2.2.1 _ _ S3.out.nb)
    have HYS := Lib.hid S3.out.sb
    have HYL := Lib.hid S3.out.lb'
    have HXB := Lib.hid T3.1
    have HXN := Lib.hid (T3.2.2.1 _ _ HV1.out)
    have HRB := Lib.hid (T3.2.1 _ _ _ (by omega) S3.out.kr)
    have HGB := Lib.hid (T3.2.1 _ _ _ (by omega) HK3.out)
    have HGN := Lib.hid (T3.2.2.1 _ _ HG3.out)
    have HBL := Lib.hid (T3.2.2.2 _ _ (Nat.le_refl _) S3.out.bel)
    go_upto_region 5 with fail
    clear r0 r1 f0 f1 T3 S3 HV1 HK3 HG3 S2 HK2 HG2
    generalize (w3.setCell ⟨w.heap.size, 0, none⟩ (.bool (decide (fq x (G : Int) < 0)))).setCell ⟨w.heap.size, 1, none⟩ (.slice p1 (Lw (fq x (G : Int)).natAbs) c1) = W3 at *
    have h3 := HYB.out.cell 0 rfl
    have h4 := HYB.out.cell 1 rfl
    have g1 := HGB.out.cell 0 rfl
    have g2 := HGB.out.cell 1 rfl
    have C5 := Lib.hid (t98 y (G : Int) false false _ _ W3 HYS.out (by simp) (by have := HG0.out; omega) HYN.out HGN.out (Nat.le_trans HYL.out (by omega)) (Nat.le_trans HGL.out (by omega)))
    go_wp2_with fail
    refine C5.out.mono ?_
    rintro e w5 ⟨v5, u5, rfl, hv5, -, hb5⟩
    obtain ⟨p5, c5, rfl, -, -, -⟩ := hv5.cells
    have K5 := Lib.hid (HYB.out.below hb5 HYB.out.lt)
    have r0 := K5.out.cell 0 rfl
    have r1 := K5.out.cell 1 rfl
    have f0 := K5.out.free 0
    have f1 := K5.out.free 1
    have T5 := st67 K5.out (.bool (decide (fq y (G : Int) < 0))) (.slice p5 (Lw (fq y (G : Int)).natAbs) c5)
    have HYB6 := Lib.hid T5.1
    have HYN6 := Lib.hid (T5.2.2.1 _ _ hv5)
    have HXB6 := Lib.hid (T5.2.1 _ _ _ (by omega) (HXB.out.below hb5 HXB.out.lt))
    have HXN6 := Lib.hid (T5.2.2.1 _ _ (HXN.out.below hb5))
    have HRB6 := Lib.hid (T5.2.1 _ _ _ (by omega) (HRB.out.below hb5 HRB.out.lt))
    have HBL6 := Lib.hid (T5.2.2.2 _ _ (by omega) (bThen HBL.out hb5))
    clear h3 h4 g1 g2 hb5 hv5 T5 C5
    go_upto_region 6 with fail
    clear r0 r1 f0 f1
    generalize (w5.setCell ⟨w.heap.size + 1, 0, none⟩ (.bool (decide (fq y (G : Int) < 0)))).setCell ⟨w.heap.size + 1, 1, none⟩ (.slice p5 (Lw (fq y (G : Int)).natAbs) c5) = W6 at *
    obtain ⟨b6, hb6⟩ : ∃ b6 : Bool, b6 = decide (fq x (G : Int) < 0) := ⟨_, rfl⟩
    obtain ⟨b7, hb7⟩ : ∃ b7 : Bool, b7 = decide (fq y (G : Int) < 0) := ⟨_, rfl⟩
    rw [← hb6] at HXB6
    rw [← hb7] at HYB6
    have q0 := HXB6.out.cell 0 rfl
    have q1 := HXB6.out.cell 1 rfl
    have q2 := HYB6.out.cell 0 rfl
    have q3 := HYB6.out.cell 1 rfl
    have z0 := HRB6.out.cell 0 rfl
    have z1 := HRB6.out.cell 1 rfl
    have z2 := HRB6.out.cell 2 rfl
    have z3 := HRB6.out.cell 3 rfl
    have y0 := HRB6.out.free 0
    have y1 := HRB6.out.free 1
    have y2 := HRB6.out.free 2
    have y3 := HRB6.out.free 3
    have HTT : Hid (redT x y = fq x (G : Int) ∧ b7 = false ∧ redM x y = (fq y (G : Int)).natAbs) := by
      show _ ∧ _
      rw [hb7, fq_pos x G HG0.out, fq_pos y G HG0.out]
      exact red_pos x y G HG.out HPOS.out
    have HB6E := Lib.hid hb6
    clear hb6 hb7
    go_wp2
    have g0 := (HRB6.out.set 0 (.bool b6)).cell 0 rfl
    have g1 := ((HRB6.out.set 0 (.bool b6)).set 1 (.slice p1 (Lw (fq x (G : Int)).natAbs) c1)).cell 1 rfl
    have g2 := (((HRB6.out.set 0 (.bool b6)).set 1 (.slice p1 (Lw (fq x (G : Int)).natAbs) c1)).set 2 (.bool b7)).cell 2 rfl
    have g3 := ((((HRB6.out.set 0 (.bool b6)).set 1 (.slice p1 (Lw (fq x (G : Int)).natAbs) c1)).set 2 (.bool b7)).set 3 (.slice p5 (Lw (fq y (G : Int)).natAbs) c5)).cell 3 rfl
    refine bodyPost_ret (v := ratV b6 (.slice p1 (Lw (fq x (G : Int)).natAbs) c1) b7 (.slice p5 (Lw (fq y (G : Int)).natAbs) c5)) (by simp [results, Tryz.results82, go_sem, g0, g1, g2, g3]) rfl ?_
    refine ⟨_, _, by rw [HTT.out.1, HTT.out.2.1, HB6E.out], by rw [HTT.out.1]; exact HXN6.out.four HRB6.out _ _ _ _, by rw [HTT.out.2.2]; exact HYN6.out.four HRB6.out _ _ _ _, ?_⟩
    exact (((HBL6.out.setCell (p := ⟨w.heap.size + 1 + 1, 0, none⟩) (by show w.heap.size ≤ w.heap.size + 1 + 1; omega) _).setCell (p := ⟨w.heap.size + 1 + 1, 1, none⟩) (by show w.heap.size ≤ w.heap.size + 1 + 1; omega) _).setCell (p := ⟨w.heap.size + 1 + 1, 2, none⟩) (by show w.heap.size ≤ w.heap.size + 1 + 1; omega) _).setCell (p := ⟨w.heap.size + 1 + 1, 3, none⟩) (by show w.heap.size ≤ w.heap.size + 1 + 1; omega) _

end Go.Proofs.YtifhiefdhhmdeaaGreatDoor
