/- Contracts of Div's closure. -/
import Derived.Test.YtifhiefdhhmdeaaGreatDoorZC
import Derived.Test.YtifhiefdhhmdeaaGreatDoorQQ
namespace Go.Proofs.YtifhiefdhhmdeaaGreatDoor
open Go Go.RowKit

theorem Lw_fq (x y : Int) (k : Nat) (hx : Lw x.natAbs ≤ k) : Lw (fq x y).natAbs ≤ k + 2 := by
  have h2 := Nat.div_le_self x.natAbs y.natAbs
  have h1 : (fq x y).natAbs ≤ x.natAbs / y.natAbs + 1 := by
    unfold fq
    generalize x.natAbs / y.natAbs = q
    split
    · omega
    · split <;> omega
  have h3 := Lw_mono (Nat.le_trans h1 (Nat.add_le_add_right h2 1))
  have h4 := Lw_add x.natAbs 1
  have h5 := Lw_small (n := 1) (by omega)
  omega
theorem Lw_fr (x y : Int) (k : Nat) (hy0 : y ≠ 0) (hy : Lw y.natAbs ≤ k) : Lw (fr x y).natAbs ≤ k + 1 := by
  have h0 := Nat.mod_lt x.natAbs (show 0 < y.natAbs by omega)
  have h1 : (fr x y).natAbs ≤ y.natAbs + y.natAbs := by
    unfold fr
    split
    · split <;> omega
    · split <;> omega
  have h3 := Lw_mono h1
  have h4 := Lw_add y.natAbs y.natAbs
  omega
theorem t69d (z : Int) (b : Bool) (va : Value) (w : World) (hb : b = decide (z < 0)) (hA : Nt w va z.natAbs) (hl : Lw z.natAbs ≤ 100000) :
    Calls Tryz.prog 69 #[.agg #[.bool b, va], .int .i64 10] w (TxtR (txtZ 10 z) w) := t69 z b va 10 w hb hA hl (by omega) (by omega)
def DivV (x y : Int) : Value := if y = 0 then .tuple #[.agg #[.string ⟨#[]⟩, .string ⟨#[]⟩], .int .i64 11] else .tuple #[.agg #[.string ⟨(txtZ 10 (fq x y)).toArray⟩, .string ⟨(txtZ 10 (fr x y)).toArray⟩], .int .i64 0]

set_option maxRecDepth 100000 in
set_option maxHeartbeats 2000000 in
theorem t97 (x y : Int) (b c : Bool) (va vb : Value) (w : World) (hb : b = decide (x < 0)) (hc : c = decide (y < 0)) (hA : Nt w va x.natAbs) (hB : Nt w vb y.natAbs) (hl : Lw x.natAbs ≤ 40000) (hl' : Lw y.natAbs ≤ 40000) :
    Calls Tryz.prog 97 #[.agg #[.bool b, va], .agg #[.bool c, vb]] w fun e w' => e = .returned (DivV x y) ∧ Below w.heap.size w w' := by
  have hb0 : Below w.heap.size w (((w.alloc (.cells #[.bool b, va] 67)).alloc (.cells #[.bool c, vb] 67)).alloc (.cells #[.string ⟨#[]⟩, .string ⟨#[]⟩] 32)) := (((Below.refl _ _).alloc (Nat.le_refl _) _).alloc (by simp) _).alloc (by simp; omega) _
  have hk1 : Blk (((w.alloc (.cells #[.bool b, va] 67)).alloc (.cells #[.bool c, vb] 67)).alloc (.cells #[.string ⟨#[]⟩, .string ⟨#[]⟩] 32)) w.heap.size 67 [.bool b, va] := ((Blk.new w #[.bool b, va] 67).alloc _).alloc _
  have hk2 : Blk (((w.alloc (.cells #[.bool b, va] 67)).alloc (.cells #[.bool c, vb] 67)).alloc (.cells #[.string ⟨#[]⟩, .string ⟨#[]⟩] 32)) (w.heap.size + 1) 67 [.bool c, vb] := by
    have := (Blk.new (w.alloc (.cells #[.bool b, va] 67)) #[.bool c, vb] 67).alloc (.cells #[.string ⟨#[]⟩, .string ⟨#[]⟩] 32)
    simpa using this
  have hk3 : Blk (((w.alloc (.cells #[.bool b, va] 67)).alloc (.cells #[.bool c, vb] 67)).alloc (.cells #[.string ⟨#[]⟩, .string ⟨#[]⟩] 32)) (w.heap.size + 2) 32 [.string ⟨#[]⟩, .string ⟨#[]⟩] := by
    have := Blk.new ((w.alloc (.cells #[.bool b, va] 67)).alloc (.cells #[.bool c, vb] 67)) #[.string ⟨#[]⟩, .string ⟨#[]⟩] 32
    simpa using this
  have c1 := t65 c vb y.natAbs _ (hB.below hb0)
  obtain ⟨pa, ca, rfl, -, -, -⟩ := hA.cells
  obtain ⟨pb, cb, rfl, -, -, -⟩ := hB.cells
  have C1 := Lib.hid c1
  have HB0 := Lib.hid hb0
  have K1 := Lib.hid hk1
  have K2 := Lib.hid hk2
  have K3 := Lib.hid hk3
  have HA := Lib.hid hA
  have HB := Lib.hid hB
  have HX := Lib.hid hb
  have HY := Lib.hid hc
  clear c1 hb0 hk1 hk2 hk3 hA hB hb hc
  by_cases hy : y = 0
  · have hd : decide (y.natAbs = 0) = true := by simpa using hy
    rw [hd] at C1
    have HV : Hid (DivV x y = .tuple #[.agg #[.string ⟨#[]⟩, .string ⟨#[]⟩], .int .i64 11]) := by show _ = _; unfold DivV; rw [if_pos hy]
    clear hd hy
    go_enter Tryz.func97, Tryz.ntmps97
    go_wp2_with fail
    refine C1.out.mono ?_
    rintro e w1 ⟨rfl, hb1⟩
    have hB1 := HB0.out.trans (hb1.mono HB0.out.size)
    have hk := K3.out.below hb1 K3.out.lt
    have r0 := hk.cell 0 rfl
    have r1 := hk.cell 1 rfl
    have f0 := hk.free 0
    have f1 := hk.free 1
    have HK := Lib.hid hk
    clear hk hb1
    go_wp2_with fail
    have g0 : (w1.setCell ⟨w.heap.size + 1 + 1, 0, none⟩ (.string ⟨#[]⟩)).cell? ⟨w.heap.size + 1 + 1, 0, none⟩ = some (.string ⟨#[]⟩) := (HK.out.set 0 _).cell 0 rfl
    have g1 : ((w1.setCell ⟨w.heap.size + 1 + 1, 0, none⟩ (.string ⟨#[]⟩)).setCell ⟨w.heap.size + 1 + 1, 1, none⟩ (.string ⟨#[]⟩)).cell? ⟨w.heap.size + 1 + 1, 1, none⟩ = some (.string ⟨#[]⟩) := ((HK.out.set 0 _).set 1 _).cell 1 rfl
    refine bodyPost_ret (v := .tuple #[.agg #[.string ⟨#[]⟩, .string ⟨#[]⟩], .int .i64 11]) (by simp [results, Tryz.results97, go_sem, g0, g1]) rfl ⟨by rw [HV.out], ?_⟩
    exact (hB1.setCell (by simp; omega) _).setCell (by simp; omega) _
  · have hd : decide (y.natAbs = 0) = false := by simpa using hy
    rw [hd] at C1
    have HV : Hid (DivV x y = .tuple #[.agg #[.string ⟨(txtZ 10 (fq x y)).toArray⟩, .string ⟨(txtZ 10 (fr x y)).toArray⟩], .int .i64 0]) := by show _ = _; unfold DivV; rw [if_neg hy]
    have HY0 := Lib.hid hy
    clear hd hy
    go_enter Tryz.func97, Tryz.ntmps97
    go_wp2_with fail
    refine C1.out.mono ?_
    rintro e w1 ⟨rfl, hb1⟩
    have hB1 := HB0.out.trans (hb1.mono HB0.out.size)
    have hk := K3.out.below hb1 K3.out.lt
    have k1 := K1.out.below hb1 K1.out.lt
    have k2 := K2.out.below hb1 K2.out.lt
    have h1 := k1.cell 0 rfl
    have h2 := k1.cell 1 rfl
    have h3 := k2.cell 0 rfl
    have h4 := k2.cell 1 rfl
    have c2 := t98 x y b c _ _ w1 HX.out HY.out HY0.out (HA.out.below hB1) (HB.out.below hB1) (by omega) (by omega)
    have C2 := Lib.hid c2
    have HK := Lib.hid hk
    clear hk hb1 k1 k2 c2
    go_wp2_with fail
    refine C2.out.mono ?_
    rintro e w2 ⟨vq, vr, rfl, hq, hr, hb2⟩
    obtain ⟨pq, cq, rfl, -, -, -⟩ := hq.cells
    obtain ⟨pr, cr, rfl, -, -, -⟩ := hr.cells
    have hB2 := hB1.trans (hb2.mono hB1.size)
    have hlq := Lw_fq x y 40000 hl
    have hlr := Lw_fr x y 40000 HY0.out hl'
    obtain ⟨s1, hs1⟩ : ∃ s : Bool, s = decide (fq x y < 0) := ⟨_, rfl⟩
    obtain ⟨s2, hs2⟩ : ∃ s : Bool, s = decide (fr x y < 0) := ⟨_, rfl⟩
    rw [← hs1, ← hs2]
    have T1 := Lib.hid (fun (W : World) (h : Nt W (.slice pq (Lw (fq x y).natAbs) cq) (fq x y).natAbs) => t69d (fq x y) s1 _ W hs1 h (by omega))
    have T2 := Lib.hid (fun (W : World) (h : Nt W (.slice pr (Lw (fr x y).natAbs) cr) (fr x y).natAbs) => t69d (fr x y) s2 _ W hs2 h (by omega))
    have hal : Below w2.heap.size w2 ((w2.alloc (.cells #[.bool s1, .slice pq (Lw (fq x y).natAbs) cq] 67)).alloc (.cells #[.bool s2, .slice pr (Lw (fr x y).natAbs) cr] 67)) := ((Below.refl _ _).alloc (Nat.le_refl _) _).alloc (by simp) _
    have hk3 := (HK.out.below hb2 HK.out.lt).below hal (HK.out.below hb2 HK.out.lt).lt
    have hkq : Blk ((w2.alloc (.cells #[.bool s1, .slice pq (Lw (fq x y).natAbs) cq] 67)).alloc (.cells #[.bool s2, .slice pr (Lw (fr x y).natAbs) cr] 67)) w2.heap.size 67 [.bool s1, .slice pq (Lw (fq x y).natAbs) cq] := (Blk.new w2 #[.bool s1, .slice pq (Lw (fq x y).natAbs) cq] 67).alloc _
    have hkr : Blk ((w2.alloc (.cells #[.bool s1, .slice pq (Lw (fq x y).natAbs) cq] 67)).alloc (.cells #[.bool s2, .slice pr (Lw (fr x y).natAbs) cr] 67)) (w2.heap.size + 1) 67 [.bool s2, .slice pr (Lw (fr x y).natAbs) cr] := by
      have := Blk.new (w2.alloc (.cells #[.bool s1, .slice pq (Lw (fq x y).natAbs) cq] 67)) #[.bool s2, .slice pr (Lw (fr x y).natAbs) cr] 67
      simpa using this
    have hsz2 : w.heap.size + 2 < w2.heap.size := (HK.out.below hb2 HK.out.lt).lt
    have hbw := hB2.trans (hal.mono hB2.size)
    have HQ := Lib.hid ((hq.below hal).below (Below.refl _ _).drew)
    have HR := Lib.hid ((hr.below hal).below (Below.refl _ _).drew)
    clear hs1 hs2 hq hr hb2 hB1 hB2 hal h1 h2 h3 h4
    go_wp2_with fail
    generalize (w2.alloc (.cells #[.bool s1, .slice pq (Lw (fq x y).natAbs) cq] 67)).alloc (.cells #[.bool s2, .slice pr (Lw (fr x y).natAbs) cr] 67) = W at *
    have h1 := hkq.cell 0 rfl
    have h2 := hkq.cell 1 rfl
    have h3 := hkr.cell 0 rfl
    have h4 := hkr.cell 1 rfl
    have HK3 : Hid (Blk W.drew (w.heap.size + 2) 32 [.string ⟨#[]⟩, .string ⟨#[]⟩]) := hk3
    have HBW := Lib.hid hbw.drew
    clear hkq hkr hk3 hbw
    generalize hnn : w2.heap.size = n2 at *
    clear hnn
    go_region_held3 (fun w' => w'.cell? ⟨n2, 0, none⟩ = some (.bool s1) ∧ w'.cell? ⟨n2, 1, none⟩ = some (.slice pq (Lw (fq x y).natAbs) cq) ∧ w'.cell? ⟨n2 + 1, 0, none⟩ = some (.bool s2) ∧ w'.cell? ⟨n2 + 1, 1, none⟩ = some (.slice pr (Lw (fr x y).natAbs) cr))
      (first
        | exact ⟨k1, k2, k3, k4⟩
        | exact ⟨l1, l2, l3, l4⟩
        | exact ⟨cell_far (cell_far l1 (by omega)) (by omega), cell_far (cell_far l2 (by omega)) (by omega), cell_far (cell_far l3 (by omega)) (by omega), cell_far (cell_far l4 (by omega)) (by omega)⟩
        | (go_keep; done)
        | fail "nokeep")
      (first
        | (go_at_call 69; (with_reducible refine (T1.out _ HQ.out).mono ?_); rintro e w3 ⟨rfl, hb3⟩; have k1 := below_cell (w := W.drew) hb3 h1; have k2 := below_cell (w := W.drew) hb3 h2; have k3 := below_cell (w := W.drew) hb3 h3; have k4 := below_cell (w := W.drew) hb3 h4; have HK4 := Lib.hid (HK3.out.below hb3 HK3.out.lt); have HR3 := Lib.hid (HR.out.below hb3))
        | (go_at_call 69; (with_reducible refine (T2.out _ HR3.out).mono ?_); rintro e w4 ⟨rfl, hb4⟩; have l1 := below_cell hb4 k1; have l2 := below_cell hb4 k2; have l3 := below_cell hb4 k3; have l4 := below_cell hb4 k4; have hk5 := HK4.out.below hb4 HK4.out.lt; have r0 := hk5.cell 0 rfl; have r1 := hk5.cell 1 rfl; have f0 := hk5.free 0; have f1 := hk5.free 1; have HK5 := Lib.hid hk5; clear hk5)
        | fail "none")
    go_wp2
    have g0 : (w4.setCell ⟨w.heap.size + 1 + 1, 0, none⟩ (.string ⟨(txtZ 10 (fq x y)).toArray⟩)).cell? ⟨w.heap.size + 1 + 1, 0, none⟩ = some (.string ⟨(txtZ 10 (fq x y)).toArray⟩) := (HK5.out.set 0 _).cell 0 rfl
    have g1 : ((w4.setCell ⟨w.heap.size + 1 + 1, 0, none⟩ (.string ⟨(txtZ 10 (fq x y)).toArray⟩)).setCell ⟨w.heap.size + 1 + 1, 1, none⟩ (.string ⟨(txtZ 10 (fr x y)).toArray⟩)).cell? ⟨w.heap.size + 1 + 1, 1, none⟩ = some (.string ⟨(txtZ 10 (fr x y)).toArray⟩) := ((HK5.out.set 0 _).set 1 _).cell 1 rfl
    refine bodyPost_ret (v := .tuple #[.agg #[.string ⟨(txtZ 10 (fq x y)).toArray⟩, .string ⟨(txtZ 10 (fr x y)).toArray⟩], .int .i64 0]) (by simp [results, Tryz.results97, go_sem, g0, g1]) rfl ⟨by rw [HV.out], ?_⟩
    have hBw4 := (HBW.out.trans (hb3.mono HBW.out.size)).trans (hb4.mono (Nat.le_trans HBW.out.size hb3.size))
    exact (hBw4.setCell (by simp; omega) _).setCell (by simp; omega) _
end Go.Proofs.YtifhiefdhhmdeaaGreatDoor
