/- Contract of reckon over integers with two strings as a result, and of Div. -/
import Derived.Test.YtifhiefdhhmdeaaGreatDoorZD
namespace Go.Proofs.YtifhiefdhhmdeaaGreatDoor
open Go Go.RowKit

theorem DivV_form (x y : Int) : ∃ u v : ByteArray, ∃ n : Int, DivV x y = .tuple #[.agg #[.string u, .string v], .int .i64 n] := by
  unfold DivV
  split
  · exact ⟨_, _, _, rfl⟩
  · exact ⟨_, _, _, rfl⟩
set_option maxRecDepth 100000 in
set_option maxHeartbeats 4000000 in
theorem r96 (s t : ByteArray) (w : World) :
    Calls Tryz.prog 96 #[.func (.func 56) #[] #[], .string s, .string t, .func (.func 97) #[] #[]] w (RkR s.data.toList t.data.toList (.tuple #[.agg #[.string ⟨#[]⟩, .string ⟨#[]⟩], .int .i64 1]) DivV w) := by
  have HB0 : Hid (Below w.heap.size w (w.alloc (.cells #[.string ⟨#[]⟩, .string ⟨#[]⟩] 32))) := (Below.refl _ _).alloc (Nat.le_refl _) _
  have HK0 : Hid (Blk (w.alloc (.cells #[.string ⟨#[]⟩, .string ⟨#[]⟩] 32)) w.heap.size 32 [.string ⟨#[]⟩, .string ⟨#[]⟩]) := Blk.new w _ 32
  go_enter Tryz.func96, Tryz.ntmps96
  go_wp2_with fail
  refine (t56 s _).mono ?_
  rintro e w1 (⟨hv1, rfl, hb1⟩ | ⟨x, v, hx, rfl, hn1, hb1⟩)
  · have HV1 := Lib.hid hv1
    have hB1 := HB0.out.trans (hb1.mono HB0.out.size)
    have HB1 := Lib.hid (hB1.alloc hB1.size (.cells #[.bool false, .slice none 0 0] 67))
    have HK1 := Lib.hid ((HK0.out.below hb1 HK0.out.lt).alloc (.cells #[.bool false, .slice none 0 0] 67))
    clear hv1 hB1 hb1
    go_wp2_with fail
    refine (t56 t _).mono ?_
    rintro e w2 (⟨hv2, rfl, hb2⟩ | ⟨y, v2, hy, rfl, hn2, hb2⟩)
    · have HB2 := Lib.hid (HB1.out.trans (hb2.mono HB1.out.size))
      have HK2 := Lib.hid (HK1.out.below hb2 HK1.out.lt)
      clear hv2 hb2
      have hk := ((HK2.out.alloc (.cells #[.bool false, .slice none 0 0] 67)).alloc (.cells #[.string ⟨#[]⟩, .string ⟨#[]⟩] 32))
      have r0 := hk.cell 0 rfl
      have r1 := hk.cell 1 rfl
      have f0 := hk.free 0
      have f1 := hk.free 1
      have HKF := Lib.hid hk
      have HBF := Lib.hid ((HB2.out.alloc HB2.out.size (.cells #[.bool false, .slice none 0 0] 67)).alloc (by simp; have := HB2.out.size; omega) (.cells #[.string ⟨#[]⟩, .string ⟨#[]⟩] 32))
      clear hk
      go_wp2_with fail
      generalize (w2.alloc (.cells #[.bool false, .slice none 0 0] 67)).alloc (.cells #[.string ⟨#[]⟩, .string ⟨#[]⟩] 32) = WF at *
      have g0 : (WF.setCell ⟨w.heap.size, 0, none⟩ (.string ⟨#[]⟩)).cell? ⟨w.heap.size, 0, none⟩ = some (.string ⟨#[]⟩) := (HKF.out.set 0 _).cell 0 rfl
      have g1 : ((WF.setCell ⟨w.heap.size, 0, none⟩ (.string ⟨#[]⟩)).setCell ⟨w.heap.size, 1, none⟩ (.string ⟨#[]⟩)).cell? ⟨w.heap.size, 1, none⟩ = some (.string ⟨#[]⟩) := ((HKF.out.set 0 _).set 1 _).cell 1 rfl
      refine bodyPost_ret (v := .tuple #[.agg #[.string ⟨#[]⟩, .string ⟨#[]⟩], .int .i64 1]) (by simp [results, Tryz.results96, go_sem, g0, g1]) rfl ?_
      exact .inl ⟨.inl HV1.out, rfl, (HBF.out.setCell (Nat.le_refl _) _).setCell (Nat.le_refl _) _⟩
    · have HB2 := Lib.hid (HB1.out.trans (hb2.mono HB1.out.size))
      have HK2 := Lib.hid (HK1.out.below hb2 HK1.out.lt)
      obtain ⟨p2, c2, rfl, -, -, -⟩ := hn2.cells
      clear hy hn2 hb2
      have hk := ((HK2.out.alloc (.cells #[.bool (decide (y < 0)), .slice p2 (Lw y.natAbs) c2] 67)).alloc (.cells #[.string ⟨#[]⟩, .string ⟨#[]⟩] 32))
      have r0 := hk.cell 0 rfl
      have r1 := hk.cell 1 rfl
      have f0 := hk.free 0
      have f1 := hk.free 1
      have HKF := Lib.hid hk
      have HBF := Lib.hid ((HB2.out.alloc HB2.out.size (.cells #[.bool (decide (y < 0)), .slice p2 (Lw y.natAbs) c2] 67)).alloc (by simp; have := HB2.out.size; omega) (.cells #[.string ⟨#[]⟩, .string ⟨#[]⟩] 32))
      clear hk
      go_wp2_with fail
      generalize (w2.alloc (.cells #[.bool (decide (y < 0)), .slice p2 (Lw y.natAbs) c2] 67)).alloc (.cells #[.string ⟨#[]⟩, .string ⟨#[]⟩] 32) = WF at *
      have g0 : (WF.setCell ⟨w.heap.size, 0, none⟩ (.string ⟨#[]⟩)).cell? ⟨w.heap.size, 0, none⟩ = some (.string ⟨#[]⟩) := (HKF.out.set 0 _).cell 0 rfl
      have g1 : ((WF.setCell ⟨w.heap.size, 0, none⟩ (.string ⟨#[]⟩)).setCell ⟨w.heap.size, 1, none⟩ (.string ⟨#[]⟩)).cell? ⟨w.heap.size, 1, none⟩ = some (.string ⟨#[]⟩) := ((HKF.out.set 0 _).set 1 _).cell 1 rfl
      refine bodyPost_ret (v := .tuple #[.agg #[.string ⟨#[]⟩, .string ⟨#[]⟩], .int .i64 1]) (by simp [results, Tryz.results96, go_sem, g0, g1]) rfl ?_
      exact .inl ⟨.inl HV1.out, rfl, (HBF.out.setCell (Nat.le_refl _) _).setCell (Nat.le_refl _) _⟩
  · have HX := Lib.hid hx
    obtain ⟨p1, c1, rfl, -, -, -⟩ := hn1.cells
    have hB1 := HB0.out.trans (hb1.mono HB0.out.size)
    have HB1 := Lib.hid (hB1.alloc hB1.size (.cells #[.bool (decide (x < 0)), .slice p1 (Lw x.natAbs) c1] 67))
    have HK1 := Lib.hid ((HK0.out.below hb1 HK0.out.lt).alloc (.cells #[.bool (decide (x < 0)), .slice p1 (Lw x.natAbs) c1] 67))
    have HX1 := Lib.hid (Blk.new w1 #[.bool (decide (x < 0)), .slice p1 (Lw x.natAbs) c1] 67)
    have HN1 := Lib.hid (hn1.below ((Below.refl _ _).alloc (Nat.le_refl _) (.cells #[.bool (decide (x < 0)), .slice p1 (Lw x.natAbs) c1] 67)))
    obtain ⟨b, hb⟩ : ∃ b : Bool, b = decide (x < 0) := ⟨_, rfl⟩
    rw [← hb] at HB1 HK1 HX1 HN1 ⊢
    have HBX := Lib.hid hb
    clear hx hn1 hB1 hb1 hb
    go_wp2_with fail
    refine (t56 t _).mono ?_
    rintro e w2 (⟨hv2, rfl, hb2⟩ | ⟨y, v2, hy, rfl, hn2, hb2⟩)
    · have HB2 := Lib.hid (HB1.out.trans (hb2.mono HB1.out.size))
      have HK2 := Lib.hid (HK1.out.below hb2 HK1.out.lt)
      have HV2 := Lib.hid hv2
      clear hv2 hb2
      have hk := ((HK2.out.alloc (.cells #[.bool false, .slice none 0 0] 67)).alloc (.cells #[.string ⟨#[]⟩, .string ⟨#[]⟩] 32))
      have r0 := hk.cell 0 rfl
      have r1 := hk.cell 1 rfl
      have f0 := hk.free 0
      have f1 := hk.free 1
      have HKF := Lib.hid hk
      have HBF := Lib.hid ((HB2.out.alloc HB2.out.size (.cells #[.bool false, .slice none 0 0] 67)).alloc (by simp; have := HB2.out.size; omega) (.cells #[.string ⟨#[]⟩, .string ⟨#[]⟩] 32))
      clear hk
      go_wp2_with fail
      generalize (w2.alloc (.cells #[.bool false, .slice none 0 0] 67)).alloc (.cells #[.string ⟨#[]⟩, .string ⟨#[]⟩] 32) = WF at *
      have g0 : (WF.setCell ⟨w.heap.size, 0, none⟩ (.string ⟨#[]⟩)).cell? ⟨w.heap.size, 0, none⟩ = some (.string ⟨#[]⟩) := (HKF.out.set 0 _).cell 0 rfl
      have g1 : ((WF.setCell ⟨w.heap.size, 0, none⟩ (.string ⟨#[]⟩)).setCell ⟨w.heap.size, 1, none⟩ (.string ⟨#[]⟩)).cell? ⟨w.heap.size, 1, none⟩ = some (.string ⟨#[]⟩) := ((HKF.out.set 0 _).set 1 _).cell 1 rfl
      refine bodyPost_ret (v := .tuple #[.agg #[.string ⟨#[]⟩, .string ⟨#[]⟩], .int .i64 1]) (by simp [results, Tryz.results96, go_sem, g0, g1]) rfl ?_
      exact .inl ⟨.inr HV2.out, rfl, (HBF.out.setCell (Nat.le_refl _) _).setCell (Nat.le_refl _) _⟩
    · have HY := Lib.hid hy
      obtain ⟨p2, c2, rfl, -, -, -⟩ := hn2.cells
      obtain ⟨c, hc⟩ : ∃ c : Bool, c = decide (y < 0) := ⟨_, rfl⟩
      rw [← hc]
      have HBY := Lib.hid hc
      have hk := HX1.out.below hb2 (by simp)
      have h1 := (hk.alloc (.cells #[.bool c, .slice p2 (Lw y.natAbs) c2] 67)).cell 0 rfl
      have h2 := (hk.alloc (.cells #[.bool c, .slice p2 (Lw y.natAbs) c2] 67)).cell 1 rfl
      have hB2 := HB1.out.trans (hb2.mono HB1.out.size)
      have hB3 := hB2.alloc hB2.size (.cells #[.bool c, .slice p2 (Lw y.natAbs) c2] 67)
      have HK3 := Lib.hid ((HK1.out.below hb2 HK1.out.lt).alloc (.cells #[.bool c, .slice p2 (Lw y.natAbs) c2] 67))
      have c3 := t97 x y b c _ _ (w2.alloc (.cells #[.bool c, .slice p2 (Lw y.natAbs) c2] 67)) HBX.out HBY.out ((HN1.out.below hb2).below ((Below.refl _ _).alloc (Nat.le_refl _) _)) (hn2.below ((Below.refl _ _).alloc (Nat.le_refl _) _)) (Nat.le_trans (fits_Lw HX.out.2) (by omega)) (Nat.le_trans (fits_Lw HY.out.2) (by omega))
      obtain ⟨u1, u2, ue, huv⟩ := DivV_form x y
      rw [huv] at c3
      have HU := Lib.hid huv
      have C3 := Lib.hid c3
      have HB3 := Lib.hid hB3
      clear hy hn2 hb2 hk hB2 hB3 c3 hc huv
      go_wp2_with fail
      refine C3.out.mono ?_
      rintro e w3 ⟨rfl, hb3⟩
      have hk4 := HK3.out.below hb3 HK3.out.lt
      have r0 := hk4.cell 0 rfl
      have r1 := hk4.cell 1 rfl
      have f0 := hk4.free 0
      have f1 := hk4.free 1
      have HK4 := Lib.hid hk4
      have HB4 := Lib.hid (HB3.out.trans (hb3.mono HB3.out.size))
      clear hk4 hb3
      go_wp2_with fail
      have g0 : (w3.setCell ⟨w.heap.size, 0, none⟩ (.string u1)).cell? ⟨w.heap.size, 0, none⟩ = some (.string u1) := (HK4.out.set 0 _).cell 0 rfl
      have g1 : ((w3.setCell ⟨w.heap.size, 0, none⟩ (.string u1)).setCell ⟨w.heap.size, 1, none⟩ (.string u2)).cell? ⟨w.heap.size, 1, none⟩ = some (.string u2) := ((HK4.out.set 0 _).set 1 _).cell 1 rfl
      refine bodyPost_ret (v := .tuple #[.agg #[.string u1, .string u2], .int .i64 ue]) (by simp [results, Tryz.results96, go_sem, g0, g1]) rfl ?_
      exact .inr ⟨x, y, HX.out, HY.out, by rw [HU.out], (HB4.out.setCell (Nat.le_refl _) _).setCell (Nat.le_refl _) _⟩
end Go.Proofs.YtifhiefdhhmdeaaGreatDoor
