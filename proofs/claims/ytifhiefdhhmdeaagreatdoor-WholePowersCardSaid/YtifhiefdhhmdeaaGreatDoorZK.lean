/- Contract of readRational. -/
import Derived.Test.YtifhiefdhhmdeaaGreatDoorZJ
namespace Go.Proofs.YtifhiefdhhmdeaaGreatDoor
open Go Go.RowKit

abbrev Z98 : Array Value := #[.bool false, .slice none 0 0, .bool false, .slice none 0 0]
/-- a rational as a value -/
abbrev ratV (b : Bool) (v : Value) (c : Bool) (u : Value) : Value := .agg #[.bool b, v, .bool c, u]
/-- a text is a rational: t by m -/
def IsRat (l : List UInt8) (t : Int) (m : Nat) : Prop :=
  ((Lib.cut l [47]).2.2 = false ∧ IsNum (Lib.cut l [47]).1 t ∧ m = 1) ∨ ((Lib.cut l [47]).2.2 = true ∧ IsNum (Lib.cut l [47]).1 t ∧ IsNum (Lib.cut l [47]).2.1 (m : Int) ∧ 1 < m ∧ Nat.gcd t.natAbs m = 1)
def RrR (l : List UInt8) (w : World) (e : Ending) (w' : World) : Prop :=
  ((∀ t m, ¬ IsRat l t m) ∧ e = .returned (.tuple #[ratV false (.slice none 0 0) false (.slice none 0 0), .bool false]) ∧ Below w.heap.size w w') ∨
  (∃ t m v u, IsRat l t m ∧ e = .returned (.tuple #[ratV (decide (t < 0)) v false u, .bool true]) ∧ Nt w' v t.natAbs ∧ Nt w' u m ∧ Below w.heap.size w w')
theorem Nt.ne98 {w : World} {v : Value} {n g : Nat} {cs : List Value} (h : Nt w v n) (hb : Blk w g 98 cs) : v.ownBlock ≠ some g := by
  intro hg
  rcases row_cases h with ⟨_, h2 | ⟨g', cs', h2, _, _, h5, _⟩⟩
  · rw [h2.1] at hg; cases hg
  · rw [h2] at hg
    simp [Value.ownBlock] at hg
    subst hg
    have h9 : some (Obj.cells cs'.toArray 143 (0, 0)) = some (Obj.cells cs.toArray 98 (0, 0)) := h5.symm.trans hb
    simp at h9
theorem Nt.four {w : World} {v : Value} {n g : Nat} {cs : List Value} (h : Nt w v n) (hb : Blk w g 98 cs) (a b c d : Value) : Nt ((((w.setCell ⟨g, 0, none⟩ a).setCell ⟨g, 1, none⟩ b).setCell ⟨g, 2, none⟩ c).setCell ⟨g, 3, none⟩ d) v n :=
  have hne := h.ne98 hb
  (((h.setCell hne).setCell hne).setCell hne).setCell hne
theorem not_num {l : List UInt8} (h : vldL l = false) (z : Int) : ¬ IsNum l z := fun hz => by rw [(vldL_iff l).2 ⟨z, hz⟩] at h; cases h
theorem num_one {l : List UInt8} {x y : Int} (h : IsNum l x) (k : IsNum l y) : x = y := txtZ_inj (b := 10) (by omega) (by omega) (h.1.symm.trans k.1)

set_option maxRecDepth 100000 in
set_option maxHeartbeats 4000000 in
theorem t106 (s : ByteArray) (m : Int) (w : World) (hs : s.size < 4294967281) (hm : w.cell? ⟨0, 0, none⟩ = some (.int .i64 m)) :
    Calls Tryz.prog 106 #[.string s] w (RrR s.data.toList w) := by
  have HB0 : Hid (Below w.heap.size w (w.alloc (.cells Z98 98))) := (Below.refl _ _).alloc (Nat.le_refl _) _
  have HK0 : Hid (Blk (w.alloc (.cells Z98 98)) w.heap.size 98 Z98.toList) := Blk.new w _ 98
  have c1 := Tryz.strings_Cut s ⟨#[47]⟩ m (w.alloc (.cells Z98 98)) hs (below_cell HB0.out hm)
  rw [show ((⟨#[47]⟩ : ByteArray).data.toList) = [47] from rfl] at c1
  obtain ⟨ta, hta⟩ : ∃ ta : ByteArray, ta = ⟨(Lib.cut s.data.toList [47]).1.toArray⟩ := ⟨_, rfl⟩
  obtain ⟨tb, htb⟩ : ∃ tb : ByteArray, tb = ⟨(Lib.cut s.data.toList [47]).2.1.toArray⟩ := ⟨_, rfl⟩
  obtain ⟨two, htw⟩ : ∃ two : Bool, two = (Lib.cut s.data.toList [47]).2.2 := ⟨_, rfl⟩
  rw [← hta, ← htb, ← htw] at c1
  have HTA : Hid (ta.data.toList = (Lib.cut s.data.toList [47]).1) := by show _ = _; rw [hta]
  have HTB : Hid (tb.data.toList = (Lib.cut s.data.toList [47]).2.1) := by show _ = _; rw [htb]
  have HTW := Lib.hid htw
  have C1 := Lib.hid c1
  clear c1 hta htb htw hm
  go_enter Tryz.func106, Tryz.ntmps106
  go_wp2_with fail
  refine C1.out.mono ?_
  rintro e w0 ⟨rfl, n0, rfl⟩
  have HB1 := Lib.hid (below_drewN HB0.out n0)
  have HK1 : Hid (Blk ((w.alloc (.cells Z98 98)).drewN n0) w.heap.size 98 Z98.toList) := HK0.out
  go_wp2_with fail
  refine (t56 ta _).mono ?_
  rintro e w1 (⟨hv1, rfl, hb1⟩ | ⟨x, v, hx, rfl, hn1, hb1⟩)
  · have HV1 := Lib.hid hv1
    have hb2 := HB1.out.trans (hb1.mono HB1.out.size)
    have HB2 := Lib.hid (hb2.alloc hb2.size (.cells #[.bool false, .slice none 0 0] 67))
    have hk := ((HK1.out.below hb1 HK1.out.lt).alloc (.cells #[.bool false, .slice none 0 0] 67))
    have r0 := hk.cell 0 rfl
    have r1 := hk.cell 1 rfl
    have r2 := hk.cell 2 rfl
    have r3 := hk.cell 3 rfl
    have f0 := hk.free 0
    have f1 := hk.free 1
    have f2 := hk.free 2
    have f3 := hk.free 3
    have HK := Lib.hid hk
    clear hk
    clear hv1 hb1 hb2
    go_wp2_with fail
    generalize (w1.alloc (.cells #[.bool false, .slice none 0 0] 67)) = WF at *
    have g0 : (WF.setCell ⟨w.heap.size, 0, none⟩ (.bool false)).cell? ⟨w.heap.size, 0, none⟩ = some (.bool false) := (HK.out.set 0 _).cell 0 rfl
    have g1 : ((WF.setCell ⟨w.heap.size, 0, none⟩ (.bool false)).setCell ⟨w.heap.size, 1, none⟩ (.slice none 0 0)).cell? ⟨w.heap.size, 1, none⟩ = some (.slice none 0 0) := ((HK.out.set 0 _).set 1 _).cell 1 rfl
    have g2 : (((WF.setCell ⟨w.heap.size, 0, none⟩ (.bool false)).setCell ⟨w.heap.size, 1, none⟩ (.slice none 0 0)).setCell ⟨w.heap.size, 2, none⟩ (.bool false)).cell? ⟨w.heap.size, 2, none⟩ = some (.bool false) := (((HK.out.set 0 _).set 1 _).set 2 _).cell 2 rfl
    have g3 : ((((WF.setCell ⟨w.heap.size, 0, none⟩ (.bool false)).setCell ⟨w.heap.size, 1, none⟩ (.slice none 0 0)).setCell ⟨w.heap.size, 2, none⟩ (.bool false)).setCell ⟨w.heap.size, 3, none⟩ (.slice none 0 0)).cell? ⟨w.heap.size, 3, none⟩ = some (.slice none 0 0) := ((((HK.out.set 0 _).set 1 _).set 2 _).set 3 _).cell 3 rfl
    refine bodyPost_ret (v := .tuple #[.agg #[.bool false, .slice none 0 0, .bool false, .slice none 0 0], .bool false]) (by simp [results, Tryz.results106, go_sem, g0, g1, g2, g3]) rfl ?_
    have hbf : Below w.heap.size w ((((WF.setCell ⟨w.heap.size, 0, none⟩ (.bool false)).setCell ⟨w.heap.size, 1, none⟩ (.slice none 0 0)).setCell ⟨w.heap.size, 2, none⟩ (.bool false)).setCell ⟨w.heap.size, 3, none⟩ (.slice none 0 0)) := (((HB2.out.setCell (Nat.le_refl _) _).setCell (Nat.le_refl _) _).setCell (Nat.le_refl _) _).setCell (Nat.le_refl _) _
    refine .inl ⟨fun t k h => ?_, rfl, hbf⟩
    rcases h with ⟨_, h, _⟩ | ⟨_, h, _⟩
    · exact not_num HV1.out t (by rw [HTA.out]; exact h)
    · exact not_num HV1.out t (by rw [HTA.out]; exact h)
  · have HX := Lib.hid hx
    obtain ⟨p1, c1, rfl, -, -, -⟩ := hn1.cells
    obtain ⟨b, hb⟩ : ∃ b : Bool, b = decide (x < 0) := ⟨_, rfl⟩
    rw [← hb]
    have HBX := Lib.hid hb
    have hb2 := HB1.out.trans (hb1.mono HB1.out.size)
    have HB2 := Lib.hid (hb2.alloc hb2.size (.cells #[.bool b, .slice p1 (Lw x.natAbs) c1] 67))
    have HK2 := Lib.hid ((HK1.out.below hb1 HK1.out.lt).alloc (.cells #[.bool b, .slice p1 (Lw x.natAbs) c1] 67))
    have HX2 := Lib.hid (Blk.new w1 #[.bool b, .slice p1 (Lw x.natAbs) c1] 67)
    have HN2 := Lib.hid (hn1.below ((Below.refl _ _).alloc (Nat.le_refl _) (.cells #[.bool b, .slice p1 (Lw x.natAbs) c1] 67)))
    have hw1 : w.heap.size < w1.heap.size := (HK1.out.below hb1 HK1.out.lt).lt
    clear hx hn1 hb1 hb2 hb
    cases two with
    | false =>
      go_wp2_with fail
      have h1 := HX2.out.cell 0 rfl
      have h2 := HX2.out.cell 1 rfl
      have HKd : Hid (Blk (w1.alloc (.cells #[.bool b, .slice p1 (Lw x.natAbs) c1] 67)).drew w.heap.size 98 Z98.toList) := HK2.out
      have HNd : Hid (Nt (w1.alloc (.cells #[.bool b, .slice p1 (Lw x.natAbs) c1] 67)).drew (.slice p1 (Lw x.natAbs) c1) x.natAbs) := HN2.out
      have HBd := Lib.hid HB2.out.drew
      generalize (w1.alloc (.cells #[.bool b, .slice p1 (Lw x.natAbs) c1] 67)) = W at *
      generalize hnn : w1.heap.size = n1 at *
      clear hnn
      go_region_held3 (fun w' => w'.cell? ⟨n1, 0, none⟩ = some (.bool b) ∧ w'.cell? ⟨n1, 1, none⟩ = some (.slice p1 (Lw x.natAbs) c1))
        (first
          | exact ⟨k1, k2⟩
          | exact ⟨cell_far (cell_far (cell_far (cell_far k1 (by omega)) (by omega)) (by omega)) (by omega), cell_far (cell_far (cell_far (cell_far k2 (by omega)) (by omega)) (by omega)) (by omega)⟩
          | (go_keep; done)
          | fail "nokeep")
        (first
          | (go_at_call 123; (with_reducible refine (t123 _).mono ?_); rintro e w2 ⟨v2, rfl, hv2, hb2⟩; obtain ⟨p2, c2, rfl, -, -, -⟩ := hv2.cells; have k1 := below_cell (w := W.drew) hb2 h1; have k2 := below_cell (w := W.drew) hb2 h2; have hk := HKd.out.below hb2 HKd.out.lt; have r0 := hk.cell 0 rfl; have r1 := hk.cell 1 rfl; have r2 := hk.cell 2 rfl; have r3 := hk.cell 3 rfl; have f0 := hk.free 0; have f1 := hk.free 1; have f2 := hk.free 2; have f3 := hk.free 3; have HK := Lib.hid hk; clear hk)
          | fail "noarm")
      go_wp2
      have hB2 := HBd.out.trans (hb2.mono HBd.out.size)
      have g0 : (w2.setCell ⟨w.heap.size, 0, none⟩ (.bool b)).cell? ⟨w.heap.size, 0, none⟩ = some (.bool b) := (HK.out.set 0 _).cell 0 rfl
      have g1 : ((w2.setCell ⟨w.heap.size, 0, none⟩ (.bool b)).setCell ⟨w.heap.size, 1, none⟩ (.slice p1 (Lw x.natAbs) c1)).cell? ⟨w.heap.size, 1, none⟩ = some (.slice p1 (Lw x.natAbs) c1) := ((HK.out.set 0 _).set 1 _).cell 1 rfl
      have g2 : (((w2.setCell ⟨w.heap.size, 0, none⟩ (.bool b)).setCell ⟨w.heap.size, 1, none⟩ (.slice p1 (Lw x.natAbs) c1)).setCell ⟨w.heap.size, 2, none⟩ (.bool false)).cell? ⟨w.heap.size, 2, none⟩ = some (.bool false) := (((HK.out.set 0 _).set 1 _).set 2 _).cell 2 rfl
      have g3 : ((((w2.setCell ⟨w.heap.size, 0, none⟩ (.bool b)).setCell ⟨w.heap.size, 1, none⟩ (.slice p1 (Lw x.natAbs) c1)).setCell ⟨w.heap.size, 2, none⟩ (.bool false)).setCell ⟨w.heap.size, 3, none⟩ (.slice p2 (Lw 1) c2)).cell? ⟨w.heap.size, 3, none⟩ = some (.slice p2 (Lw 1) c2) := ((((HK.out.set 0 _).set 1 _).set 2 _).set 3 _).cell 3 rfl
      refine bodyPost_ret (v := .tuple #[.agg #[.bool b, .slice p1 (Lw x.natAbs) c1, .bool false, .slice p2 (Lw 1) c2], .bool true]) (by simp [results, Tryz.results106, go_sem, g0, g1, g2, g3]) rfl ?_
      have hbf : Below w.heap.size w ((((w2.setCell ⟨w.heap.size, 0, none⟩ (.bool b)).setCell ⟨w.heap.size, 1, none⟩ (.slice p1 (Lw x.natAbs) c1)).setCell ⟨w.heap.size, 2, none⟩ (.bool false)).setCell ⟨w.heap.size, 3, none⟩ (.slice p2 (Lw 1) c2)) := (((hB2.setCell (Nat.le_refl _) _).setCell (Nat.le_refl _) _).setCell (Nat.le_refl _) _).setCell (Nat.le_refl _) _
      have q1 := HNd.out.below hb2
      have q2 := hv2
      refine .inr ⟨x, 1, _, _, .inl ⟨HTW.out.symm, by rw [← HTA.out]; exact HX.out, rfl⟩, by rw [← HBX.out], ?_, ?_, hbf⟩
      · exact q1.four HK.out _ _ _ _
      · exact q2.four HK.out _ _ _ _
    | true =>
      go_wp2_with fail
      refine (t56 tb _).mono ?_
      rintro e w2 (⟨hv2, rfl, hb2⟩ | ⟨y, v2, hy, rfl, hn2, hb2⟩)
      · have HV2 := Lib.hid hv2
        have hb3 := HB2.out.trans (hb2.mono HB2.out.size)
        have HB3 := Lib.hid (hb3.alloc hb3.size (.cells #[.bool false, .slice none 0 0] 67))
        have hk := ((HK2.out.below hb2 HK2.out.lt).alloc (.cells #[.bool false, .slice none 0 0] 67))
        have r0 := hk.cell 0 rfl
        have r1 := hk.cell 1 rfl
        have r2 := hk.cell 2 rfl
        have r3 := hk.cell 3 rfl
        have f0 := hk.free 0
        have f1 := hk.free 1
        have f2 := hk.free 2
        have f3 := hk.free 3
        have HK := Lib.hid hk
        clear hk
        clear hv2 hb2 hb3
        go_wp2_with fail
        generalize (w2.alloc (.cells #[.bool false, .slice none 0 0] 67)) = WF at *
        go_quiet (fail)
        have HKq : Hid (Blk (WF.drewN nq) w.heap.size 98 Z98.toList) := HK.out
        have HBq := Lib.hid (below_drewN HB3.out nq)
        clear HK HB3
        have HK := HKq
        have r0 := HK.out.cell 0 rfl
        have r1 := HK.out.cell 1 rfl
        have r2 := HK.out.cell 2 rfl
        have r3 := HK.out.cell 3 rfl
        have f0 := HK.out.free 0
        have f1 := HK.out.free 1
        have f2 := HK.out.free 2
        have f3 := HK.out.free 3
        generalize WF.drewN nq = WG at *
        go_wp2_with fail
        have g0 : (WG.setCell ⟨w.heap.size, 0, none⟩ (.bool false)).cell? ⟨w.heap.size, 0, none⟩ = some (.bool false) := (HK.out.set 0 _).cell 0 rfl
        have g1 : ((WG.setCell ⟨w.heap.size, 0, none⟩ (.bool false)).setCell ⟨w.heap.size, 1, none⟩ (.slice none 0 0)).cell? ⟨w.heap.size, 1, none⟩ = some (.slice none 0 0) := ((HK.out.set 0 _).set 1 _).cell 1 rfl
        have g2 : (((WG.setCell ⟨w.heap.size, 0, none⟩ (.bool false)).setCell ⟨w.heap.size, 1, none⟩ (.slice none 0 0)).setCell ⟨w.heap.size, 2, none⟩ (.bool false)).cell? ⟨w.heap.size, 2, none⟩ = some (.bool false) := (((HK.out.set 0 _).set 1 _).set 2 _).cell 2 rfl
        have g3 : ((((WG.setCell ⟨w.heap.size, 0, none⟩ (.bool false)).setCell ⟨w.heap.size, 1, none⟩ (.slice none 0 0)).setCell ⟨w.heap.size, 2, none⟩ (.bool false)).setCell ⟨w.heap.size, 3, none⟩ (.slice none 0 0)).cell? ⟨w.heap.size, 3, none⟩ = some (.slice none 0 0) := ((((HK.out.set 0 _).set 1 _).set 2 _).set 3 _).cell 3 rfl
        refine bodyPost_ret (v := .tuple #[.agg #[.bool false, .slice none 0 0, .bool false, .slice none 0 0], .bool false]) (by simp [results, Tryz.results106, go_sem, g0, g1, g2, g3]) rfl ?_
        have hbf : Below w.heap.size w ((((WG.setCell ⟨w.heap.size, 0, none⟩ (.bool false)).setCell ⟨w.heap.size, 1, none⟩ (.slice none 0 0)).setCell ⟨w.heap.size, 2, none⟩ (.bool false)).setCell ⟨w.heap.size, 3, none⟩ (.slice none 0 0)) := (((HBq.out.setCell (Nat.le_refl _) _).setCell (Nat.le_refl _) _).setCell (Nat.le_refl _) _).setCell (Nat.le_refl _) _
        refine .inl ⟨fun t k h => ?_, rfl, hbf⟩
        rcases h with ⟨h0, _, _⟩ | ⟨_, hX, hY, hlt, hgc⟩
        · rw [← HTW.out] at h0; cases h0
        · exact not_num HV2.out k (by rw [HTB.out]; exact hY)
      · have HY := Lib.hid hy
        obtain ⟨p2, c2, rfl, -, -, -⟩ := hn2.cells
        obtain ⟨c, hc⟩ : ∃ c : Bool, c = decide (y < 0) := ⟨_, rfl⟩
        rw [← hc]
        have HCY := Lib.hid hc
        have hb3 := HB2.out.trans (hb2.mono HB2.out.size)
        have HB3 := Lib.hid (hb3.alloc hb3.size (.cells #[.bool c, .slice p2 (Lw y.natAbs) c2] 67))
        have HK3 := Lib.hid ((HK2.out.below hb2 HK2.out.lt).alloc (.cells #[.bool c, .slice p2 (Lw y.natAbs) c2] 67))
        have HX3 := Lib.hid ((HX2.out.below hb2 HX2.out.lt).alloc (.cells #[.bool c, .slice p2 (Lw y.natAbs) c2] 67))
        have HY3 := Lib.hid (Blk.new w2 #[.bool c, .slice p2 (Lw y.natAbs) c2] 67)
        have HN3 := Lib.hid ((HN2.out.below hb2).below ((Below.refl _ _).alloc (Nat.le_refl _) (.cells #[.bool c, .slice p2 (Lw y.natAbs) c2] 67)))
        have HM3 := Lib.hid (hn2.below ((Below.refl _ _).alloc (Nat.le_refl _) (.cells #[.bool c, .slice p2 (Lw y.natAbs) c2] 67)))
        have hly := Nat.le_trans (fits_Lw hy.2) (show 400 ≤ 100000 by omega)
        have hlx := Nat.le_trans (fits_Lw HX.out.2) (show 400 ≤ 100000 by omega)
        have hwk : w.heap.size < w2.heap.size := by have := (HK2.out.below hb2 HK2.out.lt).lt; exact this
        clear hy hn2 hb2 hb3 hc
        go_wp2_with fail
        generalize w2.alloc (.cells #[.bool c, .slice p2 (Lw y.natAbs) c2] 67) = W at *
        generalize hnn : w2.heap.size = n2 at *
        generalize hnm : w1.heap.size = n1 at *
        clear hnn hnm
        have h1 := HY3.out.cell 0 rfl
        have h2 := HY3.out.cell 1 rfl
        have HMd : Hid (Nt W.drew (.slice p2 (Lw y.natAbs) c2) y.natAbs) := HM3.out
        have HNd : Hid (Nt W.drew (.slice p1 (Lw x.natAbs) c1) x.natAbs) := HN3.out
        have HKd : Hid (Blk W.drew w.heap.size 98 Z98.toList) := HK3.out
        have HXd : Hid (Blk W.drew n1 67 [.bool b, .slice p1 (Lw x.natAbs) c1]) := HX3.out
        have HYd : Hid (Blk W.drew n2 67 [.bool c, .slice p2 (Lw y.natAbs) c2]) := HY3.out
        have HBd := Lib.hid HB3.out.drew
        obtain ⟨cv, hcv⟩ : ∃ cv : Int, cv = cmpZ y 1 := ⟨_, rfl⟩
        have D1 := Lib.hid (fun (U : World) (u : Value) (g1 : Nt U (.slice p2 (Lw y.natAbs) c2) y.natAbs) (g2 : Nt U u 1) => hcv ▸ t101 y 1 c false _ u U HCY.out (by decide) g1 g2 (by omega) (Nat.le_trans (Lw_small (by decide)) (by omega)))
        have hcase : (y ≤ 1 ∧ cv ≤ 0) ∨ (1 < y ∧ 0 < cv) := by
          rw [hcv]; unfold cmpZ
          by_cases g1 : y < 1
          · rw [if_pos g1]; left; omega
          · rw [if_neg g1]
            by_cases g2 : 1 < y
            · rw [if_pos g2]; right; omega
            · rw [if_neg g2]; left; omega
        clear hcv
        go_region_held3 (fun w' => w'.cell? ⟨n2, 0, none⟩ = some (.bool c) ∧ w'.cell? ⟨n2, 1, none⟩ = some (.slice p2 (Lw y.natAbs) c2))
          (first
            | exact ⟨l1, l2⟩
            | exact ⟨k1, k2⟩
            | (go_keep; done)
            | fail "nokeep")
          (first
            | (go_at_call 123; (with_reducible refine (t123 _).mono ?_); rintro e w3 ⟨v3, rfl, hv3, hb3⟩; obtain ⟨p3, c3, rfl, -, -, -⟩ := hv3.cells; have k1 := below_cell (w := W.drew) hb3 h1; have k2 := below_cell (w := W.drew) hb3 h2)
            | (go_at_call 101; (with_reducible refine (D1.out _ _ (HMd.out.below hb3) hv3).mono ?_); rintro e w4 ⟨rfl, hb4⟩; have l1 := below_cell hb4 k1; have l2 := below_cell hb4 k2)
            | fail "noarm")
        have HB4 := Lib.hid ((HBd.out.trans (hb3.mono HBd.out.size)).trans (hb4.mono (Nat.le_trans HBd.out.size hb3.size)))
        have HK4 := Lib.hid ((HKd.out.below hb3 HKd.out.lt).below hb4 (HKd.out.below hb3 HKd.out.lt).lt)
        have HX4 := Lib.hid ((HXd.out.below hb3 HXd.out.lt).below hb4 (HXd.out.below hb3 HXd.out.lt).lt)
        have HY4 := Lib.hid ((HYd.out.below hb3 HYd.out.lt).below hb4 (HYd.out.below hb3 HYd.out.lt).lt)
        have HN4 := Lib.hid ((HNd.out.below hb3).below hb4)
        have HM4 := Lib.hid ((HMd.out.below hb3).below hb4)
        clear hb3 hb4 k1 k2 l1 l2 h1 h2
        rcases hcase with ⟨hy1, hcv⟩ | ⟨hy1, hcv⟩
        · have HY1 := Lib.hid hy1
          clear hy1
          have hk := HK4.out
          have r0 := hk.cell 0 rfl
          have r1 := hk.cell 1 rfl
          have r2 := hk.cell 2 rfl
          have r3 := hk.cell 3 rfl
          have f0 := hk.free 0
          have f1 := hk.free 1
          have f2 := hk.free 2
          have f3 := hk.free 3
          have HK := Lib.hid hk
          clear hk
          go_wp2_with fail
          have g0 : (w4.setCell ⟨w.heap.size, 0, none⟩ (.bool false)).cell? ⟨w.heap.size, 0, none⟩ = some (.bool false) := (HK.out.set 0 _).cell 0 rfl
          have g1 : ((w4.setCell ⟨w.heap.size, 0, none⟩ (.bool false)).setCell ⟨w.heap.size, 1, none⟩ (.slice none 0 0)).cell? ⟨w.heap.size, 1, none⟩ = some (.slice none 0 0) := ((HK.out.set 0 _).set 1 _).cell 1 rfl
          have g2 : (((w4.setCell ⟨w.heap.size, 0, none⟩ (.bool false)).setCell ⟨w.heap.size, 1, none⟩ (.slice none 0 0)).setCell ⟨w.heap.size, 2, none⟩ (.bool false)).cell? ⟨w.heap.size, 2, none⟩ = some (.bool false) := (((HK.out.set 0 _).set 1 _).set 2 _).cell 2 rfl
          have g3 : ((((w4.setCell ⟨w.heap.size, 0, none⟩ (.bool false)).setCell ⟨w.heap.size, 1, none⟩ (.slice none 0 0)).setCell ⟨w.heap.size, 2, none⟩ (.bool false)).setCell ⟨w.heap.size, 3, none⟩ (.slice none 0 0)).cell? ⟨w.heap.size, 3, none⟩ = some (.slice none 0 0) := ((((HK.out.set 0 _).set 1 _).set 2 _).set 3 _).cell 3 rfl
          refine bodyPost_ret (v := .tuple #[.agg #[.bool false, .slice none 0 0, .bool false, .slice none 0 0], .bool false]) (by simp [results, Tryz.results106, go_sem, g0, g1, g2, g3]) rfl ?_
          have hbf : Below w.heap.size w ((((w4.setCell ⟨w.heap.size, 0, none⟩ (.bool false)).setCell ⟨w.heap.size, 1, none⟩ (.slice none 0 0)).setCell ⟨w.heap.size, 2, none⟩ (.bool false)).setCell ⟨w.heap.size, 3, none⟩ (.slice none 0 0)) := (((HB4.out.setCell (Nat.le_refl _) _).setCell (Nat.le_refl _) _).setCell (Nat.le_refl _) _).setCell (Nat.le_refl _) _
          refine .inl ⟨fun t k h => ?_, rfl, hbf⟩
          rcases h with ⟨h0, _, _⟩ | ⟨_, hX, hY, hlt, hgc⟩
          · rw [← HTW.out] at h0; cases h0
          · have h5 : y = k := num_one HY.out (by rw [HTB.out]; exact hY)
            have := HY1.out; omega
        · have HY1 := Lib.hid hy1
          have h1 := HX4.out.cell 1 rfl
          have h2 := HY4.out.cell 1 rfl
          have D2 := Lib.hid (t104 _ _ x.natAbs y.natAbs w4 HN4.out HM4.out (by omega) (by omega))
          have hlg := Lw_gcd x.natAbs y.natAbs 100000 hlx hly
          obtain ⟨gd, hgd⟩ : ∃ gd, gd = Nat.gcd x.natAbs y.natAbs := ⟨_, rfl⟩
          rw [← hgd] at D2 hlg
          have HGD := Lib.hid hgd
          clear hy1 hgd
          go_wp2_with fail
          refine D2.out.mono ?_
          rintro e w5 ⟨vg, rfl, hvg, hb5⟩
          obtain ⟨p5, c5, rfl, -, -, -⟩ := hvg.cells
          have hal : Below w5.heap.size w5 (w5.alloc (.cells #[.int .u32 ((1 : Nat) : Int)] 143)) := (Below.refl _ _).alloc (Nat.le_refl _) _
          have D3 := Lib.hid (t138 _ _ gd 1 (w5.alloc (.cells #[.int .u32 ((1 : Nat) : Int)] 143)) (hvg.below hal) (nt_one w5 (n := 1) (by omega) (by omega)) (by omega) (Nat.le_trans (Lw_small (by omega)) (by omega)))
          have HB5 := Lib.hid ((HB4.out.trans (hb5.mono HB4.out.size)).trans (hal.mono (Nat.le_trans HB4.out.size hb5.size)))
          have HK5 := Lib.hid ((HK4.out.below hb5 HK4.out.lt).below hal (HK4.out.below hb5 HK4.out.lt).lt)
          have HX5 := Lib.hid ((HX4.out.below hb5 HX4.out.lt).below hal (HX4.out.below hb5 HX4.out.lt).lt)
          have HY5 := Lib.hid ((HY4.out.below hb5 HY4.out.lt).below hal (HY4.out.below hb5 HY4.out.lt).lt)
          have HN5 := Lib.hid ((HN4.out.below hb5).below hal)
          have HM5 := Lib.hid ((HM4.out.below hb5).below hal)
          clear hvg hb5 hal h1 h2
          go_wp2_with fail
          refine D3.out.mono ?_
          rintro e w6 ⟨rfl, n6, rfl⟩
          have HB6 := Lib.hid (below_drewN HB5.out n6)
          have HK6 : Hid (Blk ((w5.alloc (.cells #[.int .u32 ((1 : Nat) : Int)] 143)).drewN n6) w.heap.size 98 Z98.toList) := HK5.out
          have HX6 : Hid (Blk ((w5.alloc (.cells #[.int .u32 ((1 : Nat) : Int)] 143)).drewN n6) n1 67 [.bool b, .slice p1 (Lw x.natAbs) c1]) := HX5.out
          have HY6 : Hid (Blk ((w5.alloc (.cells #[.int .u32 ((1 : Nat) : Int)] 143)).drewN n6) n2 67 [.bool c, .slice p2 (Lw y.natAbs) c2]) := HY5.out
          have HN6 := Lib.hid (HN5.out.drewN n6)
          have HM6 := Lib.hid (HM5.out.drewN n6)
          generalize (w5.alloc (.cells #[.int .u32 ((1 : Nat) : Int)] 143)).drewN n6 = W6 at *
          by_cases hg1 : gd = 1
          · rw [cmpN_eq hg1]
            have h1 := HX6.out.cell 0 rfl
            have h2 := HX6.out.cell 1 rfl
            have h3 := HY6.out.cell 0 rfl
            have h4 := HY6.out.cell 1 rfl
            have HG1 := Lib.hid hg1
            clear hg1
            have hk := HK6.out
            have r0 := hk.cell 0 rfl
            have r1 := hk.cell 1 rfl
            have r2 := hk.cell 2 rfl
            have r3 := hk.cell 3 rfl
            have f0 := hk.free 0
            have f1 := hk.free 1
            have f2 := hk.free 2
            have f3 := hk.free 3
            have HK := Lib.hid hk
            clear hk
            go_wp2_with fail
            have g0 : (W6.setCell ⟨w.heap.size, 0, none⟩ (.bool b)).cell? ⟨w.heap.size, 0, none⟩ = some (.bool b) := (HK.out.set 0 _).cell 0 rfl
            have g1 : ((W6.setCell ⟨w.heap.size, 0, none⟩ (.bool b)).setCell ⟨w.heap.size, 1, none⟩ (.slice p1 (Lw x.natAbs) c1)).cell? ⟨w.heap.size, 1, none⟩ = some (.slice p1 (Lw x.natAbs) c1) := ((HK.out.set 0 _).set 1 _).cell 1 rfl
            have g2 : (((W6.setCell ⟨w.heap.size, 0, none⟩ (.bool b)).setCell ⟨w.heap.size, 1, none⟩ (.slice p1 (Lw x.natAbs) c1)).setCell ⟨w.heap.size, 2, none⟩ (.bool c)).cell? ⟨w.heap.size, 2, none⟩ = some (.bool c) := (((HK.out.set 0 _).set 1 _).set 2 _).cell 2 rfl
            have g3 : ((((W6.setCell ⟨w.heap.size, 0, none⟩ (.bool b)).setCell ⟨w.heap.size, 1, none⟩ (.slice p1 (Lw x.natAbs) c1)).setCell ⟨w.heap.size, 2, none⟩ (.bool c)).setCell ⟨w.heap.size, 3, none⟩ (.slice p2 (Lw y.natAbs) c2)).cell? ⟨w.heap.size, 3, none⟩ = some (.slice p2 (Lw y.natAbs) c2) := ((((HK.out.set 0 _).set 1 _).set 2 _).set 3 _).cell 3 rfl
            refine bodyPost_ret (v := .tuple #[.agg #[.bool b, .slice p1 (Lw x.natAbs) c1, .bool c, .slice p2 (Lw y.natAbs) c2], .bool true]) (by simp [results, Tryz.results106, go_sem, g0, g1, g2, g3]) rfl ?_
            have hbf : Below w.heap.size w ((((W6.setCell ⟨w.heap.size, 0, none⟩ (.bool b)).setCell ⟨w.heap.size, 1, none⟩ (.slice p1 (Lw x.natAbs) c1)).setCell ⟨w.heap.size, 2, none⟩ (.bool c)).setCell ⟨w.heap.size, 3, none⟩ (.slice p2 (Lw y.natAbs) c2)) := (((HB6.out.setCell (Nat.le_refl _) _).setCell (Nat.le_refl _) _).setCell (Nat.le_refl _) _).setCell (Nat.le_refl _) _
            have hcf : c = false := by rw [HCY.out]; simp; have := HY1.out; omega
            subst hcf
            have hyn : ((y.natAbs : Nat) : Int) = y := by have := HY1.out; omega
            refine .inr ⟨x, y.natAbs, _, _, .inr ⟨HTW.out.symm, by rw [← HTA.out]; exact HX.out, by rw [hyn, ← HTB.out]; exact HY.out, by have := HY1.out; omega, by rw [← HGD.out]; exact HG1.out⟩, by rw [← HBX.out], HN6.out.four HK.out _ _ _ _, HM6.out.four HK.out _ _ _ _, hbf⟩
          · have hne : (cmpN gd 1 != 0) = true := by
              have : cmpN gd 1 ≠ 0 := by unfold cmpN; split; decide; split; decide; omega
              simp [this]
            have HG1 := Lib.hid hg1
            generalize cmpN gd 1 = cg at *
            clear hg1
            have hk := HK6.out
            have r0 := hk.cell 0 rfl
            have r1 := hk.cell 1 rfl
            have r2 := hk.cell 2 rfl
            have r3 := hk.cell 3 rfl
            have f0 := hk.free 0
            have f1 := hk.free 1
            have f2 := hk.free 2
            have f3 := hk.free 3
            have HK := Lib.hid hk
            clear hk
            go_wp2_with fail
            have g0 : (W6.setCell ⟨w.heap.size, 0, none⟩ (.bool false)).cell? ⟨w.heap.size, 0, none⟩ = some (.bool false) := (HK.out.set 0 _).cell 0 rfl
            have g1 : ((W6.setCell ⟨w.heap.size, 0, none⟩ (.bool false)).setCell ⟨w.heap.size, 1, none⟩ (.slice none 0 0)).cell? ⟨w.heap.size, 1, none⟩ = some (.slice none 0 0) := ((HK.out.set 0 _).set 1 _).cell 1 rfl
            have g2 : (((W6.setCell ⟨w.heap.size, 0, none⟩ (.bool false)).setCell ⟨w.heap.size, 1, none⟩ (.slice none 0 0)).setCell ⟨w.heap.size, 2, none⟩ (.bool false)).cell? ⟨w.heap.size, 2, none⟩ = some (.bool false) := (((HK.out.set 0 _).set 1 _).set 2 _).cell 2 rfl
            have g3 : ((((W6.setCell ⟨w.heap.size, 0, none⟩ (.bool false)).setCell ⟨w.heap.size, 1, none⟩ (.slice none 0 0)).setCell ⟨w.heap.size, 2, none⟩ (.bool false)).setCell ⟨w.heap.size, 3, none⟩ (.slice none 0 0)).cell? ⟨w.heap.size, 3, none⟩ = some (.slice none 0 0) := ((((HK.out.set 0 _).set 1 _).set 2 _).set 3 _).cell 3 rfl
            refine bodyPost_ret (v := .tuple #[.agg #[.bool false, .slice none 0 0, .bool false, .slice none 0 0], .bool false]) (by simp [results, Tryz.results106, go_sem, g0, g1, g2, g3]) rfl ?_
            have hbf : Below w.heap.size w ((((W6.setCell ⟨w.heap.size, 0, none⟩ (.bool false)).setCell ⟨w.heap.size, 1, none⟩ (.slice none 0 0)).setCell ⟨w.heap.size, 2, none⟩ (.bool false)).setCell ⟨w.heap.size, 3, none⟩ (.slice none 0 0)) := (((HB6.out.setCell (Nat.le_refl _) _).setCell (Nat.le_refl _) _).setCell (Nat.le_refl _) _).setCell (Nat.le_refl _) _
            refine .inl ⟨fun t k h => ?_, rfl, hbf⟩
            rcases h with ⟨h0, _, _⟩ | ⟨_, hX, hY, hlt, hgc⟩
            · rw [← HTW.out] at h0; cases h0
            · have h5 : y = k := num_one HY.out (by rw [HTB.out]; exact hY)
              have h6 : x = t := num_one HX.out (by rw [HTA.out]; exact hX)
              apply HG1.out
              rw [HGD.out, h6, h5]
              simpa using hgc

end Go.Proofs.YtifhiefdhhmdeaaGreatDoor
