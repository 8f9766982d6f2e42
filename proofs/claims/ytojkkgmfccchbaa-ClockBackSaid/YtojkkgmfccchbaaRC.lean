/- The reference: dated, of. -/
import Derived.Test.YtojkkgmfccchbaaRB
namespace Go.Proofs.Ytojkkgmfccchbaa
open Go Go.RowKit Go.Sort

abbrev c6 (y m d h mi s : Int) : List Value := [.int .i64 y, .int .i64 m, .int .i64 d, .int .i64 h, .int .i64 mi, .int .i64 s]
theorem dby_bd3 (y : Int) (h1 : -300001 ≤ y) (h2 : y ≤ 300001) : -200000000 ≤ dby y ∧ dby y ≤ 200000000 := by unfold dby; omega
set_option maxHeartbeats 4000000 in
theorem t73 (n : Int) (w : World) (h1 : -30000000 ≤ n) (h2 : n ≤ 30000000) :
    Calls Try.prog 73 #[.int .i64 n] w fun e w' => e = .returned (DV (yr (n + 719528)) (moN (n + 719528)) (dyN (n + 719528)) 0 0 0) ∧ Below w.heap.size w w' := by
  obtain ⟨T, hT⟩ : ∃ T, T = n + 719528 := ⟨_, rfl⟩
  rw [← hT]
  have y1 := yr_bd T (by omega) (by omega)
  obtain ⟨m1, m2, m3, m4⟩ := moN_spec T
  have HD : Hid (dyN T = T - dby (yr T) - cum (yr T) (moN T) + 1) := rfl
  have E1 := Lib.hid dby1970
  have N0 : Hid (n = T - dby 1970) := by show _ = _; rw [dby1970]; omega
  have s2 := (yr_spec T).1
  have T1 : -29280472 ≤ T := by omega
  have T2 : T ≤ 30719528 := by omega
  clear hT
  go_enter Try.func73, Try.ntmps73
  go_wp2_with fail
  go_loopw [0] (fun t wr => ∃ k : Int, k ≤ 1970 ∧ (k = 1970 ∨ yr T ≤ k) ∧ t = .int .i64 (T - dby k) ∧ Hid (Blk wr (w.heap.size + 1) 28 (c6 k 1 0 0 0 0)) ∧ Hid (Blk wr w.heap.size 28 (c6 0 0 0 0 0 0)) ∧ Below w.heap.size w wr) (fun t _ => (- intOf t).toNat)
  case atStart =>
    refine ⟨1970, by omega, .inl rfl, by rw [← N0.out], ?_, ?_, ?_⟩
    · exact newAt _ _ _ _ _ (by simp) rfl
    · exact (Blk.new w _ _).alloc _
    · exact (bSelf w _).alloc (by simp) _
  case round =>
    obtain ⟨k, hk1, hk2, rfl, HB, HZ, hb⟩ := hrel
    have dk := dby_yr k T
    have ds := dby_succ (k - 1)
    rw [show k - 1 + 1 = k by omega] at ds
    have l0 := lp_01 (k - 1)
    have b1 := dby_bd2 k (by omega) (by omega)
    have b2 := dby_bd2 (k - 1) (by omega) (by omega)
    have c0 := HB.out.cell 0 rfl
    have f0 := HB.out.free 0
    by_cases hc : T - dby k < 0
    · have q : ¬ k ≤ yr T := fun h => by have := dk.2 h; omega
      have DS : Hid (T - dby (k - 1) = T - dby k + (365 + lp (k - 1))) := by show _ = _; omega
      clear ds dk
      go_wp2_with (go_at_call 86; refine (t86 _ _).mono ?_; rintro e w' ⟨rfl, rfl⟩)
      go_roundw
      case rel => exact ⟨k - 1, by omega, by omega, by rw [DS.out], HB.out.set 0 _, HZ.out.setOther _ _ (by simp), bSet hb _ _ (by omega) _⟩
      case measure => simp [intOf]; omega
    · have q : k ≤ yr T := dk.1 (by omega)
      clear ds dk
      go_wp2_with fail
      go_loopw [0] (fun t wr => ∃ k : Int, -300000 ≤ k ∧ k ≤ yr T ∧ t = .int .i64 (T - dby k) ∧ Hid (Blk wr (w.heap.size + 1) 28 (c6 k 1 0 0 0 0)) ∧ Hid (Blk wr w.heap.size 28 (c6 0 0 0 0 0 0)) ∧ Below w.heap.size w wr) (fun t _ => (intOf t).toNat)
      case atStart => exact ⟨k, by omega, q, rfl, HB, HZ, hb⟩
      case round =>
        obtain ⟨k, hk1, hk2, rfl, HB, HZ, hb⟩ := hrel
        have dk := dby_yr (k + 1) T
        have dk0 := (dby_yr k T).2 hk2
        have ds := dby_succ k
        have l0 := lp_01 k
        have b1 := dby_bd3 k (by omega) (by omega)
        have b2 := dby_bd3 (k + 1) (by omega) (by omega)
        have c0 := HB.out.cell 0 rfl
        have f0 := HB.out.free 0
        by_cases hc : k = yr T
        · subst hc
          have ex := cum_one (yr T)
          have q : ¬ (365 + lp (yr T) ≤ T - dby (yr T)) := fun h => by
            have := dk.1 (by omega)
            omega
          have EX := Lib.hid ex
          clear ds dk ex
          go_wp2_with (go_at_call 86; refine (t86 _ _).mono ?_; rintro e w' ⟨rfl, rfl⟩)
          go_loopw [0] (fun t wr => ∃ m : Int, 1 ≤ m ∧ m ≤ moN T ∧ t = .int .i64 (T - dby (yr T) - cum (yr T) m) ∧ Hid (Blk wr (w.heap.size + 1) 28 (c6 (yr T) m 0 0 0 0)) ∧ Hid (Blk wr w.heap.size 28 (c6 0 0 0 0 0 0)) ∧ Below w.heap.size w wr) (fun t _ => (intOf t).toNat)
          case atStart => exact ⟨1, by omega, by omega, by rw [EX.out, Int.sub_zero], HB, HZ, hb⟩
          case round =>
            obtain ⟨m, hm1, hm2, rfl, HB, HZ, hb⟩ := hrel
            have cs := cum_succ (yr T) m hm1 (by omega)
            have dm := dim_cases (yr T) m
            have cb := cum_bd (yr T) m
            have cb2 := cum_bd (yr T) (m + 1)
            have hl := HB.out.lt
            have hl0 := HZ.out.lt
            have c0 := HB.out.cell 0 rfl
            have c1 := HB.out.cell 1 rfl
            by_cases hc : m = moN T
            · subst hc
              have q1 : ¬ (dim (yr T) (moN T) ≤ T - dby (yr T) - cum (yr T) (moN T)) := by omega
              clear cs
              go_wp2_with fail
              refine (t44 _ _ _ (by omega) (by omega)).mono ?_
              rintro e w1 ⟨rfl, hb1⟩
              have HB1 := Lib.hid (blkDown HB.out hb1)
              have HZ1 := Lib.hid (blkDown HZ.out hb1)
              have hbb := bThen hb hb1
              have e0 := HB1.out.cell 0 rfl
              have e1 := HB1.out.cell 1 rfl
              have e2 := HB1.out.cell 2 rfl
              have e3 := HB1.out.cell 3 rfl
              have e4 := HB1.out.cell 4 rfl
              have e5 := HB1.out.cell 5 rfl
              have f2 := HB1.out.free 2
              have z0 := HZ1.out.cell 0 rfl
              have z1 := HZ1.out.cell 1 rfl
              have z2 := HZ1.out.cell 2 rfl
              have z3 := HZ1.out.cell 3 rfl
              have z4 := HZ1.out.cell 4 rfl
              have z5 := HZ1.out.cell 5 rfl
              have g0 := HZ1.out.free 0
              have g1 := HZ1.out.free 1
              have g2 := HZ1.out.free 2
              have g3 := HZ1.out.free 3
              have g4 := HZ1.out.free 4
              have g5 := HZ1.out.free 5
              clear hb1
              go_wp2
              refine bodyPost_ret (v := DV (yr T) (moN T) (dyN T) 0 0 0) (by rw [HD.out]; simp [results, Try.results73, go_sem, z0, z1, z2, z3, z4, z5]) rfl ⟨rfl, ?_⟩
              repeat' (refine bSet ?_ _ _ (by omega) _)
              exact hbb
            · have cm := cum_mono (yr T) hm1 (k := moN T) (by omega) (by omega)
              have q1 : dim (yr T) m ≤ T - dby (yr T) - cum (yr T) m := by omega
              have CS : Hid (T - dby (yr T) - cum (yr T) (m + 1) = T - dby (yr T) - cum (yr T) m - dim (yr T) m) := by show _ = _; omega
              clear cs cm
              go_wp2_with fail
              refine (t44 _ _ _ (by omega) (by omega)).mono ?_
              rintro e w1 ⟨rfl, hb1⟩
              have HB1 := Lib.hid (blkDown HB.out hb1)
              have HZ1 := Lib.hid (blkDown HZ.out hb1)
              have hbb := bThen hb hb1
              have e0 := HB1.out.cell 0 rfl
              have e1 := HB1.out.cell 1 rfl
              clear hb1 HB HZ hb c0 c1 hl hl0
              have hl := HB1.out.lt
              go_wp2_with fail
              refine (t44 _ _ _ (by omega) (by omega)).mono ?_
              rintro e w2 ⟨rfl, hb2⟩
              have HB2 := Lib.hid (blkDown HB1.out hb2)
              have HZ2 := Lib.hid (blkDown HZ1.out hb2)
              have hbb2 := bThen hbb hb2
              have i1 := HB2.out.cell 1 rfl
              have f1 := HB2.out.free 1
              clear hb2 HB1 HZ1 hbb e0 e1
              go_wp2_with fail
              go_roundw
              case rel => exact ⟨m + 1, by omega, by omega, by rw [CS.out], HB2.out.set 1 _, HZ2.out.setOther _ _ (by simp), bSet hbb2 _ _ (by omega) _⟩
              case measure => simp [intOf]; omega
        · have q : k + 1 ≤ yr T := by omega
          have dk1 := dk.2 q
          have DS : Hid (T - dby (k + 1) = T - dby k - (365 + lp k)) := by show _ = _; omega
          have q1 : 365 + lp k ≤ T - dby k := by omega
          clear ds dk
          go_wp2_with (go_at_call 86; refine (t86 _ _).mono ?_; rintro e w' ⟨rfl, rfl⟩)
          go_roundw
          case rel => exact ⟨k + 1, by omega, by omega, by rw [DS.out], HB.out.set 0 _, HZ.out.setOther _ _ (by simp), bSet hb _ _ (by omega) _⟩
          case measure => simp [intOf]; omega
end Go.Proofs.Ytojkkgmfccchbaa
