/- The reference: days, seconds. -/
import Derived.Test.YtojkkgmfccchbaaRA
import Derived.Test.YtojkkgmfccchbaaE
namespace Go.Proofs.Ytojkkgmfccchbaa
open Go Go.RowKit Go.Sort

theorem cells6 {w w1 : World} {g : Nat} {t : TypeId} {y m d h mi s : Int} (hc : ∀ b o, b < w.heap.size → w1.cell? ⟨b, o, none⟩ = w.cell? ⟨b, o, none⟩) (hb : Blk w g t [.int .i64 y, .int .i64 m, .int .i64 d, .int .i64 h, .int .i64 mi, .int .i64 s]) :
    w1.cell? ⟨g, 0, none⟩ = some (.int .i64 y) ∧ w1.cell? ⟨g, 1, none⟩ = some (.int .i64 m) ∧ w1.cell? ⟨g, 2, none⟩ = some (.int .i64 d) ∧ w1.cell? ⟨g, 3, none⟩ = some (.int .i64 h) ∧ w1.cell? ⟨g, 4, none⟩ = some (.int .i64 mi) ∧ w1.cell? ⟨g, 5, none⟩ = some (.int .i64 s) := by
  have hl := hb.lt
  exact ⟨(hc _ _ hl).trans (hb.cell 0 rfl), (hc _ _ hl).trans (hb.cell 1 rfl), (hc _ _ hl).trans (hb.cell 2 rfl), (hc _ _ hl).trans (hb.cell 3 rfl), (hc _ _ hl).trans (hb.cell 4 rfl), (hc _ _ hl).trans (hb.cell 5 rfl)⟩
theorem dby1970 : dby 1970 = 719528 := by decide
set_option maxHeartbeats 2000000 in
theorem t78 (y m d h mi s : Int) (w : World) (h1 : -100000 ≤ y) (h2 : y ≤ 100000) (v : IsD y m d) :
    Calls Try.prog 78 #[DV y m d h mi s] w fun e w' => e = .returned (.int .i64 (num y m d - 719528)) ∧ Below w.heap.size w w' := by
  obtain ⟨v1, v2, v3, v4⟩ := v
  have b := dby_bd y h1 h2
  have db := dim_cases y m
  have E0 := Lib.hid (cum_one y)
  have E1 := Lib.hid dby1970
  go_enter Try.func78, Try.ntmps78
  go_wp2_with fail
  have hb0 : Below w.heap.size w (w.alloc (.cells #[.int .i64 y, .int .i64 m, .int .i64 d, .int .i64 h, .int .i64 mi, .int .i64 s] 28)) := bSelf w _
  have k1 : Blk (w.alloc (.cells #[.int .i64 y, .int .i64 m, .int .i64 d, .int .i64 h, .int .i64 mi, .int .i64 s] 28)) w.heap.size 28 [.int .i64 y, .int .i64 m, .int .i64 d, .int .i64 h, .int .i64 mi, .int .i64 s] := Blk.new w _ _
  generalize w.alloc (.cells #[.int .i64 y, .int .i64 m, .int .i64 d, .int .i64 h, .int .i64 mi, .int .i64 s] 28) = w1 at *
  have c0 := k1.cell 0 rfl
  have c1 := k1.cell 1 rfl
  have c2 := k1.cell 2 rfl
  go_loop [3, 4] (fun n t => ∃ k : Int, 1970 ≤ k ∧ (k ≤ y ∨ k = 1970) ∧ t = .int .i64 k ∧ n = .int .i64 (dby k - 719528)) (fun _ t => (y - intOf t).toNat)
  case atStart => exact ⟨1970, by omega, .inr rfl, rfl, by rw [E1.out]; rfl⟩
  case round =>
    obtain ⟨k, hk1, hk2, rfl, rfl⟩ := hrel
    have bk := dby_bd2 k (by omega) (by omega)
    have bk1 := dby_bd2 (k + 1) (by omega) (by omega)
    have ds := dby_succ k
    have l0 := lp_01 k
    by_cases hlt : k < y
    · have DS : Hid (dby (k + 1) - 719528 = dby k - 719528 + (365 + lp k)) := by show _ = _; omega
      clear ds
      go_wp2_with (go_at_call 86; refine (t86 _ _).mono ?_; rintro e w' ⟨rfl, rfl⟩)
      go_round
      case rel => exact ⟨k + 1, by omega, by omega, rfl, by rw [DS.out]⟩
      case measure => simp [intOf]; omega
    · clear ds
      go_wp2_with fail
      go_loop [3, 5] (fun n t => ∃ j : Int, y ≤ j ∧ (j ≤ 1970 ∨ j = y) ∧ t = .int .i64 j ∧ n = .int .i64 (dby k - 719528 - (dby j - dby y))) (fun _ t => (1970 - intOf t).toNat)
      case atStart => exact ⟨y, by omega, .inr rfl, rfl, by rw [Int.sub_self, Int.sub_zero]⟩
      case round =>
        obtain ⟨j, hj1, hj2, rfl, rfl⟩ := hrel
        have bj := dby_bd2 j (by omega) (by omega)
        have bj1 := dby_bd2 (j + 1) (by omega) (by omega)
        have ds := dby_succ j
        have l1 := lp_01 j
        by_cases hlj : j < 1970
        · have DS : Hid (dby k - 719528 - (dby (j + 1) - dby y) = dby k - 719528 - (dby j - dby y) - (365 + lp j)) := by show _ = _; omega
          clear ds
          go_wp2_with (go_at_call 86; refine (t86 _ _).mono ?_; rintro e w' ⟨rfl, rfl⟩)
          go_round
          case rel => exact ⟨j + 1, by omega, by omega, rfl, by rw [DS.out]⟩
          case measure => simp [intOf]; omega
        · obtain rfl : k = j := by omega
          have S0 : Hid (dby k - 719528 - (dby k - dby y) = dby y - 719528) := by show _ = _; omega
          clear ds
          go_wp2_with fail
          rw [S0.out]
          have K1 := Lib.hid k1
          clear c0 c1 c2 k1
          go_loopw [3, 6] (fun n t wr => ∃ j : Int, 1 ≤ j ∧ j ≤ m ∧ t = .int .i64 j ∧ n = .int .i64 (dby y - 719528 + cum y j) ∧ Hid (Blk wr w.heap.size 28 [.int .i64 y, .int .i64 m, .int .i64 d, .int .i64 h, .int .i64 mi, .int .i64 s]) ∧ Below w.heap.size w wr) (fun _ t _ => (20 - intOf t).toNat)
          case atStart => exact ⟨1, by omega, by omega, rfl, by rw [E0.out, Int.add_zero], K1.out, hb0⟩
          case round =>
            obtain ⟨j, hj1, hj2, rfl, rfl, HB, hbr⟩ := hrel
            have c0 := HB.out.cell 0 rfl
            have c1 := HB.out.cell 1 rfl
            have c2 := HB.out.cell 2 rfl
            have cb := cum_bd y j
            have dj := dim_cases y j
            have cs := cum_succ y j hj1 (by omega)
            by_cases hlt : j < m
            · have CS : Hid (dby y - 719528 + cum y (j + 1) = dby y - 719528 + cum y j + dim y j) := by show _ = _; omega
              clear cs
              go_wp2_with (go_at_call 44; (with_reducible refine (t44 _ _ _ (by omega) (by omega)).mono ?_); rintro e w2 ⟨rfl, hb2⟩)
              go_roundw
              case rel => exact ⟨j + 1, by omega, by omega, rfl, by rw [CS.out], blkDown HB.out hb2, bThen hbr hb2⟩
              case measure => simp [intOf]; omega
            · obtain rfl : j = m := by omega
              clear cs
              go_wp2
              go_ret
              exact ⟨ret_int (by unfold num; omega), hbr⟩
theorem t78_b {x : Dt} (h : x.ok = true) (W : World) : Calls Try.prog 78 #[x.v] W fun e w' => e = .returned (.int .i64 (x.num - 719528)) ∧ Below W.heap.size W w' := by
  have f := ok_facts h
  exact t78 _ _ _ _ _ _ W (by omega) (by omega) (ok_isD h)
set_option maxHeartbeats 1000000 in
theorem t79 (y m d h mi s : Int) (w : World) (h1 : -100000 ≤ y) (h2 : y ≤ 100000) (v : IsD y m d) (b1 : 0 ≤ h) (b2 : h ≤ 23) (b3 : 0 ≤ mi) (b4 : mi ≤ 59) (b5 : 0 ≤ s) (b6 : s ≤ 59) :
    Calls Try.prog 79 #[DV y m d h mi s] w fun e w' => e = .returned (.int .i64 (sec y m d h mi s)) ∧ Below w.heap.size w w' := by
  have b := dby_bd y h1 h2
  have db := dim_cases y m
  have cb := cum_bd y m
  have hn : -37000000 ≤ num y m d ∧ num y m d ≤ 37000000 := by
    obtain ⟨v1, v2, v3, v4⟩ := v
    unfold num; omega
  have C := Lib.hid (fun w => t78 y m d h mi s w h1 h2 v)
  have E : sec y m d h mi s = (num y m d - 719528) * 86400 + h * 3600 + mi * 60 + s := rfl
  rw [E]
  clear E v
  generalize num y m d = N at *
  have u1 : IntKind.i64.wrap ((N - 719528) * 86400) = (N - 719528) * 86400 := IntWalk.i64_in _ (by omega)
  have u2 : IntKind.i64.wrap (h * 3600) = h * 3600 := IntWalk.i64_in _ (by omega)
  have u3 : IntKind.i64.wrap ((N - 719528) * 86400 + h * 3600) = (N - 719528) * 86400 + h * 3600 := IntWalk.i64_in _ (by omega)
  have u4 : IntKind.i64.wrap (mi * 60) = mi * 60 := IntWalk.i64_in _ (by omega)
  have u5 : IntKind.i64.wrap ((N - 719528) * 86400 + h * 3600 + mi * 60) = (N - 719528) * 86400 + h * 3600 + mi * 60 := IntWalk.i64_in _ (by omega)
  have u6 : IntKind.i64.wrap ((N - 719528) * 86400 + h * 3600 + mi * 60 + s) = (N - 719528) * 86400 + h * 3600 + mi * 60 + s := IntWalk.i64_in _ (by omega)
  go_enter Try.func79, Try.ntmps79
  go_wp2_with fail
  have hb0 : Below w.heap.size w (w.alloc (.cells #[.int .i64 y, .int .i64 m, .int .i64 d, .int .i64 h, .int .i64 mi, .int .i64 s] 28)) := bSelf w _
  have k1 : Blk (w.alloc (.cells #[.int .i64 y, .int .i64 m, .int .i64 d, .int .i64 h, .int .i64 mi, .int .i64 s] 28)) w.heap.size 28 [.int .i64 y, .int .i64 m, .int .i64 d, .int .i64 h, .int .i64 mi, .int .i64 s] := Blk.new w _ _
  generalize w.alloc (.cells #[.int .i64 y, .int .i64 m, .int .i64 d, .int .i64 h, .int .i64 mi, .int .i64 s] 28) = w1 at *
  obtain ⟨p0, p1, p2, p3, p4, p5⟩ := cells6 (w1 := w1) (fun _ _ _ => rfl) k1
  clear k1
  have r0 := cell_regrown p0
  have r1 := cell_regrown p1
  have r2 := cell_regrown p2
  have r3 := cell_regrown p3
  have r4 := cell_regrown p4
  have r5 := cell_regrown p5
  clear p0 p1 p2 p3 p4 p5
  refine wp_region_quiet_below (by kernel_rfl) (by kernel_rfl) ?_
  repeat (quiet_step ((go_at_call 78; (with_reducible exact Calls.regrown_of (C.out _)))))
  refine wpQuiet_nil ?_
  intro _ hw'
  obtain ⟨⟨dq, osq⟩, hw''⟩ := hw'
  subst hw''
  clear r0 r1 r2 r3 r4 r5
  have hbq := below_regrown w1 dq osq
  go_wp2
  go_ret
  exact ⟨rfl, bThen hb0 hbq⟩
end Go.Proofs.Ytojkkgmfccchbaa
