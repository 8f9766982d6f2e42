/- Contracts of daysToYear, yearOf, weekday. -/
import Derived.Test.YtojkkgmfccchbaaA
import Derived.Lib.Hide
namespace Go.Proofs.Ytojkkgmfccchbaa
open Go Go.RowKit

theorem t70 (y : Int) (w : World) (h1 : -1000000 ≤ y) (h2 : y ≤ 1000000) : Calls Try.prog 70 #[.int .i64 y] w fun e w' => e = .returned (.int .i64 (dby y)) ∧ ∃ k, w' = w.drewN k := by
  have b1 : -1000000 ≤ (y + 3) / 4 := by omega
  have b2 : (y + 3) / 4 ≤ 1000000 := by omega
  have b3 : -1000000 ≤ (y + 99) / 100 := by omega
  have b4 : (y + 99) / 100 ≤ 1000000 := by omega
  have b5 : -1000000 ≤ (y + 399) / 400 := by omega
  have b6 : (y + 399) / 400 ≤ 1000000 := by omega
  go_enter Try.func70, Try.ntmps70
  go_wp2_with (go_at_call 71; refine (t71 _ _ _ (by omega) (by omega) (by omega) (by omega)).mono ?_; rintro e w' ⟨rfl, k, rfl⟩)
  go_ret
  exact ⟨rfl, _, rfl⟩
theorem t68 (n : Int) (w : World) (h1 : -100000000 ≤ n) (h2 : n ≤ 100000000) : Calls Try.prog 68 #[.int .i64 n] w fun e w' => e = .returned (.int .i64 ((n + 5) % 7)) ∧ ∃ k, w' = w.drewN k := by
  go_enter Try.func68, Try.ntmps68
  go_wp2_with (go_at_call 71; refine (t71 _ _ _ (by omega) (by omega) (by omega) (by omega)).mono ?_; rintro e w' ⟨rfl, k, rfl⟩)
  go_ret
  exact ⟨rfl, _, rfl⟩
theorem dby_yr (y n : Int) : dby y ≤ n ↔ y ≤ yr n := by
  obtain ⟨s1, s2⟩ := yr_spec n
  constructor
  · intro h
    rcases Int.lt_or_le (yr n) y with h1 | h1
    · have := dby_mono h1; omega
    · exact h1
  · intro h
    have := dby_le h; omega
set_option maxHeartbeats 1000000 in
theorem t72 (n : Int) (w : World) (h1 : -100000000 ≤ n) (h2 : n ≤ 100000000) : Calls Try.prog 72 #[.int .i64 n] w fun e w' => e = .returned (.int .i64 (yr n)) ∧ ∃ k, w' = w.drewN k := by
  have g1 : n * 400 / 146097 - 1 ≤ yr n := (dby_yr _ _).1 (guess_lo n)
  have g2 : yr n < n * 400 / 146097 + 2 := by
    have h3 := guess_hi n
    rcases Int.lt_or_le (yr n) (n * 400 / 146097 + 2) with h4 | h4
    · exact h4
    · have := (dby_yr _ _).2 h4; omega
  have g3 : -500000 ≤ n * 400 / 146097 := by omega
  have g4 : n * 400 / 146097 ≤ 500000 := by omega
  go_enter Try.func72, Try.ntmps72
  go_wp2_with (go_at_call 71; refine (t71 _ _ _ (by omega) (by omega) (by omega) (by omega)).mono ?_; rintro e w' ⟨rfl, k, rfl⟩)
  generalize n * 400 / 146097 = G at *
  go_loopw [3] (fun t wr => ∃ y : Int, t = .int .i64 y ∧ G - 1 ≤ y ∧ y ≤ G ∧ (yr n ≤ y ∨ y = G) ∧ ∃ n, Hid (wr = w.drewN n)) (fun t _ => (intOf t + 1000000).toNat)
  case atStart => exact ⟨G, rfl, by omega, by omega, .inr rfl, _, rfl⟩
  case round =>
    obtain ⟨y, rfl, hy1, hy2, hy3, j, hw⟩ := hrel
    have hd := dby_yr y n
    have c70 := t70 y wr (by omega) (by omega)
    by_cases hc : dby y ≤ n
    · have hyr : y ≤ yr n := hd.1 hc
      clear hd
      go_wp2_with (go_at_call 70; (with_reducible refine c70.mono ?_); rintro e w' ⟨rfl, k, rfl⟩)
      go_loopw [3] (fun t wr => ∃ y : Int, t = .int .i64 y ∧ -600000 ≤ y ∧ y ≤ yr n ∧ ∃ n, Hid (wr = w.drewN n)) (fun t _ => (600000 - intOf t).toNat)
      case atStart => exact ⟨y, rfl, by omega, by omega, _, by rw [hw.out]; exact World.drewN_drewN _ _ _⟩
      case round =>
        obtain ⟨z, rfl, hz1, hz2, i, hw2⟩ := hrel
        have hd := dby_yr (z + 1) n
        have c70 := t70 (z + 1) wr (by omega) (by omega)
        by_cases hz : dby (z + 1) ≤ n
        · have hyr : z + 1 ≤ yr n := hd.1 hz
          clear hd
          go_wp2_with (go_at_call 70; (with_reducible refine c70.mono ?_); rintro e w' ⟨rfl, k, rfl⟩)
          go_roundw
          case rel => exact ⟨z + 1, rfl, by omega, by omega, _, by rw [hw2.out]; exact World.drewN_drewN _ _ _⟩
          case measure => simp [intOf]; omega
        · have hyr : ¬ z + 1 ≤ yr n := fun h => hz (hd.2 h)
          clear hd
          obtain hzy : z = yr n := by omega
          have HZ := Lib.hid hzy
          clear hzy
          go_wp2_with (go_at_call 70; (with_reducible refine c70.mono ?_); rintro e w' ⟨rfl, k, rfl⟩)
          go_ret
          exact ⟨by rw [← HZ.out]; rfl, _, by rw [hw2.out]; exact World.drewN_drewN _ _ _⟩
    · have hyr : ¬ y ≤ yr n := fun h => hc (hd.2 h)
      clear hd
      go_wp2_with (go_at_call 70; (with_reducible refine c70.mono ?_); rintro e w' ⟨rfl, k, rfl⟩)
      go_roundw
      case rel => exact ⟨y - 1, rfl, by omega, by omega, by omega, _, by rw [hw.out]; exact World.drewN_drewN _ _ _⟩
      case measure => simp [intOf]; omega
end Go.Proofs.Ytojkkgmfccchbaa
