/- The reference: in, leap, yearly, long, floor. -/
import Derived.Test.YtojkkgmfccchbaaD
import Derived.Lib.QuietBelow
namespace Go.Proofs.Ytojkkgmfccchbaa
open Go Go.RowKit Go.Sort

theorem t35 (n a b : Int) (w : World) : Calls Try.prog 35 #[.int .i64 n, .int .i64 a, .int .i64 b] w fun e w' => e = .returned (.bool (inB n a b)) ∧ w = w' := by
  by_cases h1 : a ≤ n
  · by_cases h2 : n ≤ b
    · rw [inB_t h1 h2]
      go_enter Try.func35, Try.ntmps35
      go_wp2
      go_ret
      exact ⟨rfl, rfl⟩
    · rw [inB_f (by omega)]
      go_enter Try.func35, Try.ntmps35
      go_wp2
      go_ret
      exact ⟨rfl, rfl⟩
  · rw [inB_f (by omega)]
    go_enter Try.func35, Try.ntmps35
    go_wp2
    go_ret
    exact ⟨rfl, rfl⟩
theorem t35_b {n a b : Int} {c : Bool} (h : inB n a b = c) (W : World) : Calls Try.prog 35 #[.int .i64 n, .int .i64 a, .int .i64 b] W fun e w' => e = .returned (.bool c) ∧ W = w' := by
  subst h; exact t35 _ _ _ _
theorem t41 (y : Int) (w : World) : Calls Try.prog 41 #[.int .i64 y] w fun e w' => e = .returned (.bool (lpB y)) ∧ w = w' := by
  have a1 := tm_eq y 4 (by decide)
  have a2 := tm_ne y 100 (by decide)
  have a3 := tm_eq y 400 (by decide)
  have e : lpB y = (decide (y % 4 = 0) && (!decide (y % 100 = 0) || decide (y % 400 = 0))) := rfl
  rw [e]
  clear e
  cases h1 : decide (y % 4 = 0) <;> cases h2 : decide (y % 100 = 0) <;> cases h3 : decide (y % 400 = 0)
  all_goals
    rw [h1] at a1
    rw [h2] at a2
    rw [h3] at a3
    clear h1 h2 h3
    go_enter Try.func41, Try.ntmps41
    go_wp2
    go_ret
    exact ⟨rfl, rfl⟩
theorem t86 (y : Int) (w : World) : Calls Try.prog 86 #[.int .i64 y] w fun e w' => e = .returned (.int .i64 (365 + lp y)) ∧ w = w' := by
  have c41 := t41 y w
  unfold lp
  cases h : lpB y
  all_goals
    rw [h] at c41
    clear h
    go_enter Try.func86, Try.ntmps86
    go_wp2_with (go_at_call 41; refine c41.mono ?_; rintro e w' ⟨rfl, rfl⟩)
    go_ret
    exact ⟨rfl, rfl⟩
theorem t74 (n m : Int) (w : World) (hm : 0 < m) (hm2 : m ≤ 1000000) (h1 : -1000000000000000 ≤ n) (h2 : n ≤ 1000000000000000) :
    Calls Try.prog 74 #[.int .i64 n, .int .i64 m] w fun e w' => e = .returned (.int .i64 (n / m)) ∧ w = w' := by
  rcases tm_facts n m hm with ⟨h, e1, e2⟩ | ⟨h, e1, e2⟩
  · rw [← e1]
    have b1 : (n.tdiv m).natAbs ≤ n.natAbs := Int.natAbs_tdiv_le_natAbs _ _
    have b3 : -1000000000000000 ≤ n.tdiv m := by omega
    have b4 : n.tdiv m ≤ 1000000000000000 := by omega
    clear e1 e2 b1
    go_enter Try.func74, Try.ntmps74
    go_wp2
    go_ret
    exact ⟨rfl, rfl⟩
  · rw [← e1]
    clear e1 e2
    go_enter Try.func74, Try.ntmps74
    go_wp2
    go_ret
    exact ⟨rfl, rfl⟩
set_option maxHeartbeats 4000000 in
theorem t44 (y m : Int) (w : World) (h1 : 1 ≤ m) (h2 : m ≤ 12) : Calls Try.prog 44 #[.int .i64 y, .int .i64 m] w fun e w' => e = .returned (.int .i64 (dim y m)) ∧ Below w.heap.size w w' := by
  have c41 := t41 y w
  have hm : m = 2 ∨ m = 1 ∨ m = 3 ∨ m = 4 ∨ m = 5 ∨ m = 6 ∨ m = 7 ∨ m = 8 ∨ m = 9 ∨ m = 10 ∨ m = 11 ∨ m = 12 := by omega
  rcases hm with rfl | hm
  · have hl : dim y 2 = 28 + lp y := by simp [dim]
    rw [hl]
    unfold lp
    cases h : lpB y
    · rw [h] at c41
      clear h hl
      go_enter Try.func44, Try.ntmps44
      go_wp2_with (go_at_call 41; refine c41.mono ?_; rintro e w' ⟨rfl, rfl⟩)
      go_ret
      exact ⟨rfl, bSelf _ _⟩
    · rw [h] at c41
      clear h hl
      go_enter Try.func44, Try.ntmps44
      go_wp2_with (go_at_call 41; refine c41.mono ?_; rintro e w' ⟨rfl, rfl⟩)
      go_ret
      exact ⟨rfl, Below.refl _ _⟩
  · rcases hm with rfl | rfl | rfl | rfl | rfl | rfl | rfl | rfl | rfl | rfl | rfl
    · rw [show dim y 1 = 31 by simp [dim]]
      clear c41 h1 h2
      go_enter Try.func44, Try.ntmps44
      go_wp2
      go_ret
      exact ⟨rfl, bSelf _ _⟩
    · rw [show dim y 3 = 31 by simp [dim]]
      clear c41 h1 h2
      go_enter Try.func44, Try.ntmps44
      go_wp2
      go_ret
      exact ⟨rfl, bSelf _ _⟩
    · rw [show dim y 4 = 30 by simp [dim]]
      clear c41 h1 h2
      go_enter Try.func44, Try.ntmps44
      go_wp2
      go_ret
      exact ⟨rfl, bSelf _ _⟩
    · rw [show dim y 5 = 31 by simp [dim]]
      clear c41 h1 h2
      go_enter Try.func44, Try.ntmps44
      go_wp2
      go_ret
      exact ⟨rfl, bSelf _ _⟩
    · rw [show dim y 6 = 30 by simp [dim]]
      clear c41 h1 h2
      go_enter Try.func44, Try.ntmps44
      go_wp2
      go_ret
      exact ⟨rfl, bSelf _ _⟩
    · rw [show dim y 7 = 31 by simp [dim]]
      clear c41 h1 h2
      go_enter Try.func44, Try.ntmps44
      go_wp2
      go_ret
      exact ⟨rfl, bSelf _ _⟩
    · rw [show dim y 8 = 31 by simp [dim]]
      clear c41 h1 h2
      go_enter Try.func44, Try.ntmps44
      go_wp2
      go_ret
      exact ⟨rfl, bSelf _ _⟩
    · rw [show dim y 9 = 30 by simp [dim]]
      clear c41 h1 h2
      go_enter Try.func44, Try.ntmps44
      go_wp2
      go_ret
      exact ⟨rfl, bSelf _ _⟩
    · rw [show dim y 10 = 31 by simp [dim]]
      clear c41 h1 h2
      go_enter Try.func44, Try.ntmps44
      go_wp2
      go_ret
      exact ⟨rfl, bSelf _ _⟩
    · rw [show dim y 11 = 30 by simp [dim]]
      clear c41 h1 h2
      go_enter Try.func44, Try.ntmps44
      go_wp2
      go_ret
      exact ⟨rfl, bSelf _ _⟩
    · rw [show dim y 12 = 31 by simp [dim]]
      clear c41 h1 h2
      go_enter Try.func44, Try.ntmps44
      go_wp2
      go_ret
      exact ⟨rfl, bSelf _ _⟩
end Go.Proofs.Ytojkkgmfccchbaa
