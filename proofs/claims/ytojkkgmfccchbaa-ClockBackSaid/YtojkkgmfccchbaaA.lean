/- Contracts of within, over, isYear, isMonth, isLeap, daysIn. -/
import Derived.Test.YtojkkgmfccchbaaMm
import Derived.Test.YtojkkgmfccchbaaProg
import Derived.WalkLawsBesides
import Derived.WalkSpells
import Derived.Outline
import Derived.BigQuiet
import Derived.Deep.QuietTactic
import Derived.IntWalk
namespace Go.Proofs.Ytojkkgmfccchbaa
open Go Go.RowKit

theorem t66 (n a b : Int) (w : World) : Calls Try.prog 66 #[.int .i64 n, .int .i64 a, .int .i64 b] w fun e w' => e = .returned (.bool (inB n a b)) ∧ w = w' := by
  by_cases h1 : a ≤ n
  · by_cases h2 : n ≤ b
    · rw [inB_t h1 h2]
      go_enter Try.func66, Try.ntmps66
      go_wp2
      go_ret
      exact ⟨rfl, rfl⟩
    · rw [inB_f (by omega)]
      go_enter Try.func66, Try.ntmps66
      go_wp2
      go_ret
      exact ⟨rfl, rfl⟩
  · rw [inB_f (by omega)]
    go_enter Try.func66, Try.ntmps66
    go_wp2
    go_ret
    exact ⟨rfl, rfl⟩
/-- ends with a value, having at most drawn -/
def Qt (v : Value) (w : World) (e : Ending) (w' : World) : Prop := e = .returned v ∧ ∃ k, w' = w.drewN k
theorem qt_of {P : Program} {f : FuncId} {args : Array Value} {w : World} {v : Value} (h : Calls P f args w fun e w' => e = .returned v ∧ w = w') : Calls P f args w fun e w' => e = .returned v ∧ ∃ k, w' = w.drewN k :=
  h.mono fun _ _ ⟨he, hw⟩ => ⟨he, 0, hw.symm⟩
theorem tm_facts (n m : Int) (hm : 0 < m) : (n.tmod m < 0 ∧ n.tdiv m - 1 = n / m ∧ n.tmod m + m = n % m) ∨ (¬ n.tmod m < 0 ∧ n.tdiv m = n / m ∧ n.tmod m = n % m) := by
  have e := Int.mul_tdiv_add_tmod n m
  have key : ∀ q r : Int, m * q + r = n → 0 ≤ r → r < m → q = n / m ∧ r = n % m := by
    intro q r h3 h4 h5
    refine ⟨?_, ?_⟩
    · rw [← h3, Int.add_comm, Int.add_mul_ediv_left _ _ (by omega), Int.ediv_eq_zero_of_lt h4 h5]; omega
    · rw [← h3, Int.add_comm, Int.add_mul_emod_self_left, Int.emod_eq_of_lt h4 h5]
  by_cases h : n.tmod m < 0
  · have h6 : -m < n.tmod m := by
      have := Int.lt_tmod_of_pos n hm
      omega
    have := key (n.tdiv m - 1) (n.tmod m + m) (by rw [Int.mul_sub]; omega) (by omega) (by omega)
    exact .inl ⟨h, this⟩
  · have h6 : n.tmod m < m := Int.tmod_lt_of_pos n hm
    exact .inr ⟨h, key _ _ e (by omega) h6⟩
theorem t71 (n m : Int) (w : World) (hm : 0 < m) (hm2 : m ≤ 1000000) (h1 : -1000000000000000 ≤ n) (h2 : n ≤ 1000000000000000) :
    Calls Try.prog 71 #[.int .i64 n, .int .i64 m] w fun e w' => e = .returned (.tuple #[.int .i64 (n / m), .int .i64 (n % m)]) ∧ ∃ k, w' = w.drewN k := by
  rcases tm_facts n m hm with ⟨h, e1, e2⟩ | ⟨h, e1, e2⟩
  · rw [← e1, ← e2]
    have b1 : (n.tdiv m).natAbs ≤ n.natAbs := Int.natAbs_tdiv_le_natAbs _ _
    have b2 : (n.tmod m).natAbs < m.natAbs := by rw [Int.natAbs_tmod]; exact Nat.mod_lt _ (by omega)
    have b3 : -1000000000000000 ≤ n.tdiv m := by omega
    have b4 : n.tdiv m ≤ 1000000000000000 := by omega
    have b5 : -1000000 ≤ n.tmod m := by omega
    have b6 : n.tmod m ≤ 1000000 := by omega
    clear e1 e2 b1 b2
    go_enter Try.func71, Try.ntmps71
    go_wp2
    go_region
    go_wp2
    go_ret2
    exact ⟨rfl, 1, rfl⟩
  · rw [← e1, ← e2]
    clear e1 e2
    go_enter Try.func71, Try.ntmps71
    go_wp2
    go_region
    go_wp2
    go_ret2
    exact ⟨rfl, 1, rfl⟩
theorem t39 (y : Int) (w : World) : Calls Try.prog 39 #[.int .i64 y] w fun e w' => e = .returned (.bool (inB y (-2000) 6000)) ∧ w = w' := by
  go_enter Try.func39, Try.ntmps39
  go_wp2_with (go_at_call 66; refine (t66 _ _ _ _).mono ?_; rintro e w' ⟨rfl, rfl⟩)
  go_ret
  exact ⟨rfl, rfl⟩
theorem t42 (y m : Int) (w : World) : Calls Try.prog 42 #[.int .i64 y, .int .i64 m] w fun e w' => e = .returned (.bool (inB y (-2000) 6000 && inB m 1 12)) ∧ w = w' := by
  cases h : inB y (-2000) 6000
  all_goals
    have c39 := t39 y w
    rw [h] at c39
    clear h
    go_enter Try.func42, Try.ntmps42
    go_wp2_with (first | (go_at_call 39; refine c39.mono ?_; rintro e w' ⟨rfl, rfl⟩) | (go_at_call 66; refine (t66 _ _ _ _).mono ?_; rintro e w' ⟨rfl, rfl⟩))
    go_ret
    exact ⟨rfl, rfl⟩
theorem tm_eq (y m : Int) (_ : 0 < m) : (y.tmod m == 0) = decide (y % m = 0) := by
  have h : y.tmod m = 0 ↔ y % m = 0 := by rw [← Int.dvd_iff_tmod_eq_zero, ← Int.dvd_iff_emod_eq_zero]
  by_cases h1 : y % m = 0
  · rw [h.2 h1, h1]; rfl
  · rw [decide_eq_false h1]; simpa using fun h2 => h1 (h.1 h2)
theorem tm_ne (y m : Int) (h0 : 0 < m) : (y.tmod m != 0) = !decide (y % m = 0) := by rw [bne, tm_eq y m h0]
theorem t40 (y : Int) (w : World) : Calls Try.prog 40 #[.int .i64 y] w fun e w' => e = .returned (.bool (lpB y)) ∧ w = w' := by
  have a1 := tm_eq y 4 (by decide)
  have a2 := tm_ne y 100 (by decide)
  have a3 := tm_eq y 400 (by decide)
  have e : lpB y = (decide (y % 4 = 0) && (!decide (y % 100 = 0) || decide (y % 400 = 0))) := rfl
  rw [e]
  clear e
  cases h1 : decide (y % 4 = 0) <;> cases h2 : decide (y % 100 = 0) <;> cases h3 : decide (y % 400 = 0)
  all_goals
    rw [h1] at a1
    rw [h2] at a2
    rw [h3] at a3
    clear h1 h2 h3
    go_enter Try.func40, Try.ntmps40
    go_wp2
    go_ret
    exact ⟨rfl, rfl⟩
theorem t43 (y m : Int) (w : World) : Calls Try.prog 43 #[.int .i64 y, .int .i64 m] w fun e w' => e = .returned (.int .i64 (dim y m)) ∧ w = w' := by
  by_cases h2 : m = 2
  · subst h2
    have hl : dim y 2 = 28 + lp y := by simp [dim]
    rw [hl]
    have c40 := t40 y w
    unfold lp
    cases h : lpB y
    all_goals
      rw [h] at c40
      clear h hl
      go_enter Try.func43, Try.ntmps43
      go_wp2_with (go_at_call 40; refine c40.mono ?_; rintro e w' ⟨rfl, rfl⟩)
      go_ret
      exact ⟨rfl, rfl⟩
  · have b2 : (m == 2) = false := by simpa using h2
    by_cases h4 : m = 4
    · subst h4
      go_enter Try.func43, Try.ntmps43
      go_wp2
      go_ret
      exact ⟨by simp [dim], rfl⟩
    · by_cases h6 : m = 6
      · subst h6
        go_enter Try.func43, Try.ntmps43
        go_wp2
        go_ret
        exact ⟨by simp [dim], rfl⟩
      · by_cases h9 : m = 9
        · subst h9
          go_enter Try.func43, Try.ntmps43
          go_wp2
          go_ret
          exact ⟨by simp [dim], rfl⟩
        · by_cases h11 : m = 11
          · subst h11
            go_enter Try.func43, Try.ntmps43
            go_wp2
            go_ret
            exact ⟨by simp [dim], rfl⟩
          · have hd : dim y m = 31 := by unfold dim; rw [if_neg h2, if_neg (by omega)]
            rw [hd]
            have b4 : (m == 4) = false := by simpa using h4
            have b6 : (m == 6) = false := by simpa using h6
            have b9 : (m == 9) = false := by simpa using h9
            have b11 : (m == 11) = false := by simpa using h11
            clear hd h2 h4 h6 h9 h11
            go_enter Try.func43, Try.ntmps43
            go_wp2
            go_ret
            exact ⟨rfl, rfl⟩
end Go.Proofs.Ytojkkgmfccchbaa
