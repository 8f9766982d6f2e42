/- Contract of the reference's fits. -/
import Derived.Test.YtmbnckmhngijdaaGreatDoorRF
namespace Go.Proofs.YtmbnckmhngijdaaGreatDoor
open Go Go.RowKit

theorem fitsC_U (n : Int) : fitsC 85 n = hasU n := rfl
set_option maxRecDepth 100000 in
set_option maxHeartbeats 1000000 in
theorem t39_67 (n : Int) (w : World) (_hn : InInt n) : Calls Tryz.prog 39 #[.int .u8 67, .int .i64 n] w fun e w' => e = .returned (.bool (fitsC 67 n)) ∧ w = w' := by
  have C34 : ∀ W, Calls Tryz.prog 34 #[.int .u8 67] W fun e w' => e = .returned (.int .i64 1) ∧ W = w' := fun W => t34 67 W
  have C40 : ∀ W, Calls Tryz.prog 40 #[.int .u8 67] W fun e w' => e = .returned (.bool false) ∧ W = w' := fun W => t40 67 W
  by_cases h0 : 0 ≤ n
  · by_cases h1 : n < 256
    · have HE : Hid (fitsC 67 n = true) := decide_eq_true (p := 0 ≤ n ∧ n < ((2 ^ 8 : Nat) : Int)) (by omega)
      go_enter Tryz.func39, Tryz.ntmps39
      go_wp2_with (first | (go_at_call 34; refine (C34 _).mono ?_; rintro e w1 ⟨rfl, rfl⟩) | (go_at_call 40; refine (C40 _).mono ?_; rintro e w1 ⟨rfl, rfl⟩))
      go_ret
      exact ⟨by rw [HE.out]; rfl, rfl⟩
    · have h1' : decide (n < 256) = false := decide_eq_false h1
      have HE : Hid (fitsC 67 n = false) := decide_eq_false (p := 0 ≤ n ∧ n < ((2 ^ 8 : Nat) : Int)) (by omega)
      clear h1
      go_enter Tryz.func39, Tryz.ntmps39
      go_wp2_with (first | (go_at_call 34; refine (C34 _).mono ?_; rintro e w1 ⟨rfl, rfl⟩) | (go_at_call 40; refine (C40 _).mono ?_; rintro e w1 ⟨rfl, rfl⟩))
      go_ret
      exact ⟨by rw [HE.out]; rfl, rfl⟩
  · have h0' : decide (0 ≤ n) = false := decide_eq_false h0
    have HE : Hid (fitsC 67 n = false) := decide_eq_false (p := 0 ≤ n ∧ n < ((2 ^ 8 : Nat) : Int)) (by omega)
    clear h0
    go_enter Tryz.func39, Tryz.ntmps39
    go_wp2_with (first | (go_at_call 34; refine (C34 _).mono ?_; rintro e w1 ⟨rfl, rfl⟩) | (go_at_call 40; refine (C40 _).mono ?_; rintro e w1 ⟨rfl, rfl⟩))
    go_ret
    exact ⟨by rw [HE.out]; rfl, rfl⟩
set_option maxRecDepth 100000 in
set_option maxHeartbeats 1000000 in
theorem t39_83 (n : Int) (w : World) (_hn : InInt n) : Calls Tryz.prog 39 #[.int .u8 83, .int .i64 n] w fun e w' => e = .returned (.bool (fitsC 83 n)) ∧ w = w' := by
  have C34 : ∀ W, Calls Tryz.prog 34 #[.int .u8 83] W fun e w' => e = .returned (.int .i64 2) ∧ W = w' := fun W => t34 83 W
  have C40 : ∀ W, Calls Tryz.prog 40 #[.int .u8 83] W fun e w' => e = .returned (.bool false) ∧ W = w' := fun W => t40 83 W
  by_cases h0 : 0 ≤ n
  · by_cases h1 : n < 65536
    · have HE : Hid (fitsC 83 n = true) := decide_eq_true (p := 0 ≤ n ∧ n < ((2 ^ 16 : Nat) : Int)) (by omega)
      go_enter Tryz.func39, Tryz.ntmps39
      go_wp2_with (first | (go_at_call 34; refine (C34 _).mono ?_; rintro e w1 ⟨rfl, rfl⟩) | (go_at_call 40; refine (C40 _).mono ?_; rintro e w1 ⟨rfl, rfl⟩))
      go_ret
      exact ⟨by rw [HE.out]; rfl, rfl⟩
    · have h1' : decide (n < 65536) = false := decide_eq_false h1
      have HE : Hid (fitsC 83 n = false) := decide_eq_false (p := 0 ≤ n ∧ n < ((2 ^ 16 : Nat) : Int)) (by omega)
      clear h1
      go_enter Tryz.func39, Tryz.ntmps39
      go_wp2_with (first | (go_at_call 34; refine (C34 _).mono ?_; rintro e w1 ⟨rfl, rfl⟩) | (go_at_call 40; refine (C40 _).mono ?_; rintro e w1 ⟨rfl, rfl⟩))
      go_ret
      exact ⟨by rw [HE.out]; rfl, rfl⟩
  · have h0' : decide (0 ≤ n) = false := decide_eq_false h0
    have HE : Hid (fitsC 83 n = false) := decide_eq_false (p := 0 ≤ n ∧ n < ((2 ^ 16 : Nat) : Int)) (by omega)
    clear h0
    go_enter Tryz.func39, Tryz.ntmps39
    go_wp2_with (first | (go_at_call 34; refine (C34 _).mono ?_; rintro e w1 ⟨rfl, rfl⟩) | (go_at_call 40; refine (C40 _).mono ?_; rintro e w1 ⟨rfl, rfl⟩))
    go_ret
    exact ⟨by rw [HE.out]; rfl, rfl⟩
set_option maxRecDepth 100000 in
set_option maxHeartbeats 1000000 in
theorem t39_110 (n : Int) (w : World) (_hn : InInt n) : Calls Tryz.prog 39 #[.int .u8 110, .int .i64 n] w fun e w' => e = .returned (.bool (fitsC 110 n)) ∧ w = w' := by
  have C34 : ∀ W, Calls Tryz.prog 34 #[.int .u8 110] W fun e w' => e = .returned (.int .i64 2) ∧ W = w' := fun W => t34 110 W
  have C40 : ∀ W, Calls Tryz.prog 40 #[.int .u8 110] W fun e w' => e = .returned (.bool false) ∧ W = w' := fun W => t40 110 W
  by_cases h0 : 0 ≤ n
  · by_cases h1 : n < 65536
    · have HE : Hid (fitsC 110 n = true) := decide_eq_true (p := 0 ≤ n ∧ n < ((2 ^ 16 : Nat) : Int)) (by omega)
      go_enter Tryz.func39, Tryz.ntmps39
      go_wp2_with (first | (go_at_call 34; refine (C34 _).mono ?_; rintro e w1 ⟨rfl, rfl⟩) | (go_at_call 40; refine (C40 _).mono ?_; rintro e w1 ⟨rfl, rfl⟩))
      go_ret
      exact ⟨by rw [HE.out]; rfl, rfl⟩
    · have h1' : decide (n < 65536) = false := decide_eq_false h1
      have HE : Hid (fitsC 110 n = false) := decide_eq_false (p := 0 ≤ n ∧ n < ((2 ^ 16 : Nat) : Int)) (by omega)
      clear h1
      go_enter Tryz.func39, Tryz.ntmps39
      go_wp2_with (first | (go_at_call 34; refine (C34 _).mono ?_; rintro e w1 ⟨rfl, rfl⟩) | (go_at_call 40; refine (C40 _).mono ?_; rintro e w1 ⟨rfl, rfl⟩))
      go_ret
      exact ⟨by rw [HE.out]; rfl, rfl⟩
  · have h0' : decide (0 ≤ n) = false := decide_eq_false h0
    have HE : Hid (fitsC 110 n = false) := decide_eq_false (p := 0 ≤ n ∧ n < ((2 ^ 16 : Nat) : Int)) (by omega)
    clear h0
    go_enter Tryz.func39, Tryz.ntmps39
    go_wp2_with (first | (go_at_call 34; refine (C34 _).mono ?_; rintro e w1 ⟨rfl, rfl⟩) | (go_at_call 40; refine (C40 _).mono ?_; rintro e w1 ⟨rfl, rfl⟩))
    go_ret
    exact ⟨by rw [HE.out]; rfl, rfl⟩
set_option maxRecDepth 100000 in
set_option maxHeartbeats 1000000 in
theorem t39_76 (n : Int) (w : World) (_hn : InInt n) : Calls Tryz.prog 39 #[.int .u8 76, .int .i64 n] w fun e w' => e = .returned (.bool (fitsC 76 n)) ∧ w = w' := by
  have C34 : ∀ W, Calls Tryz.prog 34 #[.int .u8 76] W fun e w' => e = .returned (.int .i64 4) ∧ W = w' := fun W => t34 76 W
  have C40 : ∀ W, Calls Tryz.prog 40 #[.int .u8 76] W fun e w' => e = .returned (.bool false) ∧ W = w' := fun W => t40 76 W
  by_cases h0 : 0 ≤ n
  · by_cases h1 : n < 4294967296
    · have HE : Hid (fitsC 76 n = true) := decide_eq_true (p := 0 ≤ n ∧ n < ((2 ^ 32 : Nat) : Int)) (by omega)
      go_enter Tryz.func39, Tryz.ntmps39
      go_wp2_with (first | (go_at_call 34; refine (C34 _).mono ?_; rintro e w1 ⟨rfl, rfl⟩) | (go_at_call 40; refine (C40 _).mono ?_; rintro e w1 ⟨rfl, rfl⟩))
      go_ret
      exact ⟨by rw [HE.out]; rfl, rfl⟩
    · have h1' : decide (n < 4294967296) = false := decide_eq_false h1
      have HE : Hid (fitsC 76 n = false) := decide_eq_false (p := 0 ≤ n ∧ n < ((2 ^ 32 : Nat) : Int)) (by omega)
      clear h1
      go_enter Tryz.func39, Tryz.ntmps39
      go_wp2_with (first | (go_at_call 34; refine (C34 _).mono ?_; rintro e w1 ⟨rfl, rfl⟩) | (go_at_call 40; refine (C40 _).mono ?_; rintro e w1 ⟨rfl, rfl⟩))
      go_ret
      exact ⟨by rw [HE.out]; rfl, rfl⟩
  · have h0' : decide (0 ≤ n) = false := decide_eq_false h0
    have HE : Hid (fitsC 76 n = false) := decide_eq_false (p := 0 ≤ n ∧ n < ((2 ^ 32 : Nat) : Int)) (by omega)
    clear h0
    go_enter Tryz.func39, Tryz.ntmps39
    go_wp2_with (first | (go_at_call 34; refine (C34 _).mono ?_; rintro e w1 ⟨rfl, rfl⟩) | (go_at_call 40; refine (C40 _).mono ?_; rintro e w1 ⟨rfl, rfl⟩))
    go_ret
    exact ⟨by rw [HE.out]; rfl, rfl⟩
set_option maxRecDepth 100000 in
set_option maxHeartbeats 1000000 in
theorem t39_78 (n : Int) (w : World) (_hn : InInt n) : Calls Tryz.prog 39 #[.int .u8 78, .int .i64 n] w fun e w' => e = .returned (.bool (fitsC 78 n)) ∧ w = w' := by
  have C34 : ∀ W, Calls Tryz.prog 34 #[.int .u8 78] W fun e w' => e = .returned (.int .i64 4) ∧ W = w' := fun W => t34 78 W
  have C40 : ∀ W, Calls Tryz.prog 40 #[.int .u8 78] W fun e w' => e = .returned (.bool false) ∧ W = w' := fun W => t40 78 W
  by_cases h0 : 0 ≤ n
  · by_cases h1 : n < 4294967296
    · have HE : Hid (fitsC 78 n = true) := decide_eq_true (p := 0 ≤ n ∧ n < ((2 ^ 32 : Nat) : Int)) (by omega)
      go_enter Tryz.func39, Tryz.ntmps39
      go_wp2_with (first | (go_at_call 34; refine (C34 _).mono ?_; rintro e w1 ⟨rfl, rfl⟩) | (go_at_call 40; refine (C40 _).mono ?_; rintro e w1 ⟨rfl, rfl⟩))
      go_ret
      exact ⟨by rw [HE.out]; rfl, rfl⟩
    · have h1' : decide (n < 4294967296) = false := decide_eq_false h1
      have HE : Hid (fitsC 78 n = false) := decide_eq_false (p := 0 ≤ n ∧ n < ((2 ^ 32 : Nat) : Int)) (by omega)
      clear h1
      go_enter Tryz.func39, Tryz.ntmps39
      go_wp2_with (first | (go_at_call 34; refine (C34 _).mono ?_; rintro e w1 ⟨rfl, rfl⟩) | (go_at_call 40; refine (C40 _).mono ?_; rintro e w1 ⟨rfl, rfl⟩))
      go_ret
      exact ⟨by rw [HE.out]; rfl, rfl⟩
  · have h0' : decide (0 ≤ n) = false := decide_eq_false h0
    have HE : Hid (fitsC 78 n = false) := decide_eq_false (p := 0 ≤ n ∧ n < ((2 ^ 32 : Nat) : Int)) (by omega)
    clear h0
    go_enter Tryz.func39, Tryz.ntmps39
    go_wp2_with (first | (go_at_call 34; refine (C34 _).mono ?_; rintro e w1 ⟨rfl, rfl⟩) | (go_at_call 40; refine (C40 _).mono ?_; rintro e w1 ⟨rfl, rfl⟩))
    go_ret
    exact ⟨by rw [HE.out]; rfl, rfl⟩
set_option maxRecDepth 100000 in
set_option maxHeartbeats 1000000 in
theorem t39_81 (n : Int) (w : World) (hn : InInt n) : Calls Tryz.prog 39 #[.int .u8 81, .int .i64 n] w fun e w' => e = .returned (.bool (fitsC 81 n)) ∧ w = w' := by
  have C34 : ∀ W, Calls Tryz.prog 34 #[.int .u8 81] W fun e w' => e = .returned (.int .i64 8) ∧ W = w' := fun W => t34 81 W
  have C40 : ∀ W, Calls Tryz.prog 40 #[.int .u8 81] W fun e w' => e = .returned (.bool false) ∧ W = w' := fun W => t40 81 W
  by_cases h0 : 0 ≤ n
  · have HE : Hid (fitsC 81 n = true) := decide_eq_true (p := 0 ≤ n ∧ n < ((2 ^ 64 : Nat) : Int)) (by obtain ⟨h1, h2⟩ := hn; omega)
    go_enter Tryz.func39, Tryz.ntmps39
    go_wp2_with (first | (go_at_call 34; refine (C34 _).mono ?_; rintro e w1 ⟨rfl, rfl⟩) | (go_at_call 40; refine (C40 _).mono ?_; rintro e w1 ⟨rfl, rfl⟩))
    go_ret
    exact ⟨by rw [HE.out]; rfl, rfl⟩
  · have h0' : decide (0 ≤ n) = false := decide_eq_false h0
    have HE : Hid (fitsC 81 n = false) := decide_eq_false (p := 0 ≤ n ∧ n < ((2 ^ 64 : Nat) : Int)) (by obtain ⟨h1, h2⟩ := hn; omega)
    clear h0
    go_enter Tryz.func39, Tryz.ntmps39
    go_wp2_with (first | (go_at_call 34; refine (C34 _).mono ?_; rintro e w1 ⟨rfl, rfl⟩) | (go_at_call 40; refine (C40 _).mono ?_; rintro e w1 ⟨rfl, rfl⟩))
    go_ret
    exact ⟨by rw [HE.out]; rfl, rfl⟩
set_option maxRecDepth 100000 in
set_option maxHeartbeats 1000000 in
theorem t39_119 (n : Int) (w : World) (hn : InInt n) : Calls Tryz.prog 39 #[.int .u8 119, .int .i64 n] w fun e w' => e = .returned (.bool (fitsC 119 n)) ∧ w = w' := by
  have C34 : ∀ W, Calls Tryz.prog 34 #[.int .u8 119] W fun e w' => e = .returned (.int .i64 0) ∧ W = w' := fun W => t34 119 W
  have C40 : ∀ W, Calls Tryz.prog 40 #[.int .u8 119] W fun e w' => e = .returned (.bool false) ∧ W = w' := fun W => t40 119 W
  by_cases h0 : 0 ≤ n
  · have HE : Hid (fitsC 119 n = true) := decide_eq_true (p := 0 ≤ n) (by obtain ⟨h1, h2⟩ := hn; omega)
    go_enter Tryz.func39, Tryz.ntmps39
    go_wp2_with (first | (go_at_call 34; refine (C34 _).mono ?_; rintro e w1 ⟨rfl, rfl⟩) | (go_at_call 40; refine (C40 _).mono ?_; rintro e w1 ⟨rfl, rfl⟩))
    go_ret
    exact ⟨by rw [HE.out]; rfl, rfl⟩
  · have h0' : decide (0 ≤ n) = false := decide_eq_false h0
    have HE : Hid (fitsC 119 n = false) := decide_eq_false (p := 0 ≤ n) (by obtain ⟨h1, h2⟩ := hn; omega)
    clear h0
    go_enter Tryz.func39, Tryz.ntmps39
    go_wp2_with (first | (go_at_call 34; refine (C34 _).mono ?_; rintro e w1 ⟨rfl, rfl⟩) | (go_at_call 40; refine (C40 _).mono ?_; rintro e w1 ⟨rfl, rfl⟩))
    go_ret
    exact ⟨by rw [HE.out]; rfl, rfl⟩
set_option maxRecDepth 100000 in
set_option maxHeartbeats 1000000 in
theorem t39_99 (n : Int) (w : World) (_hn : InInt n) : Calls Tryz.prog 39 #[.int .u8 99, .int .i64 n] w fun e w' => e = .returned (.bool (fitsC 99 n)) ∧ w = w' := by
  have C34 : ∀ W, Calls Tryz.prog 34 #[.int .u8 99] W fun e w' => e = .returned (.int .i64 1) ∧ W = w' := fun W => t34 99 W
  have C40 : ∀ W, Calls Tryz.prog 40 #[.int .u8 99] W fun e w' => e = .returned (.bool true) ∧ W = w' := fun W => t40 99 W
  by_cases h0 : -128 ≤ n
  · by_cases h1 : n < 128
    · have HE : Hid (fitsC 99 n = true) := decide_eq_true (p := -((2 ^ 7 : Nat) : Int) ≤ n ∧ n < ((2 ^ 7 : Nat) : Int)) (by omega)
      go_enter Tryz.func39, Tryz.ntmps39
      go_wp2_with (first | (go_at_call 34; refine (C34 _).mono ?_; rintro e w1 ⟨rfl, rfl⟩) | (go_at_call 40; refine (C40 _).mono ?_; rintro e w1 ⟨rfl, rfl⟩))
      go_ret
      exact ⟨by rw [HE.out]; rfl, rfl⟩
    · have h1' : decide (n < 128) = false := decide_eq_false h1
      have HE : Hid (fitsC 99 n = false) := decide_eq_false (p := -((2 ^ 7 : Nat) : Int) ≤ n ∧ n < ((2 ^ 7 : Nat) : Int)) (by omega)
      clear h1
      go_enter Tryz.func39, Tryz.ntmps39
      go_wp2_with (first | (go_at_call 34; refine (C34 _).mono ?_; rintro e w1 ⟨rfl, rfl⟩) | (go_at_call 40; refine (C40 _).mono ?_; rintro e w1 ⟨rfl, rfl⟩))
      go_ret
      exact ⟨by rw [HE.out]; rfl, rfl⟩
  · have h0' : decide (-128 ≤ n) = false := decide_eq_false h0
    have HE : Hid (fitsC 99 n = false) := decide_eq_false (p := -((2 ^ 7 : Nat) : Int) ≤ n ∧ n < ((2 ^ 7 : Nat) : Int)) (by omega)
    clear h0
    go_enter Tryz.func39, Tryz.ntmps39
    go_wp2_with (first | (go_at_call 34; refine (C34 _).mono ?_; rintro e w1 ⟨rfl, rfl⟩) | (go_at_call 40; refine (C40 _).mono ?_; rintro e w1 ⟨rfl, rfl⟩))
    go_ret
    exact ⟨by rw [HE.out]; rfl, rfl⟩
set_option maxRecDepth 100000 in
set_option maxHeartbeats 1000000 in
theorem t39_115 (n : Int) (w : World) (_hn : InInt n) : Calls Tryz.prog 39 #[.int .u8 115, .int .i64 n] w fun e w' => e = .returned (.bool (fitsC 115 n)) ∧ w = w' := by
  have C34 : ∀ W, Calls Tryz.prog 34 #[.int .u8 115] W fun e w' => e = .returned (.int .i64 2) ∧ W = w' := fun W => t34 115 W
  have C40 : ∀ W, Calls Tryz.prog 40 #[.int .u8 115] W fun e w' => e = .returned (.bool true) ∧ W = w' := fun W => t40 115 W
  by_cases h0 : -32768 ≤ n
  · by_cases h1 : n < 32768
    · have HE : Hid (fitsC 115 n = true) := decide_eq_true (p := -((2 ^ 15 : Nat) : Int) ≤ n ∧ n < ((2 ^ 15 : Nat) : Int)) (by omega)
      go_enter Tryz.func39, Tryz.ntmps39
      go_wp2_with (first | (go_at_call 34; refine (C34 _).mono ?_; rintro e w1 ⟨rfl, rfl⟩) | (go_at_call 40; refine (C40 _).mono ?_; rintro e w1 ⟨rfl, rfl⟩))
      go_ret
      exact ⟨by rw [HE.out]; rfl, rfl⟩
    · have h1' : decide (n < 32768) = false := decide_eq_false h1
      have HE : Hid (fitsC 115 n = false) := decide_eq_false (p := -((2 ^ 15 : Nat) : Int) ≤ n ∧ n < ((2 ^ 15 : Nat) : Int)) (by omega)
      clear h1
      go_enter Tryz.func39, Tryz.ntmps39
      go_wp2_with (first | (go_at_call 34; refine (C34 _).mono ?_; rintro e w1 ⟨rfl, rfl⟩) | (go_at_call 40; refine (C40 _).mono ?_; rintro e w1 ⟨rfl, rfl⟩))
      go_ret
      exact ⟨by rw [HE.out]; rfl, rfl⟩
  · have h0' : decide (-32768 ≤ n) = false := decide_eq_false h0
    have HE : Hid (fitsC 115 n = false) := decide_eq_false (p := -((2 ^ 15 : Nat) : Int) ≤ n ∧ n < ((2 ^ 15 : Nat) : Int)) (by omega)
    clear h0
    go_enter Tryz.func39, Tryz.ntmps39
    go_wp2_with (first | (go_at_call 34; refine (C34 _).mono ?_; rintro e w1 ⟨rfl, rfl⟩) | (go_at_call 40; refine (C40 _).mono ?_; rintro e w1 ⟨rfl, rfl⟩))
    go_ret
    exact ⟨by rw [HE.out]; rfl, rfl⟩
set_option maxRecDepth 100000 in
set_option maxHeartbeats 1000000 in
theorem t39_108 (n : Int) (w : World) (_hn : InInt n) : Calls Tryz.prog 39 #[.int .u8 108, .int .i64 n] w fun e w' => e = .returned (.bool (fitsC 108 n)) ∧ w = w' := by
  have C34 : ∀ W, Calls Tryz.prog 34 #[.int .u8 108] W fun e w' => e = .returned (.int .i64 4) ∧ W = w' := fun W => t34 108 W
  have C40 : ∀ W, Calls Tryz.prog 40 #[.int .u8 108] W fun e w' => e = .returned (.bool true) ∧ W = w' := fun W => t40 108 W
  by_cases h0 : -2147483648 ≤ n
  · by_cases h1 : n < 2147483648
    · have HE : Hid (fitsC 108 n = true) := decide_eq_true (p := -((2 ^ 31 : Nat) : Int) ≤ n ∧ n < ((2 ^ 31 : Nat) : Int)) (by omega)
      go_enter Tryz.func39, Tryz.ntmps39
      go_wp2_with (first | (go_at_call 34; refine (C34 _).mono ?_; rintro e w1 ⟨rfl, rfl⟩) | (go_at_call 40; refine (C40 _).mono ?_; rintro e w1 ⟨rfl, rfl⟩))
      go_ret
      exact ⟨by rw [HE.out]; rfl, rfl⟩
    · have h1' : decide (n < 2147483648) = false := decide_eq_false h1
      have HE : Hid (fitsC 108 n = false) := decide_eq_false (p := -((2 ^ 31 : Nat) : Int) ≤ n ∧ n < ((2 ^ 31 : Nat) : Int)) (by omega)
      clear h1
      go_enter Tryz.func39, Tryz.ntmps39
      go_wp2_with (first | (go_at_call 34; refine (C34 _).mono ?_; rintro e w1 ⟨rfl, rfl⟩) | (go_at_call 40; refine (C40 _).mono ?_; rintro e w1 ⟨rfl, rfl⟩))
      go_ret
      exact ⟨by rw [HE.out]; rfl, rfl⟩
  · have h0' : decide (-2147483648 ≤ n) = false := decide_eq_false h0
    have HE : Hid (fitsC 108 n = false) := decide_eq_false (p := -((2 ^ 31 : Nat) : Int) ≤ n ∧ n < ((2 ^ 31 : Nat) : Int)) (by omega)
    clear h0
    go_enter Tryz.func39, Tryz.ntmps39
    go_wp2_with (first | (go_at_call 34; refine (C34 _).mono ?_; rintro e w1 ⟨rfl, rfl⟩) | (go_at_call 40; refine (C40 _).mono ?_; rintro e w1 ⟨rfl, rfl⟩))
    go_ret
    exact ⟨by rw [HE.out]; rfl, rfl⟩
set_option maxRecDepth 100000 in
set_option maxHeartbeats 1000000 in
theorem t39_113 (n : Int) (w : World) (hn : InInt n) : Calls Tryz.prog 39 #[.int .u8 113, .int .i64 n] w fun e w' => e = .returned (.bool (fitsC 113 n)) ∧ w = w' := by
  have C34 : ∀ W, Calls Tryz.prog 34 #[.int .u8 113] W fun e w' => e = .returned (.int .i64 8) ∧ W = w' := fun W => t34 113 W
  have HE : Hid (fitsC 113 n = true) := by
    obtain ⟨h1, h2⟩ := hn
    exact decide_eq_true (p := -((2 ^ 63 : Nat) : Int) ≤ n ∧ n < ((2 ^ 63 : Nat) : Int)) (by omega)
  go_enter Tryz.func39, Tryz.ntmps39
  go_wp2_with (first | (go_at_call 34; refine (C34 _).mono ?_; rintro e w1 ⟨rfl, rfl⟩))
  go_ret
  exact ⟨by rw [HE.out]; rfl, rfl⟩
set_option maxHeartbeats 1000000 in
theorem t39_85 (n : Int) (w : World) (_hn : InInt n) : Calls Tryz.prog 39 #[.int .u8 85, .int .i64 n] w fun e w' => e = .returned (.bool (fitsC 85 n)) ∧ w = w' := by
  have C := fun W => t59 n W
  rw [← fitsC_U] at C
  go_enter Tryz.func39, Tryz.ntmps39
  go_wp2_with (go_at_call 59; refine (C _).mono ?_; rintro e w1 ⟨rfl, rfl⟩)
  go_ret
  exact ⟨rfl, rfl⟩
theorem t39 (c : UInt8) (n : Int) (w : World) (hc : numC c = true) (hn : InInt n) : Calls Tryz.prog 39 #[.int .u8 c.toNat, .int .i64 n] w fun e w' => e = .returned (.bool (fitsC c n)) ∧ w = w' := by
  rcases num_cases hc with rfl | rfl | rfl | rfl | rfl | rfl | rfl | rfl | rfl | rfl | rfl | rfl
  · exact t39_67 n w hn
  · exact t39_99 n w hn
  · exact t39_83 n w hn
  · exact t39_115 n w hn
  · exact t39_76 n w hn
  · exact t39_108 n w hn
  · exact t39_81 n w hn
  · exact t39_113 n w hn
  · exact t39_110 n w hn
  · exact t39_78 n w hn
  · exact t39_119 n w hn
  · exact t39_85 n w hn
end Go.Proofs.YtmbnckmhngijdaaGreatDoor
