/- Contract of fits. -/
import Derived.Test.YtmbnckmhngijdaaGreatDoorH
namespace Go.Proofs.YtmbnckmhngijdaaGreatDoor
open Go Go.RowKit

theorem fits_u (n : Int) : fitsC 85 n = decide (0 ≤ n ∧ n ≤ 1114111 ∧ ¬ (55296 ≤ n ∧ n ≤ 57343)) := rfl
theorem fits_w (n : Int) : fitsC 119 n = decide (0 ≤ n) := rfl
set_option maxRecDepth 100000 in
set_option maxHeartbeats 1000000 in
theorem t124_u (nb gr al : Bool) (k : Int) (n : Int) (w : World) :
    Calls Tryz.prog 124 #[.agg #[.int .u8 85, .bool nb, .int .i64 0, .bool gr, .bool al, .int .i64 k], .int .i64 n] w fun e w' => e = .returned (.bool (fitsC 85 n)) ∧ Below w.heap.size w w' := by
  rw [fits_u]
  by_cases h1 : 0 ≤ n
  · by_cases h2 : n ≤ 1114111
    · have cV := Tryz.utf8_ValidRune n
      have HV : Hid (Lib.validRune n = decide (0 ≤ n ∧ n ≤ 1114111 ∧ ¬ (55296 ≤ n ∧ n ≤ 57343))) := by
        show _ = _; unfold Lib.validRune
        rw [Bool.eq_iff_iff, decide_eq_true_eq, decide_eq_true_eq]; omega
      have d1 : decide (0 ≤ n) = true := decide_eq_true h1
      have d2 : decide (n ≤ 1114111) = true := decide_eq_true h2
      go_enter Tryz.func124, Tryz.ntmps124
      go_wp2_with fail
      refine (cV _).mono ?_
      rintro e w1 ⟨rfl, rfl⟩
      go_wp2
      go_ret
      exact ⟨ret_bool HV.out, bSelf w _⟩
    · have d1 : decide (0 ≤ n) = true := decide_eq_true h1
      have d2 : decide (n ≤ 1114111) = false := decide_eq_false h2
      have HV : Hid (decide (0 ≤ n ∧ n ≤ 1114111 ∧ ¬ (55296 ≤ n ∧ n ≤ 57343)) = false) := decide_eq_false (by omega)
      go_enter Tryz.func124, Tryz.ntmps124
      go_wp2
      go_ret
      exact ⟨ret_bool (by first | exact HV.out.symm | rfl | (rw [HV.out])), bSelf w _⟩
  · have d1 : decide (0 ≤ n) = false := decide_eq_false h1
    have HV : Hid (decide (0 ≤ n ∧ n ≤ 1114111 ∧ ¬ (55296 ≤ n ∧ n ≤ 57343)) = false) := decide_eq_false (by omega)
    go_enter Tryz.func124, Tryz.ntmps124
    go_wp2
    go_ret
    exact ⟨ret_bool (by first | exact HV.out.symm | rfl | (rw [HV.out])), bSelf w _⟩
set_option maxRecDepth 100000 in
set_option maxHeartbeats 1000000 in
theorem t124_w (nb gr al : Bool) (k : Int) (n : Int) (w : World) :
    Calls Tryz.prog 124 #[.agg #[.int .u8 119, .bool nb, .int .i64 0, .bool gr, .bool al, .int .i64 k], .int .i64 n] w fun e w' => e = .returned (.bool (fitsC 119 n)) ∧ Below w.heap.size w w' := by
  rw [fits_w]
  go_enter Tryz.func124, Tryz.ntmps124
  go_wp2
  go_ret
  exact ⟨rfl, bSelf w _⟩
set_option maxRecDepth 100000 in
set_option maxHeartbeats 1000000 in
theorem t124_99 (nb gr al : Bool) (k : Int) (n : Int) (w : World) (hn : -9223372036854775808 ≤ n ∧ n ≤ 9223372036854775807) :
    Calls Tryz.prog 124 #[.agg #[.int .u8 99, .bool nb, .int .i64 1, .bool gr, .bool al, .int .i64 k], .int .i64 n] w fun e w' => e = .returned (.bool (fitsC 99 n)) ∧ Below w.heap.size w w' := by
  have hf : fitsC 99 n = decide (-128 ≤ n ∧ n < 128) := rfl
  rw [hf]
  have c7 := fun v1 v2 v3 v4 v5 => t67 99 v1 v2 v3 v4 v5 ⟨#[99, 115, 108, 113]⟩ true rfl
  go_enter Tryz.func124, Tryz.ntmps124
  go_wp2_with fail
  refine (c7 _ _ _ _ _ _).mono ?_
  rintro e w1 ⟨rfl, hb1⟩
  go_wp2
  all_goals
    go_ret
    exact ⟨ret_bool (by rw [Bool.eq_iff_iff]; simp; omega), bThen (bSelf w _) hb1⟩
set_option maxRecDepth 100000 in
set_option maxHeartbeats 1000000 in
theorem t124_115 (nb gr al : Bool) (k : Int) (n : Int) (w : World) (hn : -9223372036854775808 ≤ n ∧ n ≤ 9223372036854775807) :
    Calls Tryz.prog 124 #[.agg #[.int .u8 115, .bool nb, .int .i64 2, .bool gr, .bool al, .int .i64 k], .int .i64 n] w fun e w' => e = .returned (.bool (fitsC 115 n)) ∧ Below w.heap.size w w' := by
  have hf : fitsC 115 n = decide (-32768 ≤ n ∧ n < 32768) := rfl
  rw [hf]
  have c7 := fun v1 v2 v3 v4 v5 => t67 115 v1 v2 v3 v4 v5 ⟨#[99, 115, 108, 113]⟩ true rfl
  go_enter Tryz.func124, Tryz.ntmps124
  go_wp2_with fail
  refine (c7 _ _ _ _ _ _).mono ?_
  rintro e w1 ⟨rfl, hb1⟩
  go_wp2
  all_goals
    go_ret
    exact ⟨ret_bool (by rw [Bool.eq_iff_iff]; simp; omega), bThen (bSelf w _) hb1⟩
set_option maxRecDepth 100000 in
set_option maxHeartbeats 1000000 in
theorem t124_108 (nb gr al : Bool) (k : Int) (n : Int) (w : World) (hn : -9223372036854775808 ≤ n ∧ n ≤ 9223372036854775807) :
    Calls Tryz.prog 124 #[.agg #[.int .u8 108, .bool nb, .int .i64 4, .bool gr, .bool al, .int .i64 k], .int .i64 n] w fun e w' => e = .returned (.bool (fitsC 108 n)) ∧ Below w.heap.size w w' := by
  have hf : fitsC 108 n = decide (-2147483648 ≤ n ∧ n < 2147483648) := rfl
  rw [hf]
  have c7 := fun v1 v2 v3 v4 v5 => t67 108 v1 v2 v3 v4 v5 ⟨#[99, 115, 108, 113]⟩ true rfl
  go_enter Tryz.func124, Tryz.ntmps124
  go_wp2_with fail
  refine (c7 _ _ _ _ _ _).mono ?_
  rintro e w1 ⟨rfl, hb1⟩
  go_wp2
  all_goals
    go_ret
    exact ⟨ret_bool (by rw [Bool.eq_iff_iff]; simp; omega), bThen (bSelf w _) hb1⟩
set_option maxRecDepth 100000 in
set_option maxHeartbeats 1000000 in
theorem t124_113 (nb gr al : Bool) (k : Int) (n : Int) (w : World) (hn : -9223372036854775808 ≤ n ∧ n ≤ 9223372036854775807) :
    Calls Tryz.prog 124 #[.agg #[.int .u8 113, .bool nb, .int .i64 8, .bool gr, .bool al, .int .i64 k], .int .i64 n] w fun e w' => e = .returned (.bool (fitsC 113 n)) ∧ Below w.heap.size w w' := by
  have hf : fitsC 113 n = decide (-9223372036854775808 ≤ n ∧ n < 9223372036854775808) := rfl
  rw [hf]
  have c7 := fun v1 v2 v3 v4 v5 => t67 113 v1 v2 v3 v4 v5 ⟨#[99, 115, 108, 113]⟩ true rfl
  go_enter Tryz.func124, Tryz.ntmps124
  go_wp2_with fail
  refine (c7 _ _ _ _ _ _).mono ?_
  rintro e w1 ⟨rfl, hb1⟩
  go_wp2
  all_goals
    go_ret
    exact ⟨ret_bool (by rw [Bool.eq_iff_iff]; simp; omega), bThen (bSelf w _) hb1⟩
set_option maxRecDepth 100000 in
set_option maxHeartbeats 1000000 in
theorem t124_67 (nb gr al : Bool) (k : Int) (n : Int) (w : World) (hn : -9223372036854775808 ≤ n ∧ n ≤ 9223372036854775807) :
    Calls Tryz.prog 124 #[.agg #[.int .u8 67, .bool nb, .int .i64 1, .bool gr, .bool al, .int .i64 k], .int .i64 n] w fun e w' => e = .returned (.bool (fitsC 67 n)) ∧ Below w.heap.size w w' := by
  have hf : fitsC 67 n = decide (0 ≤ n ∧ n < 256) := rfl
  rw [hf]
  have c7 := fun v1 v2 v3 v4 v5 => t67 67 v1 v2 v3 v4 v5 ⟨#[99, 115, 108, 113]⟩ false rfl
  by_cases h0 : 0 ≤ n
  · go_enter Tryz.func124, Tryz.ntmps124
    go_wp2_with fail
    refine (c7 _ _ _ _ _ _).mono ?_
    rintro e w1 ⟨rfl, hb1⟩
    go_wp2
    all_goals
      go_ret
      exact ⟨ret_bool (by rw [Bool.eq_iff_iff]; simp; omega), bThen (bSelf w _) hb1⟩
  · have d1 : decide (0 ≤ n) = false := decide_eq_false h0
    have HV : Hid (decide (0 ≤ n ∧ n < 256) = false) := decide_eq_false (by omega)
    go_enter Tryz.func124, Tryz.ntmps124
    go_wp2_with fail
    refine (c7 _ _ _ _ _ _).mono ?_
    rintro e w1 ⟨rfl, hb1⟩
    go_wp2
    go_ret
    exact ⟨ret_bool (by first | exact HV.out.symm | rfl | (rw [HV.out])), bThen (bSelf w _) hb1⟩
set_option maxRecDepth 100000 in
set_option maxHeartbeats 1000000 in
theorem t124_83 (nb gr al : Bool) (k : Int) (n : Int) (w : World) (hn : -9223372036854775808 ≤ n ∧ n ≤ 9223372036854775807) :
    Calls Tryz.prog 124 #[.agg #[.int .u8 83, .bool nb, .int .i64 2, .bool gr, .bool al, .int .i64 k], .int .i64 n] w fun e w' => e = .returned (.bool (fitsC 83 n)) ∧ Below w.heap.size w w' := by
  have hf : fitsC 83 n = decide (0 ≤ n ∧ n < 65536) := rfl
  rw [hf]
  have c7 := fun v1 v2 v3 v4 v5 => t67 83 v1 v2 v3 v4 v5 ⟨#[99, 115, 108, 113]⟩ false rfl
  by_cases h0 : 0 ≤ n
  · go_enter Tryz.func124, Tryz.ntmps124
    go_wp2_with fail
    refine (c7 _ _ _ _ _ _).mono ?_
    rintro e w1 ⟨rfl, hb1⟩
    go_wp2
    all_goals
      go_ret
      exact ⟨ret_bool (by rw [Bool.eq_iff_iff]; simp; omega), bThen (bSelf w _) hb1⟩
  · have d1 : decide (0 ≤ n) = false := decide_eq_false h0
    have HV : Hid (decide (0 ≤ n ∧ n < 65536) = false) := decide_eq_false (by omega)
    go_enter Tryz.func124, Tryz.ntmps124
    go_wp2_with fail
    refine (c7 _ _ _ _ _ _).mono ?_
    rintro e w1 ⟨rfl, hb1⟩
    go_wp2
    go_ret
    exact ⟨ret_bool (by first | exact HV.out.symm | rfl | (rw [HV.out])), bThen (bSelf w _) hb1⟩
set_option maxRecDepth 100000 in
set_option maxHeartbeats 1000000 in
theorem t124_76 (nb gr al : Bool) (k : Int) (n : Int) (w : World) (hn : -9223372036854775808 ≤ n ∧ n ≤ 9223372036854775807) :
    Calls Tryz.prog 124 #[.agg #[.int .u8 76, .bool nb, .int .i64 4, .bool gr, .bool al, .int .i64 k], .int .i64 n] w fun e w' => e = .returned (.bool (fitsC 76 n)) ∧ Below w.heap.size w w' := by
  have hf : fitsC 76 n = decide (0 ≤ n ∧ n < 4294967296) := rfl
  rw [hf]
  have c7 := fun v1 v2 v3 v4 v5 => t67 76 v1 v2 v3 v4 v5 ⟨#[99, 115, 108, 113]⟩ false rfl
  by_cases h0 : 0 ≤ n
  · go_enter Tryz.func124, Tryz.ntmps124
    go_wp2_with fail
    refine (c7 _ _ _ _ _ _).mono ?_
    rintro e w1 ⟨rfl, hb1⟩
    go_wp2
    all_goals
      go_ret
      exact ⟨ret_bool (by rw [Bool.eq_iff_iff]; simp; omega), bThen (bSelf w _) hb1⟩
  · have d1 : decide (0 ≤ n) = false := decide_eq_false h0
    have HV : Hid (decide (0 ≤ n ∧ n < 4294967296) = false) := decide_eq_false (by omega)
    go_enter Tryz.func124, Tryz.ntmps124
    go_wp2_with fail
    refine (c7 _ _ _ _ _ _).mono ?_
    rintro e w1 ⟨rfl, hb1⟩
    go_wp2
    go_ret
    exact ⟨ret_bool (by first | exact HV.out.symm | rfl | (rw [HV.out])), bThen (bSelf w _) hb1⟩
set_option maxRecDepth 100000 in
set_option maxHeartbeats 1000000 in
theorem t124_81 (nb gr al : Bool) (k : Int) (n : Int) (w : World) (hn : -9223372036854775808 ≤ n ∧ n ≤ 9223372036854775807) :
    Calls Tryz.prog 124 #[.agg #[.int .u8 81, .bool nb, .int .i64 8, .bool gr, .bool al, .int .i64 k], .int .i64 n] w fun e w' => e = .returned (.bool (fitsC 81 n)) ∧ Below w.heap.size w w' := by
  have hf : fitsC 81 n = decide (0 ≤ n ∧ n < 18446744073709551616) := rfl
  rw [hf]
  have c7 := fun v1 v2 v3 v4 v5 => t67 81 v1 v2 v3 v4 v5 ⟨#[99, 115, 108, 113]⟩ false rfl
  by_cases h0 : 0 ≤ n
  · go_enter Tryz.func124, Tryz.ntmps124
    go_wp2_with fail
    refine (c7 _ _ _ _ _ _).mono ?_
    rintro e w1 ⟨rfl, hb1⟩
    go_wp2
    all_goals
      go_ret
      exact ⟨ret_bool (by rw [Bool.eq_iff_iff]; simp; omega), bThen (bSelf w _) hb1⟩
  · have d1 : decide (0 ≤ n) = false := decide_eq_false h0
    have HV : Hid (decide (0 ≤ n ∧ n < 18446744073709551616) = false) := decide_eq_false (by omega)
    go_enter Tryz.func124, Tryz.ntmps124
    go_wp2_with fail
    refine (c7 _ _ _ _ _ _).mono ?_
    rintro e w1 ⟨rfl, hb1⟩
    go_wp2
    go_ret
    exact ⟨ret_bool (by first | exact HV.out.symm | rfl | (rw [HV.out])), bThen (bSelf w _) hb1⟩
set_option maxRecDepth 100000 in
set_option maxHeartbeats 1000000 in
theorem t124_110 (nb gr al : Bool) (k : Int) (n : Int) (w : World) (hn : -9223372036854775808 ≤ n ∧ n ≤ 9223372036854775807) :
    Calls Tryz.prog 124 #[.agg #[.int .u8 110, .bool nb, .int .i64 2, .bool gr, .bool al, .int .i64 k], .int .i64 n] w fun e w' => e = .returned (.bool (fitsC 110 n)) ∧ Below w.heap.size w w' := by
  have hf : fitsC 110 n = decide (0 ≤ n ∧ n < 65536) := rfl
  rw [hf]
  have c7 := fun v1 v2 v3 v4 v5 => t67 110 v1 v2 v3 v4 v5 ⟨#[99, 115, 108, 113]⟩ false rfl
  by_cases h0 : 0 ≤ n
  · go_enter Tryz.func124, Tryz.ntmps124
    go_wp2_with fail
    refine (c7 _ _ _ _ _ _).mono ?_
    rintro e w1 ⟨rfl, hb1⟩
    go_wp2
    all_goals
      go_ret
      exact ⟨ret_bool (by rw [Bool.eq_iff_iff]; simp; omega), bThen (bSelf w _) hb1⟩
  · have d1 : decide (0 ≤ n) = false := decide_eq_false h0
    have HV : Hid (decide (0 ≤ n ∧ n < 65536) = false) := decide_eq_false (by omega)
    go_enter Tryz.func124, Tryz.ntmps124
    go_wp2_with fail
    refine (c7 _ _ _ _ _ _).mono ?_
    rintro e w1 ⟨rfl, hb1⟩
    go_wp2
    go_ret
    exact ⟨ret_bool (by first | exact HV.out.symm | rfl | (rw [HV.out])), bThen (bSelf w _) hb1⟩
set_option maxRecDepth 100000 in
set_option maxHeartbeats 1000000 in
theorem t124_78 (nb gr al : Bool) (k : Int) (n : Int) (w : World) (hn : -9223372036854775808 ≤ n ∧ n ≤ 9223372036854775807) :
    Calls Tryz.prog 124 #[.agg #[.int .u8 78, .bool nb, .int .i64 4, .bool gr, .bool al, .int .i64 k], .int .i64 n] w fun e w' => e = .returned (.bool (fitsC 78 n)) ∧ Below w.heap.size w w' := by
  have hf : fitsC 78 n = decide (0 ≤ n ∧ n < 4294967296) := rfl
  rw [hf]
  have c7 := fun v1 v2 v3 v4 v5 => t67 78 v1 v2 v3 v4 v5 ⟨#[99, 115, 108, 113]⟩ false rfl
  by_cases h0 : 0 ≤ n
  · go_enter Tryz.func124, Tryz.ntmps124
    go_wp2_with fail
    refine (c7 _ _ _ _ _ _).mono ?_
    rintro e w1 ⟨rfl, hb1⟩
    go_wp2
    all_goals
      go_ret
      exact ⟨ret_bool (by rw [Bool.eq_iff_iff]; simp; omega), bThen (bSelf w _) hb1⟩
  · have d1 : decide (0 ≤ n) = false := decide_eq_false h0
    have HV : Hid (decide (0 ≤ n ∧ n < 4294967296) = false) := decide_eq_false (by omega)
    go_enter Tryz.func124, Tryz.ntmps124
    go_wp2_with fail
    refine (c7 _ _ _ _ _ _).mono ?_
    rintro e w1 ⟨rfl, hb1⟩
    go_wp2
    go_ret
    exact ⟨ret_bool (by first | exact HV.out.symm | rfl | (rw [HV.out])), bThen (bSelf w _) hb1⟩
end Go.Proofs.YtmbnckmhngijdaaGreatDoor
