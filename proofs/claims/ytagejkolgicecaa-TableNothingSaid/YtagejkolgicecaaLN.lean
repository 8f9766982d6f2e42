/- TableNothing: the walk. -/
import Derived.Test.YtagejkolgicecaaJ
import Derived.Test.YtagejkolgicecaaKN
namespace Go.Proofs.Ytagejkolgicecaa
open Go Go.RowKit Go.Maps
theorem ones12 (g : Nat) (w : World) (q : Nat) (hq : q < 12) (h : Blk w g 37 [.int .i64 1, .int .i64 1, .int .i64 1, .int .i64 1, .int .i64 1, .int .i64 1, .int .i64 1, .int .i64 1, .int .i64 1, .int .i64 1, .int .i64 1, .int .i64 1]) : w.cell? ⟨g, q, none⟩ = some (.int .i64 1) := by
  refine h.cell q ?_
  match q, hq with
  | 0, _ => rfl | 1, _ => rfl | 2, _ => rfl | 3, _ => rfl | 4, _ => rfl | 5, _ => rfl | 6, _ => rfl | 7, _ => rfl | 8, _ => rfl | 9, _ => rfl | 10, _ => rfl | 11, _ => rfl
set_option maxRecDepth 100000 in
set_option maxHeartbeats 4000000 in
theorem t11 (n m : Int) (w : World) : Calls Try.prog 11 #[.int .i64 n, .int .i64 m] w fun e w' => e = .returned (.bool true) ∧ Below w.heap.size w w' := by
  go_enter Try.func11, Try.ntmps11
  go_wp2_with fail
  go_loopw [6] (fun i wr => ∃ j : Nat, j ≤ 2 ∧ i = .int .i64 j ∧ Below w.heap.size w wr) (fun i _ => 2 - (intOf i).toNat)
  case atStart => exact ⟨0, Nat.zero_le _, rfl, Below.refl _ _⟩
  case round =>
    obtain ⟨j, hj, rfl, hb⟩ := hrel
    by_cases hlt : j < 2
    · have hlt' : (j : Int) < 2 := by omega
      rcases (by omega : j = 0 ∨ j = 1) with h0 | h0
      · have hne : ¬ ((j : Int) = 1) := by omega
        have hne2 : ((j : Int) == 1) = false := by simpa using hne
        have HN := Lib.hid (none_nil wr)
        have HB := Lib.hid hb
        clear hb hne h0
        go_wp2_with (first | (go_at_call 37; refine (t37n _ _ _ HN.out).mono ?_; rintro e w' ⟨rfl, rfl⟩) | (go_at_call 38; refine (t38n _ _ HN.out).mono ?_; rintro e w' ⟨rfl, rfl⟩) | (go_at_call 28; refine (t28n _ _ _ HN.out).mono ?_; rintro e w' ⟨rfl, rfl⟩) | (go_at_call 22; refine (t22n _ _ _ HN.out).mono ?_; rintro e w' ⟨rfl, rfl⟩) | (go_at_call 42; refine (t42n _ _ _ HN.out).mono ?_; rintro e w' ⟨rfl, rfl⟩) | (go_at_call 41; refine (t41n _ _ _ HN.out).mono ?_; rintro e w' ⟨rfl, rfl⟩) | (go_at_call 25; refine (t25n _ _ _ HN.out).mono ?_; rintro e w' ⟨rfl, rfl⟩) | (go_at_call 27; refine (t27n _ _ _ HN.out).mono ?_; rintro e w' ⟨rfl, rfl⟩) | (go_at_call 39; refine (t39n _ _ HN.out).mono ?_; rintro e w' ⟨rfl, rfl⟩) | (go_at_call 40; refine (t40n _ _ HN.out).mono ?_; rintro e w' ⟨rfl, rfl⟩) | (go_at_call 24; refine (t24n _ _ HN.out).mono ?_; rintro e w' ⟨rfl, rfl⟩) | (go_at_call 23; refine (t23n _ _ HN.out).mono ?_; rintro e w' ⟨rfl, rfl⟩) | (go_at_call 43; refine (t43n _ _ HN.out).mono ?_; rintro e w' ⟨rfl, rfl⟩) | (go_at_call 26; refine (t26n _ _ HN.out).mono ?_; rintro e w' ⟨rfl, rfl⟩) | (go_at_call 32; refine (t32n _ _ HN.out).mono ?_; rintro e w' ⟨rfl, rfl⟩) | fail)
        refine (t21n _ _ _ _ HN.out).mono ?_
        rintro e w1 ⟨rfl, hb1⟩
        have HN1 := Lib.hid (HN.out.below hb1)
        have HB1 := Lib.hid (bThen HB.out hb1)
        clear hb1
        go_wp2_with (first | (go_at_call 27; refine (t27n _ _ _ HN1.out).mono ?_; rintro e w' ⟨rfl, rfl⟩) | fail)
        refine (t17n _ _ HN1.out).mono ?_
        rintro e w2 ⟨rfl, hb2⟩
        have HN2 := Lib.hid (HN1.out.below hb2)
        have HB2 := Lib.hid (bThen HB1.out hb2)
        clear hb2
        go_wp2_with fail
        refine (t20 (fun _ => True) w2 (fun _ _ => trivial)).mono ?_
        rintro e w3 ⟨b, rfl, hT, hb3, _⟩
        have HN3 := Lib.hid (HN2.out.below hb3)
        have HB3 := Lib.hid (bThen HB2.out hb3)
        have HT3 := Lib.hid hT
        clear hb3 hT
        go_wp2_with fail
        refine (t29n _ w3 _ HN3.out b HT3.out).mono ?_
        rintro e w4 ⟨rfl, hb4⟩
        have HN4 := Lib.hid (HN3.out.below hb4)
        have HB4 := Lib.hid (bThen HB3.out hb4)
        clear hb4
        have HK := Lib.hid (Blk.new w4 #[.int .i64 1, .int .i64 1, .int .i64 1, .int .i64 1, .int .i64 1, .int .i64 1, .int .i64 1, .int .i64 1, .int .i64 1, .int .i64 1, .int .i64 1, .int .i64 1] 37)
        have HN5 := Lib.hid (HN4.out.below (bSelf w4 (.cells #[.int .i64 1, .int .i64 1, .int .i64 1, .int .i64 1, .int .i64 1, .int .i64 1, .int .i64 1, .int .i64 1, .int .i64 1, .int .i64 1, .int .i64 1, .int .i64 1] 37)))
        have HB5 := Lib.hid (bAl HB4.out (.cells #[.int .i64 1, .int .i64 1, .int .i64 1, .int .i64 1, .int .i64 1, .int .i64 1, .int .i64 1, .int .i64 1, .int .i64 1, .int .i64 1, .int .i64 1, .int .i64 1] 37))
        go_wp2_with fail
        generalize w4.alloc (.cells #[.int .i64 1, .int .i64 1, .int .i64 1, .int .i64 1, .int .i64 1, .int .i64 1, .int .i64 1, .int .i64 1, .int .i64 1, .int .i64 1, .int .i64 1, .int .i64 1] 37) = w5 at *
        generalize w4.heap.size = g5 at *
        go_loopw [29] (fun i w6 => ∃ q : Nat, q ≤ 12 ∧ i = .int .i64 q ∧ w6 = w5) (fun i _ => 12 - (intOf i).toNat)
        case atStart => exact ⟨0, Nat.zero_le _, rfl, rfl⟩
        case round =>
          obtain ⟨q, hq, rfl, rfl⟩ := hrel
          by_cases hlq : q < 12
          · have hc := ones12 g5 _ q hlq HK.out
            have hlq' : (q : Int) < 12 := by omega
            go_wp2_with fail
            go_roundw
            case rel => exact ⟨q + 1, by omega, by go_num, trivial⟩
            case measure => simp [intOf]; omega
          · have hlq' : ¬ ((q : Int) < 12) := by omega
            have HZ := Lib.hid HN5.out
            clear HN HN1 HN2 HN3 HN4
            go_wp2_with (first | (go_at_call 37; refine (t37n _ _ _ HZ.out).mono ?_; rintro e w' ⟨rfl, rfl⟩) | (go_at_call 38; refine (t38n _ _ HZ.out).mono ?_; rintro e w' ⟨rfl, rfl⟩) | (go_at_call 28; refine (t28n _ _ _ HZ.out).mono ?_; rintro e w' ⟨rfl, rfl⟩) | (go_at_call 22; refine (t22n _ _ _ HZ.out).mono ?_; rintro e w' ⟨rfl, rfl⟩) | (go_at_call 42; refine (t42n _ _ _ HZ.out).mono ?_; rintro e w' ⟨rfl, rfl⟩) | (go_at_call 41; refine (t41n _ _ _ HZ.out).mono ?_; rintro e w' ⟨rfl, rfl⟩) | (go_at_call 25; refine (t25n _ _ _ HZ.out).mono ?_; rintro e w' ⟨rfl, rfl⟩) | (go_at_call 27; refine (t27n _ _ _ HZ.out).mono ?_; rintro e w' ⟨rfl, rfl⟩) | (go_at_call 39; refine (t39n _ _ HZ.out).mono ?_; rintro e w' ⟨rfl, rfl⟩) | (go_at_call 40; refine (t40n _ _ HZ.out).mono ?_; rintro e w' ⟨rfl, rfl⟩) | (go_at_call 24; refine (t24n _ _ HZ.out).mono ?_; rintro e w' ⟨rfl, rfl⟩) | (go_at_call 23; refine (t23n _ _ HZ.out).mono ?_; rintro e w' ⟨rfl, rfl⟩) | (go_at_call 43; refine (t43n _ _ HZ.out).mono ?_; rintro e w' ⟨rfl, rfl⟩) | (go_at_call 26; refine (t26n _ _ HZ.out).mono ?_; rintro e w' ⟨rfl, rfl⟩) | (go_at_call 32; refine (t32n _ _ HZ.out).mono ?_; rintro e w' ⟨rfl, rfl⟩) | fail)
            refine (t20 (fun _ => True) _ (fun _ _ => trivial)).mono ?_
            rintro e w7 ⟨b7, rfl, hT7, hb7, _⟩
            have HN7 := Lib.hid (HZ.out.below hb7)
            have HB7 := Lib.hid (bThen HB5.out hb7)
            have HT7 := Lib.hid hT7
            clear hb7 hT7
            go_wp2_with fail
            refine (t34m _ w7 _ HN7.out b7 HT7.out).mono ?_
            rintro e w8 ⟨rfl, hb8⟩
            have HN8 := Lib.hid (HN7.out.below hb8)
            have HB8 := Lib.hid (bThen HB7.out hb8)
            clear hb8
            go_wp2_with fail
            refine (t34n w8 _ _ HN8.out (none_nil w8)).mono ?_
            rintro e w9 ⟨rfl, rfl⟩
            have hBe := HB8.out
            go_wp2_with fail
            go_roundw
            case rel => exact ⟨j + 1, by omega, by go_num, hBe⟩
            case measure => simp [intOf]; omega
      · have hne2 : ((j : Int) == 1) = true := by simp; omega
        clear h0
        have HN := Lib.hid (none_zero (wr.alloc (.cells #[.map none, .slice none 0 0, .int .i64 0, .map none, .int .i64 0, .bool false, .bool false] 69)) wr.heap.size ((Blk.new wr #[.map none, .slice none 0 0, .int .i64 0, .map none, .int .i64 0, .bool false, .bool false] 69).cell 0 rfl))
        have HB := Lib.hid (bAl hb (.cells #[.map none, .slice none 0 0, .int .i64 0, .map none, .int .i64 0, .bool false, .bool false] 69))
        clear hb
        go_wp2_with (first | (go_at_call 37; refine (t37n _ _ _ HN.out).mono ?_; rintro e w' ⟨rfl, rfl⟩) | (go_at_call 38; refine (t38n _ _ HN.out).mono ?_; rintro e w' ⟨rfl, rfl⟩) | (go_at_call 28; refine (t28n _ _ _ HN.out).mono ?_; rintro e w' ⟨rfl, rfl⟩) | (go_at_call 22; refine (t22n _ _ _ HN.out).mono ?_; rintro e w' ⟨rfl, rfl⟩) | (go_at_call 42; refine (t42n _ _ _ HN.out).mono ?_; rintro e w' ⟨rfl, rfl⟩) | (go_at_call 41; refine (t41n _ _ _ HN.out).mono ?_; rintro e w' ⟨rfl, rfl⟩) | (go_at_call 25; refine (t25n _ _ _ HN.out).mono ?_; rintro e w' ⟨rfl, rfl⟩) | (go_at_call 27; refine (t27n _ _ _ HN.out).mono ?_; rintro e w' ⟨rfl, rfl⟩) | (go_at_call 39; refine (t39n _ _ HN.out).mono ?_; rintro e w' ⟨rfl, rfl⟩) | (go_at_call 40; refine (t40n _ _ HN.out).mono ?_; rintro e w' ⟨rfl, rfl⟩) | (go_at_call 24; refine (t24n _ _ HN.out).mono ?_; rintro e w' ⟨rfl, rfl⟩) | (go_at_call 23; refine (t23n _ _ HN.out).mono ?_; rintro e w' ⟨rfl, rfl⟩) | (go_at_call 43; refine (t43n _ _ HN.out).mono ?_; rintro e w' ⟨rfl, rfl⟩) | (go_at_call 26; refine (t26n _ _ HN.out).mono ?_; rintro e w' ⟨rfl, rfl⟩) | (go_at_call 32; refine (t32n _ _ HN.out).mono ?_; rintro e w' ⟨rfl, rfl⟩) | fail)
        refine (t21n _ _ _ _ HN.out).mono ?_
        rintro e w1 ⟨rfl, hb1⟩
        have HN1 := Lib.hid (HN.out.below hb1)
        have HB1 := Lib.hid (bThen HB.out hb1)
        clear hb1
        go_wp2_with (first | (go_at_call 27; refine (t27n _ _ _ HN1.out).mono ?_; rintro e w' ⟨rfl, rfl⟩) | fail)
        refine (t17n _ _ HN1.out).mono ?_
        rintro e w2 ⟨rfl, hb2⟩
        have HN2 := Lib.hid (HN1.out.below hb2)
        have HB2 := Lib.hid (bThen HB1.out hb2)
        clear hb2
        go_wp2_with fail
        refine (t20 (fun _ => True) w2 (fun _ _ => trivial)).mono ?_
        rintro e w3 ⟨b, rfl, hT, hb3, _⟩
        have HN3 := Lib.hid (HN2.out.below hb3)
        have HB3 := Lib.hid (bThen HB2.out hb3)
        have HT3 := Lib.hid hT
        clear hb3 hT
        go_wp2_with fail
        refine (t29n _ w3 _ HN3.out b HT3.out).mono ?_
        rintro e w4 ⟨rfl, hb4⟩
        have HN4 := Lib.hid (HN3.out.below hb4)
        have HB4 := Lib.hid (bThen HB3.out hb4)
        clear hb4
        have HK := Lib.hid (Blk.new w4 #[.int .i64 1, .int .i64 1, .int .i64 1, .int .i64 1, .int .i64 1, .int .i64 1, .int .i64 1, .int .i64 1, .int .i64 1, .int .i64 1, .int .i64 1, .int .i64 1] 37)
        have HN5 := Lib.hid (HN4.out.below (bSelf w4 (.cells #[.int .i64 1, .int .i64 1, .int .i64 1, .int .i64 1, .int .i64 1, .int .i64 1, .int .i64 1, .int .i64 1, .int .i64 1, .int .i64 1, .int .i64 1, .int .i64 1] 37)))
        have HB5 := Lib.hid (bAl HB4.out (.cells #[.int .i64 1, .int .i64 1, .int .i64 1, .int .i64 1, .int .i64 1, .int .i64 1, .int .i64 1, .int .i64 1, .int .i64 1, .int .i64 1, .int .i64 1, .int .i64 1] 37))
        go_wp2_with fail
        generalize w4.alloc (.cells #[.int .i64 1, .int .i64 1, .int .i64 1, .int .i64 1, .int .i64 1, .int .i64 1, .int .i64 1, .int .i64 1, .int .i64 1, .int .i64 1, .int .i64 1, .int .i64 1] 37) = w5 at *
        generalize w4.heap.size = g5 at *
        go_loopw [29] (fun i w6 => ∃ q : Nat, q ≤ 12 ∧ i = .int .i64 q ∧ w6 = w5) (fun i _ => 12 - (intOf i).toNat)
        case atStart => exact ⟨0, Nat.zero_le _, rfl, rfl⟩
        case round =>
          obtain ⟨q, hq, rfl, rfl⟩ := hrel
          by_cases hlq : q < 12
          · have hc := ones12 g5 _ q hlq HK.out
            have hlq' : (q : Int) < 12 := by omega
            go_wp2_with fail
            go_roundw
            case rel => exact ⟨q + 1, by omega, by go_num, trivial⟩
            case measure => simp [intOf]; omega
          · have hlq' : ¬ ((q : Int) < 12) := by omega
            have HZ := Lib.hid HN5.out
            clear HN HN1 HN2 HN3 HN4
            go_wp2_with (first | (go_at_call 37; refine (t37n _ _ _ HZ.out).mono ?_; rintro e w' ⟨rfl, rfl⟩) | (go_at_call 38; refine (t38n _ _ HZ.out).mono ?_; rintro e w' ⟨rfl, rfl⟩) | (go_at_call 28; refine (t28n _ _ _ HZ.out).mono ?_; rintro e w' ⟨rfl, rfl⟩) | (go_at_call 22; refine (t22n _ _ _ HZ.out).mono ?_; rintro e w' ⟨rfl, rfl⟩) | (go_at_call 42; refine (t42n _ _ _ HZ.out).mono ?_; rintro e w' ⟨rfl, rfl⟩) | (go_at_call 41; refine (t41n _ _ _ HZ.out).mono ?_; rintro e w' ⟨rfl, rfl⟩) | (go_at_call 25; refine (t25n _ _ _ HZ.out).mono ?_; rintro e w' ⟨rfl, rfl⟩) | (go_at_call 27; refine (t27n _ _ _ HZ.out).mono ?_; rintro e w' ⟨rfl, rfl⟩) | (go_at_call 39; refine (t39n _ _ HZ.out).mono ?_; rintro e w' ⟨rfl, rfl⟩) | (go_at_call 40; refine (t40n _ _ HZ.out).mono ?_; rintro e w' ⟨rfl, rfl⟩) | (go_at_call 24; refine (t24n _ _ HZ.out).mono ?_; rintro e w' ⟨rfl, rfl⟩) | (go_at_call 23; refine (t23n _ _ HZ.out).mono ?_; rintro e w' ⟨rfl, rfl⟩) | (go_at_call 43; refine (t43n _ _ HZ.out).mono ?_; rintro e w' ⟨rfl, rfl⟩) | (go_at_call 26; refine (t26n _ _ HZ.out).mono ?_; rintro e w' ⟨rfl, rfl⟩) | (go_at_call 32; refine (t32n _ _ HZ.out).mono ?_; rintro e w' ⟨rfl, rfl⟩) | fail)
            refine (t20 (fun _ => True) _ (fun _ _ => trivial)).mono ?_
            rintro e w7 ⟨b7, rfl, hT7, hb7, _⟩
            have HN7 := Lib.hid (HZ.out.below hb7)
            have HB7 := Lib.hid (bThen HB5.out hb7)
            have HT7 := Lib.hid hT7
            clear hb7 hT7
            go_wp2_with fail
            refine (t34m _ w7 _ HN7.out b7 HT7.out).mono ?_
            rintro e w8 ⟨rfl, hb8⟩
            have HN8 := Lib.hid (HN7.out.below hb8)
            have HB8 := Lib.hid (bThen HB7.out hb8)
            clear hb8
            go_wp2_with fail
            refine (t34n w8 _ _ HN8.out (none_nil w8)).mono ?_
            rintro e w9 ⟨rfl, rfl⟩
            have hBe := HB8.out
            go_wp2_with fail
            go_roundw
            case rel => exact ⟨j + 1, by omega, by go_num, hBe⟩
            case measure => simp [intOf]; omega
    · have hlt' : ¬ ((j : Int) < 2) := by omega
      have HB := Lib.hid hb
      clear hb
      go_wp2_with (go_at_call 15; refine (t15 _).mono ?_; rintro e w9 ⟨rfl, hb9⟩; have H9 := Lib.hid hb9; clear hb9)
      go_ret
      exact ⟨rfl, bThen HB.out H9.out⟩
end Go.Proofs.Ytagejkolgicecaa
