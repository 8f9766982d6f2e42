/- Contracts of the reference's size, signed, number. -/
import Derived.Test.YtmbnckmhngijdaaGreatDoorRC
namespace Go.Proofs.YtmbnckmhngijdaaGreatDoor
open Go Go.RowKit

theorem u8_test (c : UInt8) (k : Nat) (hk : k < 256) : ((c.toNat : Int) == (k : Int)) = (c == UInt8.ofNat k) := by
  rw [Bool.eq_iff_iff]
  simp only [beq_iff_eq]
  constructor
  · intro h
    apply UInt8.toNat_inj.1
    rw [UInt8.toNat_ofNat']; omega
  · intro h
    rw [h, UInt8.toNat_ofNat']; omega
set_option maxRecDepth 100000 in
set_option maxHeartbeats 4000000 in
theorem t34 (c : UInt8) (w : World) : Calls Tryz.prog 34 #[.int .u8 c.toNat] w fun e w' => e = .returned (.int .i64 (sizeC c)) ∧ w = w' := by
  have HS : Hid (∀ n : Nat, sizeC c = n → ((sizeC c : Nat) : Int) = n) := fun n h => by rw [h]
  by_cases h1 : c = 67
  · have d1 := u8_eq (n := 67) (k := 67) rfl h1
    have HE : Hid (sizeC c = 1) := by show _ = _; rw [h1]; rfl
    clear h1
    go_enter Tryz.func34, Tryz.ntmps34
    go_wp2
    go_ret
    exact ⟨by rw [HE.out]; rfl, rfl⟩
  have d1 := u8_ne (n := 67) (k := 67) rfl h1
  by_cases h2 : c = 99
  · have d2 := u8_eq (n := 99) (k := 99) rfl h2
    have HE : Hid (sizeC c = 1) := by show _ = _; rw [h2]; rfl
    clear h1 h2
    go_enter Tryz.func34, Tryz.ntmps34
    go_wp2
    go_ret
    exact ⟨by rw [HE.out]; rfl, rfl⟩
  have d2 := u8_ne (n := 99) (k := 99) rfl h2
  by_cases h3 : c = 83
  · have d3 := u8_eq (n := 83) (k := 83) rfl h3
    have HE : Hid (sizeC c = 2) := by show _ = _; rw [h3]; rfl
    clear h1 h2 h3
    go_enter Tryz.func34, Tryz.ntmps34
    go_wp2
    go_ret
    exact ⟨by rw [HE.out]; rfl, rfl⟩
  have d3 := u8_ne (n := 83) (k := 83) rfl h3
  by_cases h4 : c = 115
  · have d4 := u8_eq (n := 115) (k := 115) rfl h4
    have HE : Hid (sizeC c = 2) := by show _ = _; rw [h4]; rfl
    clear h1 h2 h3 h4
    go_enter Tryz.func34, Tryz.ntmps34
    go_wp2
    go_ret
    exact ⟨by rw [HE.out]; rfl, rfl⟩
  have d4 := u8_ne (n := 115) (k := 115) rfl h4
  by_cases h5 : c = 110
  · have d5 := u8_eq (n := 110) (k := 110) rfl h5
    have HE : Hid (sizeC c = 2) := by show _ = _; rw [h5]; rfl
    clear h1 h2 h3 h4 h5
    go_enter Tryz.func34, Tryz.ntmps34
    go_wp2
    go_ret
    exact ⟨by rw [HE.out]; rfl, rfl⟩
  have d5 := u8_ne (n := 110) (k := 110) rfl h5
  by_cases h6 : c = 76
  · have d6 := u8_eq (n := 76) (k := 76) rfl h6
    have HE : Hid (sizeC c = 4) := by show _ = _; rw [h6]; rfl
    clear h1 h2 h3 h4 h5 h6
    go_enter Tryz.func34, Tryz.ntmps34
    go_wp2
    go_ret
    exact ⟨by rw [HE.out]; rfl, rfl⟩
  have d6 := u8_ne (n := 76) (k := 76) rfl h6
  by_cases h7 : c = 108
  · have d7 := u8_eq (n := 108) (k := 108) rfl h7
    have HE : Hid (sizeC c = 4) := by show _ = _; rw [h7]; rfl
    clear h1 h2 h3 h4 h5 h6 h7
    go_enter Tryz.func34, Tryz.ntmps34
    go_wp2
    go_ret
    exact ⟨by rw [HE.out]; rfl, rfl⟩
  have d7 := u8_ne (n := 108) (k := 108) rfl h7
  by_cases h8 : c = 78
  · have d8 := u8_eq (n := 78) (k := 78) rfl h8
    have HE : Hid (sizeC c = 4) := by show _ = _; rw [h8]; rfl
    clear h1 h2 h3 h4 h5 h6 h7 h8
    go_enter Tryz.func34, Tryz.ntmps34
    go_wp2
    go_ret
    exact ⟨by rw [HE.out]; rfl, rfl⟩
  have d8 := u8_ne (n := 78) (k := 78) rfl h8
  by_cases h9 : c = 81
  · have d9 := u8_eq (n := 81) (k := 81) rfl h9
    have HE : Hid (sizeC c = 8) := by show _ = _; rw [h9]; rfl
    clear h1 h2 h3 h4 h5 h6 h7 h8 h9
    go_enter Tryz.func34, Tryz.ntmps34
    go_wp2
    go_ret
    exact ⟨by rw [HE.out]; rfl, rfl⟩
  have d9 := u8_ne (n := 81) (k := 81) rfl h9
  by_cases h10 : c = 113
  · have d10 := u8_eq (n := 113) (k := 113) rfl h10
    have HE : Hid (sizeC c = 8) := by show _ = _; rw [h10]; rfl
    clear h1 h2 h3 h4 h5 h6 h7 h8 h9 h10
    go_enter Tryz.func34, Tryz.ntmps34
    go_wp2
    go_ret
    exact ⟨by rw [HE.out]; rfl, rfl⟩
  have d10 := u8_ne (n := 113) (k := 113) rfl h10
  have HE : Hid (sizeC c = 0) := by
    show _ = _
    unfold sizeC
    rw [if_neg (by simp [h1, h2]), if_neg (by simp [h3, h4, h5]), if_neg (by simp [h6, h7, h8]), if_neg (by simp [h9, h10])]
  clear h1 h2 h3 h4 h5 h6 h7 h8 h9 h10
  go_enter Tryz.func34, Tryz.ntmps34
  go_wp2
  go_ret
  exact ⟨by rw [HE.out]; rfl, rfl⟩
set_option maxHeartbeats 1000000 in
theorem t40 (c : UInt8) (w : World) : Calls Tryz.prog 40 #[.int .u8 c.toNat] w fun e w' => e = .returned (.bool (signC c)) ∧ w = w' := by
  have e1 : ((c.toNat : Int) == 99) = (c == 99) := u8_test c 99 (by omega)
  have e2 : ((c.toNat : Int) == 115) = (c == 115) := u8_test c 115 (by omega)
  have e3 : ((c.toNat : Int) == 108) = (c == 108) := u8_test c 108 (by omega)
  have e4 : ((c.toNat : Int) == 113) = (c == 113) := u8_test c 113 (by omega)
  have HE : Hid (signC c = (c == 99 || c == 115 || c == 108 || c == 113)) := rfl
  generalize (c == 99) = b1 at *
  generalize (c == 115) = b2 at *
  generalize (c == 108) = b3 at *
  generalize (c == 113) = b4 at *
  cases b1 <;> cases b2 <;> cases b3 <;> cases b4
  all_goals (
    go_enter Tryz.func40, Tryz.ntmps40
    go_wp2
    go_ret
    exact ⟨by rw [HE.out]; rfl, rfl⟩)
set_option maxHeartbeats 1000000 in
theorem t33 (c : UInt8) (w : World) : Calls Tryz.prog 33 #[.int .u8 c.toNat] w fun e w' => e = .returned (.bool (numC c)) ∧ w = w' := by
  have C := fun W => t34 c W
  have e1 : ((c.toNat : Int) == 119) = (c == 119) := u8_test c 119 (by omega)
  have e2 : ((c.toNat : Int) == 85) = (c == 85) := u8_test c 85 (by omega)
  have HE : Hid (numC c = (decide (0 < sizeC c) || c == 119 || c == 85)) := rfl
  generalize (c == 119) = b1 at *
  generalize (c == 85) = b2 at *
  by_cases h : 0 < sizeC c
  · have hi : (0 : Int) < (sizeC c : Int) := by omega
    have HE2 : Hid (numC c = true) := by show _ = _; rw [HE.out, decide_eq_true h]; rfl
    clear h
    go_enter Tryz.func33, Tryz.ntmps33
    go_wp2_with (go_at_call 34; refine (C _).mono ?_; rintro e w1 ⟨rfl, rfl⟩)
    go_ret
    exact ⟨by rw [HE2.out]; rfl, rfl⟩
  · have h0 : sizeC c = 0 := by omega
    rw [h0] at C HE
    clear h
    cases b1 <;> cases b2
    all_goals (
      go_enter Tryz.func33, Tryz.ntmps33
      go_wp2_with (go_at_call 34; refine (C _).mono ?_; rintro e w1 ⟨rfl, rfl⟩)
      go_ret
      exact ⟨by rw [HE.out]; rfl, rfl⟩)
end Go.Proofs.YtmbnckmhngijdaaGreatDoor
