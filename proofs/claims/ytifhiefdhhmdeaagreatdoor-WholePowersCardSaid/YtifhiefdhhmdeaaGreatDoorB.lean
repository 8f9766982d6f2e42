/- Contracts of math/bits' sums with a carry and of comparing two words. -/
import Derived.Test.YtifhiefdhhmdeaaGreatDoorA
namespace Go.Proofs.YtifhiefdhhmdeaaGreatDoor
open Go Go.RowKit

theorem ofInt_nat {n : Nat} (v : BitVec n) : BitVec.ofInt n (v.toNat : Int) = v := by
  apply BitVec.eq_of_toNat_eq
  rw [BitVec.toNat_ofInt]
  have := v.isLt
  have h : ((v.toNat : Int) % ((2 ^ n : Nat) : Int)) = v.toNat := Int.emod_eq_of_lt (by omega) (by exact_mod_cast this)
  rw [h]; simp
theorem wrap32 (v : BitVec 32) : IntKind.u32.wrap (v.toNat : Int) = v.toNat := by
  have := v.isLt; rw [IntKind.wrap_u32]; omega
theorem bits_and32 (x y : Int) : bits .and .u32 x y = (((BitVec.ofInt 32 x) &&& (BitVec.ofInt 32 y)).toNat : Int) := wrap32 _
theorem bits_or32 (x y : Int) : bits .or .u32 x y = (((BitVec.ofInt 32 x) ||| (BitVec.ofInt 32 y)).toNat : Int) := wrap32 _
theorem bits_xor32 (x y : Int) : bits .xor .u32 x y = (((BitVec.ofInt 32 x) ^^^ (BitVec.ofInt 32 y)).toNat : Int) := wrap32 _
theorem msb32 (v : BitVec 32) : v.toNat / 2147483648 = if v.msb then 1 else 0 := by
  have := v.isLt
  rw [BitVec.msb_eq_decide]
  simp only [decide_eq_true_eq, Nat.reduceSub, Nat.reducePow]
  split <;> omega
theorem borrow32 (x y c : Nat) (hx : x < 4294967296) (hy : y < 4294967296) (hc : c ≤ 1) :
    bits .or .u32 (bits .and .u32 (bits .xor .u32 IntKind.u32.max x) y) (bits .and .u32 (bits .xor .u32 IntKind.u32.max (bits .xor .u32 x y)) (((x : Int) - y - c) % 4294967296)) / 2147483648 = if x < y + c then 1 else 0 := by
  have hd : ∃ d : Nat, ((x : Int) - y - c) % 4294967296 = d ∧ d < 4294967296 ∧ (d = x - (y + c) ∨ x < y + c) ∧ (x < y + c → d = x + 4294967296 - (y + c)) := ⟨(((x : Int) - y - c) % 4294967296).toNat, by omega, by omega, by omega, by omega⟩
  obtain ⟨d, hd, hd1, hd2, hd3⟩ := hd
  rw [hd, bits_xor32, bits_xor32, bits_xor32, bits_and32, bits_and32, bits_or32]
  simp only [ofInt_nat]
  have hm : BitVec.ofInt 32 IntKind.u32.max = BitVec.allOnes 32 := by decide
  rw [hm]
  have hx' : (BitVec.ofInt 32 (x : Int)).msb = decide (2147483648 ≤ x) := by
    rw [BitVec.msb_eq_decide, BitVec.toNat_ofInt]
    simp only [Nat.reduceSub, Nat.reducePow]
    congr 1; apply propext; omega
  have hy' : (BitVec.ofInt 32 (y : Int)).msb = decide (2147483648 ≤ y) := by
    rw [BitVec.msb_eq_decide, BitVec.toNat_ofInt]
    simp only [Nat.reduceSub, Nat.reducePow]
    congr 1; apply propext; omega
  have hd' : (BitVec.ofInt 32 (d : Int)).msb = decide (2147483648 ≤ d) := by
    rw [BitVec.msb_eq_decide, BitVec.toNat_ofInt]
    simp only [Nat.reduceSub, Nat.reducePow]
    congr 1; apply propext; omega
  have h := msb32 (((BitVec.allOnes 32 ^^^ BitVec.ofInt 32 (x : Int)) &&& BitVec.ofInt 32 (y : Int)) ||| ((BitVec.allOnes 32 ^^^ (BitVec.ofInt 32 (x : Int) ^^^ BitVec.ofInt 32 (y : Int))) &&& BitVec.ofInt 32 (d : Int)))
  rw [BitVec.msb_or, BitVec.msb_and, BitVec.msb_and, BitVec.msb_xor, BitVec.msb_xor, BitVec.msb_xor, hx', hy', hd', BitVec.msb_allOnes (by omega)] at h
  generalize (((BitVec.allOnes 32 ^^^ BitVec.ofInt 32 (x : Int)) &&& BitVec.ofInt 32 (y : Int)) ||| ((BitVec.allOnes 32 ^^^ (BitVec.ofInt 32 (x : Int) ^^^ BitVec.ofInt 32 (y : Int))) &&& BitVec.ofInt 32 (d : Int))).toNat = z at h ⊢
  have : (z : Int) / 2147483648 = ((z / 2147483648 : Nat) : Int) := by omega
  rw [this, h]
  by_cases e1 : 2147483648 ≤ x <;> by_cases e2 : 2147483648 ≤ y <;> by_cases e3 : 2147483648 ≤ d <;> by_cases e4 : x < y + c <;> simp [e1, e2, e3, e4] <;> omega

theorem ret_pair {k k' : IntKind} {a b c d : Int} (h : a = c) (g : b = d) : Ending.returned (.tuple #[.int k a, .int k' b]) = .returned (.tuple #[.int k c, .int k' d]) := by rw [h, g]

theorem t184 (x y c : Nat) (w : World) (hx : x < 4294967296) (hy : y < 4294967296) (hc : c ≤ 1) :
    Calls Tryz.prog 184 #[.int .u32 x, .int .u32 y, .int .u32 c] w fun e w' => e = .returned (.tuple #[.int .u32 (((x + y + c) % 4294967296 : Nat) : Int), .int .u32 (((x + y + c) / 4294967296 : Nat) : Int)]) ∧ w = w' := by
  go_enter Tryz.func184, Tryz.ntmps184
  go_wp2
  go_ret2
  exact ⟨ret_pair (by omega) (by omega), rfl⟩
def brw (x y c : Nat) : Nat := if x < y + c then 1 else 0
theorem brw_le (x y c : Nat) : brw x y c ≤ 1 := by unfold brw; split <;> omega
theorem t186 (x y c : Nat) (w : World) (hx : x < 4294967296) (hy : y < 4294967296) (hc : c ≤ 1) :
    Calls Tryz.prog 186 #[.int .u32 x, .int .u32 y, .int .u32 c] w fun e w' => e = .returned (.tuple #[.int .u32 (((x + 4294967296 - (y + c)) % 4294967296 : Nat) : Int), .int .u32 ((brw x y c : Nat) : Int)]) ∧ w = w' := by
  have hb := Lib.hid (borrow32 x y c hx hy hc)
  go_enter Tryz.func186, Tryz.ntmps186
  go_wp2
  go_ret2
  exact ⟨ret_pair (by omega) (hb.out.trans (by unfold brw; split <;> rfl)), rfl⟩
theorem t185 (x : Int) (w : World) : Calls Tryz.prog 185 #[.int .u32 x] w fun e w' => e = .returned (.bool false) ∧ w = w' := by
  go_enter Tryz.func185, Tryz.ntmps185
  go_wp2
  go_ret
  trivial
theorem t166 (x : Int) (w : World) : Calls Tryz.prog 166 #[.int .i64 x] w fun e w' => e = .returned (.bool false) ∧ w = w' := by
  go_enter Tryz.func166, Tryz.ntmps166
  go_wp2
  go_ret
  trivial
def cmpN (x y : Nat) : Int := if x < y then -1 else if y < x then 1 else 0
theorem cmpN_lt {x y : Nat} (h : x < y) : cmpN x y = -1 := by simp [cmpN, h]
theorem cmpN_gt {x y : Nat} (h : y < x) : cmpN x y = 1 := by simp [cmpN, h, show ¬ x < y by omega]
theorem cmpN_eq {x y : Nat} (h : x = y) : cmpN x y = 0 := by simp [cmpN, h]
theorem t162 (x y : Nat) (w : World) :
    Calls Tryz.prog 162 #[.int .u32 x, .int .u32 y] w fun e w' => e = .returned (.int .i64 (cmpN x y)) ∧ w = w' := by
  rcases Nat.lt_trichotomy x y with h | h | h
  · have H := Lib.hid (cmpN_lt h)
    go_enter Tryz.func162, Tryz.ntmps162
    go_wp2_with (go_at_call 185; refine (t185 _ _).mono ?_; rintro e w' ⟨rfl, rfl⟩)
    go_ret
    rw [H.out]; trivial
  · subst h
    have H := Lib.hid (cmpN_eq (rfl : x = x))
    go_enter Tryz.func162, Tryz.ntmps162
    go_wp2_with (go_at_call 185; refine (t185 _ _).mono ?_; rintro e w' ⟨rfl, rfl⟩)
    go_ret
    rw [H.out]; trivial
  · have H := Lib.hid (cmpN_gt h)
    have h' : ¬ x < y := by omega
    go_enter Tryz.func162, Tryz.ntmps162
    go_wp2_with (go_at_call 185; refine (t185 _ _).mono ?_; rintro e w' ⟨rfl, rfl⟩)
    go_ret
    rw [H.out]; trivial
theorem t142 (x y : Nat) (w : World) :
    Calls Tryz.prog 142 #[.int .i64 x, .int .i64 y] w fun e w' => e = .returned (.int .i64 (cmpN x y)) ∧ w = w' := by
  rcases Nat.lt_trichotomy x y with h | h | h
  · have H := Lib.hid (cmpN_lt h)
    go_enter Tryz.func142, Tryz.ntmps142
    go_wp2_with (go_at_call 166; refine (t166 _ _).mono ?_; rintro e w' ⟨rfl, rfl⟩)
    go_ret
    rw [H.out]; trivial
  · subst h
    have H := Lib.hid (cmpN_eq (rfl : x = x))
    go_enter Tryz.func142, Tryz.ntmps142
    go_wp2_with (go_at_call 166; refine (t166 _ _).mono ?_; rintro e w' ⟨rfl, rfl⟩)
    go_ret
    rw [H.out]; trivial
  · have H := Lib.hid (cmpN_gt h)
    have h' : ¬ x < y := by omega
    go_enter Tryz.func142, Tryz.ntmps142
    go_wp2_with (go_at_call 166; refine (t166 _ _).mono ?_; rintro e w' ⟨rfl, rfl⟩)
    go_ret
    rw [H.out]; trivial
end Go.Proofs.YtifhiefdhhmdeaaGreatDoor
