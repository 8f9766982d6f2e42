/- Contracts of wordPower and of slices.Reverse of bytes. -/
import Derived.Test.YtifhiefdhhmdeaaGreatDoorK
import Derived.RegionTactic
namespace Go.Proofs.YtifhiefdhhmdeaaGreatDoor
open Go Go.RowKit

def WpR (b : Nat) (w : World) (e : Ending) (w' : World) : Prop := ∃ p : Nat, 1 ≤ p ∧ p ≤ 32 ∧ b ^ p < 4294967296 ∧ e = .returned (.tuple #[.int .u32 ((b ^ p : Nat) : Int), .int .i64 p]) ∧ w = w'
theorem pow_places {b p : Nat} (hb : 2 ≤ b) (h : b ^ p < 4294967296) : p ≤ 32 := by
  rcases Nat.lt_or_ge 32 p with h1 | h1
  · have h2 : 2 ^ 33 ≤ b ^ p := Nat.le_trans (Nat.pow_le_pow_right (by omega) h1) (Nat.pow_le_pow_left hb p)
    have : (2 : Nat) ^ 33 = 8589934592 := by decide
    omega
  · exact h1
set_option maxRecDepth 100000 in
set_option maxHeartbeats 1000000 in
theorem t150 (b : Nat) (w : World) (hb0 : 2 ≤ b) (hb : b ≤ 36) :
    Calls Tryz.prog 150 #[.int .i64 b] w (WpR b w) := by
  go_enter Tryz.func150, Tryz.ntmps150
  go_wp2
  go_loop [4, 3] (fun g p => ∃ k G : Nat, G = b ^ k ∧ g = .int .u64 G ∧ p = .int .i64 k ∧ k ≤ 32 ∧ 1 ≤ G ∧ G < 4294967296 ∧ (k = 0 → G = 1)) (fun g _ => 4294967296 - (intOf g).toNat)
  case atStart => exact ⟨0, 1, rfl, rfl, rfl, by omega, by omega, by omega, fun _ => rfl⟩
  case round =>
    obtain ⟨k, G, hG, rfl, rfl, hk, hG1, hG2, hz⟩ := hrel
    have HG := Lib.hid hG
    have HZ := Lib.hid hz
    have hm : G * b ≤ 154618822656 := Nat.le_trans (Nat.mul_le_mul (Nat.le_of_lt hG2) hb) (by decide)
    have hm0 : (0 : Int) ≤ (G : Int) * (b : Int) := Int.mul_nonneg (by omega) (by omega)
    have hm1 : (G : Int) * (b : Int) ≤ 154618822656 := by have h := Int.ofNat_le.2 hm; rw [Int.natCast_mul] at h; omega
    have hgb : G < G * b := by
      have : G * 2 ≤ G * b := Nat.mul_le_mul_left _ hb0
      omega
    clear hG hz hm
    by_cases hlt : G * b < 4294967296
    · have hl1 : (G : Int) * (b : Int) ≤ 4294967295 := by have h := Int.ofNat_lt.2 hlt; rw [Int.natCast_mul] at h; omega
      have HC : Hid ((G : Int) * (b : Int) = ((G * b : Nat) : Int)) := (Int.natCast_mul _ _).symm
      have hk2 : k + 1 ≤ 32 := pow_places hb0 (show b ^ (k + 1) < 4294967296 by rw [Nat.pow_succ, ← HG.out]; exact hlt)
      have HM : Hid (4294967296 - (((G * b : Nat) : Int)).toNat < 4294967296 - ((G : Int)).toNat) := by show _ < _; omega
      go_wp2
      go_round
      case rel => exact ⟨k + 1, G * b, by rw [Nat.pow_succ, ← HG.out], congrArg (Value.int .u64) HC.out, by go_num, hk2, by omega, hlt, fun h => absurd h (by omega)⟩
      case measure => simp only [intOf]; rw [HC.out]; exact HM.out
    · have hl1 : (4294967295 : Int) < (G : Int) * (b : Int) := by have h := Int.ofNat_le.2 (Nat.le_of_not_lt hlt); rw [Int.natCast_mul] at h; omega
      have hk1 : 1 ≤ k := by
        rcases Nat.eq_zero_or_pos k with h | h
        · have := HZ.out h; subst this; omega
        · exact h
      clear hlt
      go_wp2
      go_ret2
      exact ⟨k, hk1, hk, by rw [← HG.out]; exact hG2, by rw [HG.out]; rfl, rfl⟩
end Go.Proofs.YtifhiefdhhmdeaaGreatDoor
