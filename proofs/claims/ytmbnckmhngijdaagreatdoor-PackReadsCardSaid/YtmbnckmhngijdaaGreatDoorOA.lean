/- Plain arithmetic of characters: what the program's way and the document's way of reading one character of a string come to. No program here. -/
import Derived.Lib.DecodeN
namespace Go.Proofs.YtmbnckmhngijdaaGreatDoor.One1
open Go Go.Lib

def lo2 (b : Nat) : Nat := if b = 224 then 160 else if b = 240 then 144 else 128
def hi2 (b : Nat) : Nat := if b = 237 then 159 else if b = 244 then 143 else 191
def okC (b : Nat) : Bool := decide (128 ≤ b) && decide (b ≤ 191)
def ok2 (b0 b1 : Nat) : Bool := decide (lo2 b0 ≤ b1) && decide (b1 ≤ hi2 b0)
/-- One character, or one row of broken bytes: its size and its code (-1: none), of n bytes that begin b0 b1 b2 b3. -/
def oneN (n b0 b1 b2 b3 : Nat) : Nat × Int :=
  if b0 < 128 then (1, (b0 : Int))
  else if b0 < 194 then (1, -1)
  else if b0 < 224 then (if 1 < n ∧ okC b1 = true then (2, (((b0 - 192) * 64 + (b1 - 128) : Nat) : Int)) else (1, -1))
  else if b0 < 240 then
    (if 1 < n ∧ ok2 b0 b1 = true then
      (if 2 < n ∧ okC b2 = true then (3, (((b0 - 224) * 4096 + (b1 - 128) * 64 + (b2 - 128) : Nat) : Int)) else (2, -1))
     else (1, -1))
  else if b0 < 245 then
    (if 1 < n ∧ ok2 b0 b1 = true then
      (if 2 < n ∧ okC b2 = true then
        (if 3 < n ∧ okC b3 = true then (4, (((b0 - 240) * 262144 + (b1 - 128) * 4096 + (b2 - 128) * 64 + (b3 - 128) : Nat) : Int)) else (3, -1))
       else (2, -1))
     else (1, -1))
  else (1, -1)
def one (s : ByteArray) : Nat × Int := oneN s.size (s.get! 0).toNat (s.get! 1).toNat (s.get! 2).toNat (s.get! 3).toNat

/-- What FullRuneInString says of n bytes. -/
def fullN (n b0 b1 b2 : Nat) : Bool :=
  decide (firstT b0 % 8 ≤ n) || (decide (1 < n) && (decide (b1 < accLo (firstT b0 / 16)) || decide (accHi (firstT b0 / 16) < b1))) || (decide (2 < n) && (decide (b2 < 128) || decide (191 < b2)))
/-- The size that brokenSize comes to. -/
def brokenN (n b0 b1 b2 : Nat) : Nat :=
  if n ≤ 1 ∨ fullN 2 b0 b1 b2 = true then 1 else if n ≤ 2 ∨ fullN 3 b0 b1 b2 = true then 2 else if n ≤ 3 ∨ fullN 4 b0 b1 b2 = true then 3 else 4

theorem oneN_bounds (n b0 b1 b2 b3 : Nat) (hn : 1 ≤ n) : 1 ≤ (oneN n b0 b1 b2 b3).1 ∧ (oneN n b0 b1 b2 b3).1 ≤ n ∧ (oneN n b0 b1 b2 b3).1 ≤ 4 := by
  unfold oneN
  repeat' split
  all_goals first | (simp only; omega) | omega

theorem oneN_code (n b0 b1 b2 b3 : Nat) (h1 : b1 < 256) (h2 : b2 < 256) (h3 : b3 < 256) : -1 ≤ (oneN n b0 b1 b2 b3).2 ∧ (oneN n b0 b1 b2 b3).2 ≤ 1114111 := by
  unfold oneN ok2 okC lo2 hi2
  simp only [Bool.and_eq_true, decide_eq_true_eq]
  repeat' split
  all_goals (simp only; omega)

theorem lo2_cases (b : Nat) : (b = 224 ∧ lo2 b = 160) ∨ (b = 240 ∧ lo2 b = 144) ∨ (b ≠ 224 ∧ b ≠ 240 ∧ lo2 b = 128) := by unfold lo2; split <;> (try split) <;> omega
theorem hi2_cases (b : Nat) : (b = 237 ∧ hi2 b = 159) ∨ (b = 244 ∧ hi2 b = 143) ∨ (b ≠ 237 ∧ b ≠ 244 ∧ hi2 b = 191) := by unfold hi2; split <;> (try split) <;> omega
set_option maxHeartbeats 4000000 in
/-- Where the decoder finds a character, it is this one. -/
theorem decode_one (n b0 b1 b2 b3 : Nat) (_hn : 1 ≤ n) (h0 : b0 < 256) (h1 : b1 < 256) (h2 : b2 < 256) (h3 : b3 < 256) (h : 0 ≤ (oneN n b0 b1 b2 b3).2) :
    (((decodeN n b0 b1 b2 b3).1 : Int) = (oneN n b0 b1 b2 b3).2 ∧ (decodeN n b0 b1 b2 b3).2 = (oneN n b0 b1 b2 b3).1) ∧ ¬ ((decodeN n b0 b1 b2 b3).1 = 65533 ∧ (decodeN n b0 b1 b2 b3).2 = 1) := by
  have hL := lo2_cases b0
  have hH := hi2_cases b0
  revert h hL hH
  unfold oneN ok2 okC
  generalize lo2 b0 = L
  generalize hi2 b0 = H
  simp only [Bool.and_eq_true, decide_eq_true_eq]
  intro h hL hH
  revert h
  repeat' split
  all_goals (intro h; first | (exfalso; simp only at h; omega) | (unfold decodeN; repeat' split) )
  all_goals (dsimp only; omega)
theorem firstT_all (b : Nat) : (b < 128 ∧ firstT b = 240) ∨ (128 ≤ b ∧ b < 194 ∧ firstT b = 241) ∨ (194 ≤ b ∧ b < 224 ∧ firstT b = 2) ∨ (b = 224 ∧ firstT b = 19) ∨ (b = 237 ∧ firstT b = 35) ∨
    (225 ≤ b ∧ b < 240 ∧ b ≠ 237 ∧ firstT b = 3) ∨ (b = 240 ∧ firstT b = 52) ∨ (241 ≤ b ∧ b < 244 ∧ firstT b = 4) ∨ (b = 244 ∧ firstT b = 68) ∨ (245 ≤ b ∧ firstT b = 241) := by
  unfold firstT
  repeat' split
  all_goals omega
set_option maxHeartbeats 4000000 in
/-- Where there is none, the decoder says so. -/
theorem decode_none (n b0 b1 b2 b3 : Nat) (_hn : 1 ≤ n) (h0 : b0 < 256) (h1 : b1 < 256) (h2 : b2 < 256) (h3 : b3 < 256) (h : (oneN n b0 b1 b2 b3).2 < 0) :
    decodeN n b0 b1 b2 b3 = (65533, 1) ∧ brokenN n b0 b1 b2 = (oneN n b0 b1 b2 b3).1 := by
  have hL := lo2_cases b0
  have hH := hi2_cases b0
  revert h hL hH
  unfold oneN ok2 okC
  generalize lo2 b0 = L
  generalize hi2 b0 = H
  simp only [Bool.and_eq_true, decide_eq_true_eq]
  intro h hL hH
  constructor
  · revert h
    repeat' split
    all_goals (intro h; first | (exfalso; simp only at h; omega) | (unfold decodeN; repeat' split) )
    all_goals first | rfl | (exfalso; omega)
  · revert h
    unfold brokenN fullN
    simp only [Bool.or_eq_true, Bool.and_eq_true, decide_eq_true_eq]
    obtain ⟨F, hF⟩ : ∃ F, firstT b0 = F := ⟨_, rfl⟩
    have hT := firstT_all b0
    rw [hF] at hT ⊢
    by_cases e1 : b0 < 194
    · have hf : F % 8 ≤ 1 := by omega
      intro h; rw [if_pos (by omega)]
      by_cases c1 : b0 < 128
      · rw [if_pos c1] at h; dsimp only at h; omega
      · rw [if_neg c1, if_pos e1]
    by_cases e2 : 245 ≤ b0
    · have hf : F % 8 ≤ 1 := by omega
      intro h; rw [if_pos (by omega)]
      rw [if_neg (by omega), if_neg (by omega), if_neg (by omega), if_neg (by omega), if_neg (by omega)]
    have hx : (b0 < 224 ∧ F % 8 = 2) ∨ (224 ≤ b0 ∧ b0 < 240 ∧ F % 8 = 3) ∨ (240 ≤ b0 ∧ F % 8 = 4) := by omega
    have hA : accLo (F / 16) = L ∧ accHi (F / 16) = H := by
      rcases hT with ⟨_, h⟩ | ⟨_, _, h⟩ | ⟨_, _, h⟩ | ⟨_, h⟩ | ⟨_, h⟩ | ⟨_, _, _, h⟩ | ⟨_, h⟩ | ⟨_, _, h⟩ | ⟨_, h⟩ | ⟨_, h⟩ <;> subst h <;> simp only [accLo, accHi] <;> simp <;> omega
    rw [hA.1, hA.2]
    clear hT hA hF
    repeat' split
    all_goals (intro h; dsimp only at h ⊢; try omega)
end Go.Proofs.YtmbnckmhngijdaaGreatDoor.One1
