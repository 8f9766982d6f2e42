/- The reference's made numbers: plain part. -/
import Derived.Test.YtifhiefdhhmdeaaGreatDoorMc
import Derived.Lib.ItoaNum
namespace Go.Proofs.YtifhiefdhhmdeaaGreatDoor
open Go

def addC (n : Nat) (b : List UInt8) (c : UInt8) : List UInt8 := if b.length < n ∧ c ≠ 45 ∧ (b ≠ [] ∨ c ≠ 48) then b ++ [c] else b
def addS (n : Nat) (b s : List UInt8) : List UInt8 := s.foldl (addC n) b
def addI (n : Nat) (b : List UInt8) (x : Int) : List UInt8 := addS n b (Lib.itoa x)
def madeB (n : Nat) (l : List Int) : List UInt8 := l.foldl (addI n) []
def madeL (n : Nat) (l : List Int) : List UInt8 := if madeB n l = [] then [48] else if l.headD 0 < 0 then 45 :: madeB n l else madeB n l
theorem addC_full {n : Nat} {b : List UInt8} (h : n ≤ b.length) (c : UInt8) : addC n b c = b := by unfold addC; rw [if_neg (by omega)]
theorem addS_full {n : Nat} {b : List UInt8} (h : n ≤ b.length) (s : List UInt8) : addS n b s = b := by
  unfold addS
  induction s with
  | nil => rfl
  | cons c s ih => rw [List.foldl_cons, addC_full h, ih]
theorem addI_full {n : Nat} {b : List UInt8} (h : n ≤ b.length) (l : List Int) : l.foldl (addI n) b = b := by
  induction l with
  | nil => rfl
  | cons c s ih => rw [List.foldl_cons, addI, addS_full h, ih]
/-- digits, the first of them not 0 -/
structure Good (n : Nat) (b : List UInt8) : Prop where
  len : b.length ≤ n
  dig : ∀ c ∈ b, isD c = true
  head : b.head? ≠ some 48
theorem good_nil (n : Nat) : Good n [] := ⟨Nat.zero_le _, (fun c h => by cases h), by simp⟩
theorem good_addC {n : Nat} {b : List UInt8} (h : Good n b) (c : UInt8) (hc : c = 45 ∨ isD c = true) : Good n (addC n b c) := by
  unfold addC
  split
  · rename_i h1
    refine ⟨by rw [List.length_append]; simp; omega, fun x hx => ?_, ?_⟩
    · rcases List.mem_append.1 hx with hx | hx
      · exact h.dig x hx
      · rw [List.mem_singleton.1 hx]
        rcases hc with hc | hc
        · exact absurd hc h1.2.1
        · exact hc
    · cases b with
      | nil =>
        rcases h1.2.2 with h2 | h2
        · exact absurd rfl h2
        · simpa using h2
      | cons x b => exact h.head
  · exact h
theorem dec_dig (u : Nat) : ∀ c ∈ Lib.decDigits u, isD c = true := by
  induction u using Nat.strongRecOn with
  | _ u ih =>
    intro c hc
    rw [Lib.decDigits] at hc
    split at hc
    · rename_i h
      rw [List.mem_singleton.1 hc, ← chr10 u h]
      exact isD_chr u h
    · rcases List.mem_append.1 hc with hc | hc
      · exact ih _ (by omega) c hc
      · rw [List.mem_singleton.1 hc, ← chr10 _ (Nat.mod_lt _ (by omega))]
        exact isD_chr _ (Nat.mod_lt _ (by omega))
theorem itoa_char (x : Int) : ∀ c ∈ Lib.itoa x, c = 45 ∨ isD c = true := by
  intro c hc
  unfold Lib.itoa at hc
  split at hc
  · rcases List.mem_cons.1 hc with h | h
    · exact .inl h
    · exact .inr (dec_dig _ c h)
  · exact .inr (dec_dig _ c hc)
theorem good_addS {n : Nat} (s : List UInt8) (hs : ∀ c ∈ s, c = 45 ∨ isD c = true) : ∀ {b : List UInt8}, Good n b → Good n (addS n b s) := by
  unfold addS
  induction s with
  | nil => intro b h; exact h
  | cons c s ih => intro b h; exact ih (fun x hx => hs x (by simp [hx])) (good_addC h c (hs c (by simp)))
theorem good_made (n : Nat) (l : List Int) : Good n (madeB n l) := by
  unfold madeB
  suffices H : ∀ (l : List Int) (b : List UInt8), Good n b → Good n (l.foldl (addI n) b) from H l [] (good_nil n)
  intro l
  induction l with
  | nil => intro b h; exact h
  | cons x l ih => intro b h; exact ih _ (good_addS _ (itoa_char x) h)
/-- what is made is a number of at most so many digits -/
theorem made_num (n : Nat) (_hn : 1 ≤ n) (l : List Int) : ∃ z : Int, madeL n l = txtZ 10 z ∧ (dgs 10 z.natAbs).length ≤ n := by
  have hg := good_made n l
  unfold madeL
  by_cases h0 : madeB n l = []
  · rw [if_pos h0]
    exact ⟨0, rfl, by simp⟩
  · rw [if_neg h0]
    obtain ⟨N, hN⟩ := txt_of_digits (madeB n l) h0 (List.all_eq_true.2 hg.dig) (.inl hg.head)
    have hN0 : N ≠ 0 := by
      rintro rfl
      apply hg.head
      rw [hN]; rfl
    have hlen : (dgs 10 N).length ≤ n := by
      have h1 := hg.len
      rw [hN, txt_length 10 N (by omega)] at h1
      omega
    split
    · refine ⟨-(N : Int), ?_, by simpa using hlen⟩
      unfold txtZ
      rw [if_pos (by omega), Int.natAbs_neg, Int.natAbs_natCast, hN]
    · refine ⟨N, ?_, by simpa using hlen⟩
      unfold txtZ
      rw [if_neg (by omega), Int.natAbs_natCast, hN]
end Go.Proofs.YtifhiefdhhmdeaaGreatDoor
