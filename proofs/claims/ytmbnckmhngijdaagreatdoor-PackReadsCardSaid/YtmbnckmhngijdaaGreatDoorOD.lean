/- The reference's One and the program's way come to the same. -/
import Derived.Test.YtmbnckmhngijdaaGreatDoorOC
namespace Go.Proofs.YtmbnckmhngijdaaGreatDoor.One1
open Go Go.RowKit Go.Shelf

theorem begins_iff (bits n long : Nat) : beginsN bits n long = true ↔ loN bits n long ≤ hiN bits n long ∧ ¬ (55296 ≤ loN bits n long ∧ hiN bits n long ≤ 57343) := by
  unfold beginsN
  simp only [Bool.and_eq_true, decide_eq_true_eq, Bool.not_eq_true', Bool.and_eq_false_iff, decide_eq_false_iff_not]
  omega
theorem b12 (b : Nat) (h : b < 32) : beginsN b 1 2 = true ↔ 2 ≤ b := by
  rw [begins_iff]; simp only [loN, hiN, mulN, topN, leastN, Nat.reduceSub, if_true]; omega
theorem b22 (b : Nat) (h : b < 2048) (h2 : 128 ≤ b) : beginsN b 2 2 = true := by
  rw [begins_iff]; simp only [loN, hiN, mulN, topN, leastN, Nat.reduceSub, if_true]; omega
theorem b13 (b : Nat) (h : b < 16) : beginsN b 1 3 = true := by
  rw [begins_iff]; simp only [loN, hiN, mulN, topN, leastN, Nat.reduceSub, if_true, Nat.reduceEqDiff, if_false]; omega
theorem b23 (b : Nat) (h : b < 1024) : beginsN b 2 3 = true ↔ 32 ≤ b ∧ ¬ (864 ≤ b ∧ b ≤ 895) := by
  rw [begins_iff]; simp only [loN, hiN, mulN, topN, leastN, Nat.reduceSub, if_true, Nat.reduceEqDiff, if_false]; omega
theorem b33 (b : Nat) (h : b < 65536) (h2 : 2048 ≤ b) (h3 : ¬ (55296 ≤ b ∧ b ≤ 57343)) : beginsN b 3 3 = true := by
  rw [begins_iff]; simp only [loN, hiN, mulN, topN, leastN, Nat.reduceSub, if_true, Nat.reduceEqDiff, if_false]; omega
theorem b14 (b : Nat) (h : b < 8) : beginsN b 1 4 = true ↔ b ≤ 4 := by
  rw [begins_iff]; simp only [loN, hiN, mulN, topN, leastN, Nat.reduceSub, Nat.reduceEqDiff, if_false]; omega
theorem b24 (b : Nat) (h : b < 512) : beginsN b 2 4 = true ↔ 16 ≤ b ∧ b ≤ 271 := by
  rw [begins_iff]; simp only [loN, hiN, mulN, topN, leastN, Nat.reduceSub, Nat.reduceEqDiff, if_false]; omega
theorem b34 (b : Nat) (h : 1024 ≤ b) (h2 : b ≤ 17407) : beginsN b 3 4 = true := by
  rw [begins_iff]; simp only [loN, hiN, mulN, topN, leastN, Nat.reduceSub, Nat.reduceEqDiff, if_false]; omega
theorem b44 (b : Nat) (h : 65536 ≤ b) (h2 : b ≤ 1114111) : beginsN b 4 4 = true := by
  rw [begins_iff]; simp only [loN, hiN, mulN, topN, leastN, Nat.reduceSub, Nat.reduceEqDiff, if_false]; omega
theorem ok2_iff (b0 b1 : Nat) : ok2 b0 b1 = true ↔ lo2 b0 ≤ b1 ∧ b1 ≤ hi2 b0 := by simp [ok2]
theorem okC_iff (b : Nat) : okC b = true ↔ 128 ≤ b ∧ b ≤ 191 := by simp [okC]

theorem end2 (s : ByteArray) (b0 : Nat) (h1 : 194 ≤ b0) (h2 : b0 < 224) :
    endR 2 (contR s 2 1 1 (b0 - 192)) = (if 1 < s.size ∧ okC (s.get! 1).toNat = true then (2, (((b0 - 192) * 64 + ((s.get! 1).toNat - 128) : Nat) : Int)) else (1, -1)) := by
  generalize hb1 : (s.get! 1).toNat = b1
  by_cases c : 1 < s.size ∧ okC b1 = true
  · have h3 := (okC_iff b1).1 c.2
    rw [if_pos c, contR_go s 2 0 1 _ ⟨by omega, c.1, by omega, by omega, by rw [hb1]; exact b22 _ (by omega) (by omega)⟩, hb1, contR]
    simp only [endR, Nat.lt_irrefl, if_false, Nat.reduceAdd]
    rw [show (b0 - 192) * 64 + b1 - 128 = (b0 - 192) * 64 + (b1 - 128) by omega]
  · rw [if_neg c, contR_stop s 2 1 1 _ (fun h => c ⟨h.2.1, (okC_iff b1).2 (by omega)⟩)]
    simp [endR]
theorem end3 (s : ByteArray) (b0 : Nat) (h1 : 224 ≤ b0) (h2 : b0 < 240) :
    endR 3 (contR s 3 2 1 (b0 - 224)) = (if 1 < s.size ∧ ok2 b0 (s.get! 1).toNat = true then
      (if 2 < s.size ∧ okC (s.get! 2).toNat = true then (3, (((b0 - 224) * 4096 + ((s.get! 1).toNat - 128) * 64 + ((s.get! 2).toNat - 128) : Nat) : Int)) else (2, -1)) else (1, -1)) := by
  generalize hb1 : (s.get! 1).toNat = b1
  generalize hb2 : (s.get! 2).toNat = b2
  have hL := lo2_cases b0
  have hH := hi2_cases b0
  by_cases c : 1 < s.size ∧ ok2 b0 b1 = true
  · have h3 := (ok2_iff b0 b1).1 c.2
    rw [if_pos c, contR_go s 3 1 1 _ ⟨by omega, c.1, by omega, by omega, by rw [hb1]; exact (b23 _ (by omega)).2 (by omega)⟩, hb1]
    by_cases d : 2 < s.size ∧ okC b2 = true
    · have h4 := (okC_iff b2).1 d.2
      rw [if_pos d, contR_go s 3 0 2 _ ⟨by omega, d.1, by omega, by omega, by rw [hb2]; exact b33 _ (by omega) (by omega) (by omega)⟩, hb2, contR]
      simp only [endR, Nat.lt_irrefl, if_false, Nat.reduceAdd]
      rw [show ((b0 - 224) * 64 + b1 - 128) * 64 + b2 - 128 = (b0 - 224) * 4096 + (b1 - 128) * 64 + (b2 - 128) by omega]
    · rw [if_neg d, contR_stop s 3 1 2 _ (fun h => d ⟨h.2.1, (okC_iff b2).2 (by omega)⟩)]
      simp [endR]
  · rw [if_neg c, contR_stop s 3 2 1 _ (fun h => c ⟨h.2.1, (ok2_iff b0 b1).2 (by
      have h5 := (b23 _ (by omega)).1 h.2.2.2.2
      omega)⟩)]
    simp [endR]
theorem end4 (s : ByteArray) (b0 : Nat) (h1 : 240 ≤ b0) (h2 : b0 < 245) :
    endR 4 (contR s 4 3 1 (b0 - 240)) = (if 1 < s.size ∧ ok2 b0 (s.get! 1).toNat = true then
      (if 2 < s.size ∧ okC (s.get! 2).toNat = true then
        (if 3 < s.size ∧ okC (s.get! 3).toNat = true then (4, (((b0 - 240) * 262144 + ((s.get! 1).toNat - 128) * 4096 + ((s.get! 2).toNat - 128) * 64 + ((s.get! 3).toNat - 128) : Nat) : Int)) else (3, -1)) else (2, -1)) else (1, -1)) := by
  generalize hb1 : (s.get! 1).toNat = b1
  generalize hb2 : (s.get! 2).toNat = b2
  generalize hb3 : (s.get! 3).toNat = b3
  have hL := lo2_cases b0
  have hH := hi2_cases b0
  by_cases c : 1 < s.size ∧ ok2 b0 b1 = true
  · have h3 := (ok2_iff b0 b1).1 c.2
    rw [if_pos c, contR_go s 4 2 1 _ ⟨by omega, c.1, by omega, by omega, by rw [hb1]; exact (b24 _ (by omega)).2 (by omega)⟩, hb1]
    by_cases d : 2 < s.size ∧ okC b2 = true
    · have h4 := (okC_iff b2).1 d.2
      rw [if_pos d, contR_go s 4 1 2 _ ⟨by omega, d.1, by omega, by omega, by rw [hb2]; exact b34 _ (by omega) (by omega)⟩, hb2]
      by_cases e : 3 < s.size ∧ okC b3 = true
      · have h5 := (okC_iff b3).1 e.2
        rw [if_pos e, contR_go s 4 0 3 _ ⟨by omega, e.1, by omega, by omega, by rw [hb3]; exact b44 _ (by omega) (by omega)⟩, hb3, contR]
        simp only [endR, Nat.lt_irrefl, if_false, Nat.reduceAdd]
        rw [show (((b0 - 240) * 64 + b1 - 128) * 64 + b2 - 128) * 64 + b3 - 128 = (b0 - 240) * 262144 + (b1 - 128) * 4096 + (b2 - 128) * 64 + (b3 - 128) by omega]
      · rw [if_neg e, contR_stop s 4 1 3 _ (fun h => e ⟨h.2.1, (okC_iff b3).2 (by omega)⟩)]
        simp [endR]
    · rw [if_neg d, contR_stop s 4 2 2 _ (fun h => d ⟨h.2.1, (okC_iff b2).2 (by omega)⟩)]
      simp [endR]
  · rw [if_neg c, contR_stop s 4 3 1 _ (fun h => c ⟨h.2.1, (ok2_iff b0 b1).2 (by
      have h5 := (b24 _ (by omega)).1 h.2.2.2.2
      omega)⟩)]
    simp [endR]

theorem oneRef_eq (s : ByteArray) : oneRef s = one s := by
  have l0 := (s.get! 0).toNat_lt
  unfold oneRef one oneN
  by_cases h1 : (s.get! 0).toNat < 128
  · rw [if_pos h1, if_pos h1]
  rw [if_neg h1, if_neg h1]
  by_cases h2 : (s.get! 0).toNat < 192 ∨ 248 ≤ (s.get! 0).toNat
  · rw [if_pos h2]
    rcases h2 with h2 | h2
    · rw [if_pos (by omega)]
    · rw [if_neg (by omega), if_neg (by omega), if_neg (by omega), if_neg (by omega)]
  rw [if_neg h2]
  by_cases h3 : (s.get! 0).toNat < 224
  · rw [if_pos h3]
    by_cases h4 : (s.get! 0).toNat < 194
    · rw [if_pos h4, if_pos]
      cases hb : beginsN ((s.get! 0).toNat - 192) 1 2 with
      | false => rfl
      | true => have := (b12 _ (by omega)).1 hb; omega
    · rw [if_neg h4, if_pos h3, if_neg (by rw [(b12 _ (by omega)).2 (by omega)]; simp), end2 s _ (by omega) h3]
  rw [if_neg h3, if_neg (show ¬ (s.get! 0).toNat < 194 by omega), if_neg h3]
  by_cases h5 : (s.get! 0).toNat < 240
  · rw [if_pos h5, if_pos h5, if_neg (by rw [b13 _ (by omega)]; simp), end3 s _ (by omega) h5]
  rw [if_neg h5, if_neg h5]
  by_cases h6 : (s.get! 0).toNat < 245
  · rw [if_pos h6, if_neg (by rw [(b14 _ (by omega)).2 (by omega)]; simp), end4 s _ (by omega) h6]
  · rw [if_neg h6, if_pos]
    cases hb : beginsN ((s.get! 0).toNat - 240) 1 4 with
    | false => rfl
    | true => have := (b14 _ (by omega)).1 hb; omega
end Go.Proofs.YtmbnckmhngijdaaGreatDoor.One1
