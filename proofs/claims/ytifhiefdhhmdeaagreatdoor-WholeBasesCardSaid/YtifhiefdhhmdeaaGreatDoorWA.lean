/- Plain mathematics: reading digits with lines between them, ints. -/
import Derived.Test.YtifhiefdhhmdeaaGreatDoorMa
import Derived.Lib.AtoiAll
namespace Go.Proofs.YtifhiefdhhmdeaaGreatDoor
open Go

/-- reading digits, a _ is let behind a digit, in front of one -/
def rdR (b : Nat) : Option UInt8 → List UInt8 → Nat → Option Nat
  | _, [], acc => some acc
  | p, c :: l, acc => if c = 95 ∧ (p ≠ none ∧ p ≠ some 95) ∧ (l ≠ [] ∧ l.head? ≠ some 95) then rdR b (some c) l acc else
      match digC b c with
      | none => none
      | some d => rdR b (some c) l (acc * b + d)
theorem dig_line : ∀ b, b < 37 → digC b 95 = none := by decide
theorem rdU_rdR (b : Nat) (hb : b < 37) : ∀ (l : List UInt8) (p : Option UInt8) (bd : Bool) (acc : Nat), (bd = true ↔ (p ≠ none ∧ p ≠ some 95)) → (l ≠ [] ∨ bd = true) → rdU b l bd acc = rdR b p l acc
  | [], p, bd, acc, _, h => by
    rcases h with h | h
    · exact absurd rfl h
    · subst h; rfl
  | c :: l, p, bd, acc, hp, _ => by
    unfold rdU rdR
    by_cases hc : c = 95
    · subst hc
      cases bd with
      | true =>
        have hq := hp.1 rfl
        rw [if_pos ⟨rfl, rfl⟩]
        cases l with
        | nil =>
          rw [if_neg (by simp), dig_line b hb]
          rfl
        | cons c2 l2 =>
          by_cases h2 : c2 = 95
          · subst h2
            rw [if_neg (by simp), dig_line b hb]
            unfold rdU
            rw [if_neg (by simp), dig_line b hb]
          · rw [if_pos ⟨rfl, hq, by simp, by simpa using h2⟩]
            exact rdU_rdR b hb (c2 :: l2) (some 95) false acc (by simp) (.inl (by simp))
      | false =>
        have hq : ¬ (p ≠ none ∧ p ≠ some 95) := fun h => by cases hp.2 h
        rw [if_neg (by simp), if_neg (fun h => hq h.2.1), dig_line b hb]
    · rw [if_neg (fun h => hc h.1), if_neg (fun h => hc h.1)]
      cases digC b c with
      | none => rfl
      | some d => exact rdU_rdR b hb l (some c) true (acc * b + d) (by simp [hc]) (.inr rfl)
theorem rdN_rdR (b : Nat) (hb : b < 37) (l : List UInt8) : rdN b l = if l = [] then none else rdR b none l 0 := by
  unfold rdN
  by_cases h : l = []
  · rw [if_pos h, h]; rfl
  · rw [if_neg h]
    exact rdU_rdR b hb l none false 0 (by simp) (.inl h)
/-- the number behind the first bytes of a number -/
def pv (l : List UInt8) : Nat := l.foldl (fun a c => if c = 45 then a else a * 10 + (c.toNat - 48)) 0
theorem pv_snoc (l : List UInt8) (c : UInt8) : pv (l ++ [c]) = if c = 45 then pv l else pv l * 10 + (c.toNat - 48) := by
  unfold pv; rw [List.foldl_append]; rfl
theorem pv_take (l : List UInt8) (k : Nat) (hk : k < l.length) : pv (l.take (k + 1)) = if l[k] = 45 then pv (l.take k) else pv (l.take k) * 10 + (l[k].toNat - 48) := by
  rw [List.take_succ_eq_append_getElem hk, pv_snoc]
theorem pv_le (l : List UInt8) (k : Nat) : pv (l.take k) ≤ pv l := by
  conv => rhs; rw [← List.take_append_drop k l]
  generalize l.take k = a
  generalize l.drop k = m
  clear l k
  induction m generalizing a with
  | nil => simp
  | cons c m ih =>
    have h1 := ih (a ++ [c])
    rw [pv_snoc, List.append_assoc] at h1
    refine Nat.le_trans ?_ h1
    split
    · exact Nat.le_refl _
    · omega
theorem pv_digits (ds : List Nat) (h : ∀ d ∈ ds, d < 10) (acc : Nat) : (ds.map chr).foldl (fun a c => if c = 45 then a else a * 10 + (c.toNat - 48)) acc = ds.foldl (fun a d => a * 10 + d) acc := by
  induction ds generalizing acc with
  | nil => rfl
  | cons d ds ih =>
    have hd := h d (by simp)
    have h1 := chr10n d hd
    have h2 : chr d ≠ 45 := fun h3 => by rw [h3] at h1; simp at h1; omega
    rw [List.map_cons, List.foldl_cons, List.foldl_cons, if_neg h2, ih (fun x hx => h x (by simp [hx])), h1, Nat.add_sub_cancel_left]
theorem pv_txt (N : Nat) : pv (txt 10 N) = N := by
  unfold txt
  split
  · rename_i h; rw [h]; rfl
  · unfold pv
    rw [pv_digits _ (fun d hd => dgs_lt (by omega) N d (List.mem_reverse.1 hd)), foldl_val, List.reverse_reverse, val_dgs (by omega)]
    simp
theorem pv_txtZ (z : Int) : pv (txtZ 10 z) = z.natAbs := by
  unfold txtZ
  split
  · exact pv_txt _
  · exact pv_txt _
/-- an int as a result: what is no int is told -/
def intV (z : Int) : Int := if -9223372036854775808 ≤ z ∧ z ≤ 9223372036854775807 then z else 0
def intE (z : Int) : Int := if -9223372036854775808 ≤ z ∧ z ≤ 9223372036854775807 then 0 else 2
theorem txtZ_mem {z : Int} {c : UInt8} (h : c ∈ txtZ 10 z) : c = 45 ∨ (48 ≤ c.toNat ∧ c.toNat ≤ 57) := by
  have H : ∀ N, c ∈ txt 10 N → (48 ≤ c.toNat ∧ c.toNat ≤ 57) := fun N hm => by
    obtain ⟨d, hd, rfl⟩ := txt_mem (by omega) (by omega) hm
    have := chr10n d hd
    omega
  unfold txtZ at h
  split at h
  · rcases List.mem_cons.1 h with h | h
    · exact .inl h
    · exact .inr (H _ h)
  · exact .inr (H _ h)
theorem foldl_ge (ds : List Nat) : ∀ acc, acc ≤ ds.foldl (fun a d => a * 10 + d) acc := by
  induction ds with
  | nil => intro acc; exact Nat.le_refl _
  | cons d ds ih => intro acc; rw [List.foldl_cons]; exact Nat.le_trans (by omega) (ih (acc * 10 + d))
theorem parse_digits (ds : List Nat) (h : ∀ d ∈ ds, d < 10) (acc : Nat) (ha : acc < 18446744073709551616) :
    Lib.parseUint10 acc (ds.map chr) = if ds.foldl (fun a d => a * 10 + d) acc < 18446744073709551616 then .ok (ds.foldl (fun a d => a * 10 + d) acc) else .range := by
  induction ds generalizing acc with
  | nil => rw [List.foldl_nil, if_pos ha]; rfl
  | cons d ds ih =>
    have hd := h d (by simp)
    have h1 := chr10n d hd
    have hge := foldl_ge ds (acc * 10 + d)
    rw [List.map_cons, List.foldl_cons, Lib.parseUint10, h1, if_pos (by omega), Nat.add_sub_cancel_left]
    by_cases h2 : 1844674407370955162 ≤ acc
    · rw [if_pos h2, if_neg (by omega)]
    · rw [if_neg h2]
      by_cases h3 : 18446744073709551616 ≤ acc * 10 + d
      · rw [if_pos h3, if_neg (by omega)]
      · rw [if_neg h3, ih (fun x hx => h x (by simp [hx])) _ (by omega)]
theorem parse_txt (N : Nat) : Lib.parseMag (txt 10 N) = if N < 18446744073709551616 then .ok N else .range := by
  unfold Lib.parseMag
  rw [if_neg (txt_ne 10 N (by omega))]
  unfold txt
  by_cases h0 : N = 0
  · subst h0
    rw [if_pos rfl, if_pos (by omega)]
    rfl
  · rw [if_neg h0, parse_digits _ (fun d hd => dgs_lt (by omega) N d (List.mem_reverse.1 hd)) 0 (by omega), foldl_val, List.reverse_reverse, val_dgs (by omega)]
    simp
theorem atoi_txtZ (z : Int) : Lib.atoiAll (txtZ 10 z) = if -9223372036854775808 ≤ z ∧ z ≤ 9223372036854775807 then .ok z else .range := by
  unfold txtZ
  by_cases hz : z < 0
  · rw [if_pos hz]
    unfold Lib.atoiAll
    simp only [show (45 : UInt8).toNat = 45 from rfl, or_true, if_true, parse_txt]
    by_cases h1 : z.natAbs < 18446744073709551616
    · rw [if_pos h1]
      simp only [not_true, false_and, if_false, true_and]
      by_cases h2 : 9223372036854775808 < z.natAbs
      · rw [if_pos h2, if_neg (by omega)]
      · rw [if_neg h2, if_pos (by omega)]
        congr 1
        omega
    · rw [if_neg h1, if_neg (by omega)]
  · rw [if_neg hz]
    have hp := parse_txt z.natAbs
    have hm := fun c (h : c ∈ txt 10 z.natAbs) => txt_mem (b := 10) (by omega) (by omega) h
    cases hl : txt 10 z.natAbs with
    | nil => exact absurd hl (txt_ne 10 _ (by omega))
    | cons c r =>
      obtain ⟨d, hd, hc⟩ := hm c (by rw [hl]; simp)
      have h1 := chr10n d hd
      rw [← hc] at h1
      unfold Lib.atoiAll
      simp only [h1]
      rw [if_neg (by omega), ← hl, hp]
      by_cases h2 : z.natAbs < 18446744073709551616
      · rw [if_pos h2]
        simp only []
        by_cases h3 : 9223372036854775808 ≤ z.natAbs
        · rw [if_pos ⟨by omega, h3⟩, if_neg (by omega)]
        · have e1 : ¬ (48 + d = 45) := by omega
          simp only [e1, h3, not_false_eq_true, true_and, false_and, if_false]
          rw [if_pos (show -9223372036854775808 ≤ z ∧ z ≤ 9223372036854775807 by omega)]
          congr 1
          omega
      · rw [if_neg h2, if_neg (by omega)]
end Go.Proofs.YtifhiefdhhmdeaaGreatDoor
