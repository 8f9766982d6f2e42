/- Rationals, plain: what first by second is when it is reduced, how a rational is written, and that it reads back. -/
import Derived.Test.YtifhiefdhhmdeaaGreatDoorZN
import Derived.Test.YtifhiefdhhmdeaaGreatDoorZL
namespace Go.Proofs.YtifhiefdhhmdeaaGreatDoor
open Go Go.RowKit

/-- what x by y is, reduced: the first number, the second -/
def redT (x y : Int) : Int := (if y < 0 then -x else x) / ((Nat.gcd x.natAbs y.natAbs : Nat) : Int)
def redM (x y : Int) : Nat := y.natAbs / Nat.gcd x.natAbs y.natAbs

theorem fq_pos (x : Int) (g : Nat) (hg : 0 < g) : fq x g = x / (g : Int) := by
  obtain ⟨h1, h2, -⟩ := fqr x (g : Int) (by omega)
  obtain ⟨h3, h4⟩ := h2 (by omega)
  generalize fq x g = q at *
  generalize fr x g = r at *
  rw [← h1, Int.add_comm, Int.add_mul_ediv_right r q (show (g : Int) ≠ 0 by omega), Int.ediv_eq_zero_of_lt h3 h4]
  omega
theorem red_facts (x y : Int) (hy : y ≠ 0) :
    0 < redM x y ∧ Nat.gcd (redT x y).natAbs (redM x y) = 1 ∧ redT x y * y = x * (redM x y : Int) ∧ (redT x y).natAbs ≤ x.natAbs ∧ redM x y ≤ y.natAbs := by
  unfold redT redM
  obtain ⟨g, hg⟩ : ∃ g, g = Nat.gcd x.natAbs y.natAbs := ⟨_, rfl⟩
  have hg0 : 0 < g := by rw [hg]; exact Nat.gcd_pos_of_pos_right _ (by omega)
  obtain ⟨k, hk⟩ : g ∣ x.natAbs := by rw [hg]; exact Nat.gcd_dvd_left _ _
  obtain ⟨m, hm⟩ : g ∣ y.natAbs := by rw [hg]; exact Nat.gcd_dvd_right _ _
  rw [← hg]
  have hgc : Nat.gcd k m = 1 := by
    have h1 := hg
    rw [hk, hm, Nat.gcd_mul_left] at h1
    have h2 : g * 1 = g * Nat.gcd k m := by omega
    exact (Nat.eq_of_mul_eq_mul_left hg0 h2).symm
  have hM : y.natAbs / g = m := by rw [hm, Nat.mul_div_cancel_left _ hg0]
  have hm0 : 0 < m := by
    rcases Nat.eq_zero_or_pos m with h | h
    · rw [h] at hm; omega
    · exact h
  obtain ⟨K, hK, hKa⟩ : ∃ K : Int, (if y < 0 then -x else x) = (g : Int) * K ∧ K.natAbs = k := by
    have hkI : (x.natAbs : Int) = (g : Int) * (k : Int) := by exact_mod_cast hk
    by_cases hyn : y < 0 <;> by_cases hx : x < 0
    · exact ⟨k, by rw [if_pos hyn]; omega, by omega⟩
    · exact ⟨-k, by rw [if_pos hyn, Int.mul_neg]; omega, by omega⟩
    · exact ⟨-k, by rw [if_neg hyn, Int.mul_neg]; omega, by omega⟩
    · exact ⟨k, by rw [if_neg hyn]; omega, by omega⟩
  rw [hK, Int.mul_ediv_cancel_left _ (show (g : Int) ≠ 0 by omega), hM, hKa]
  have hmI : (y.natAbs : Int) = (g : Int) * (m : Int) := by exact_mod_cast hm
  have hle : k ≤ g * k := Nat.le_mul_of_pos_left k hg0
  have hle2 : m ≤ g * m := Nat.le_mul_of_pos_left m hg0
  refine ⟨hm0, hgc, ?_, by omega, by omega⟩
  by_cases hyn : y < 0
  · rw [if_pos hyn] at hK
    have e1 : y = -((g : Int) * m) := by omega
    have e2 : x = -((g : Int) * K) := by omega
    rw [e1, e2]
    grind
  · rw [if_neg hyn] at hK
    have e1 : y = (g : Int) * m := by omega
    rw [e1, hK]
    grind
theorem red_unique (x y t : Int) (m : Nat) (hy : y ≠ 0) (h : t * y = x * (m : Int)) (hm : 0 < m) (hg : Nat.gcd t.natAbs m = 1) : redT x y = t ∧ redM x y = m := by
  obtain ⟨h1, h2, h3, -, -⟩ := red_facts x y hy
  generalize redT x y = T at *
  generalize redM x y = M at *
  have h4 : T * (m : Int) = t * (M : Int) := by
    have : (T * (m : Int)) * y = (t * (M : Int)) * y := by
      calc (T * (m : Int)) * y = (T * y) * m := by grind
        _ = (x * (m : Int)) * M := by rw [h3]; grind
        _ = (t * (M : Int)) * y := by rw [← h]; grind
    exact Int.eq_of_mul_eq_mul_right hy this
  have h5 : T.natAbs * m = t.natAbs * M := by
    have := congrArg Int.natAbs h4
    simpa [Int.natAbs_mul] using this
  have d1 : m ∣ M := by
    have : m ∣ t.natAbs * M := ⟨T.natAbs, by rw [← h5, Nat.mul_comm]⟩
    exact Nat.Coprime.dvd_of_dvd_mul_left (show Nat.Coprime m t.natAbs by rw [Nat.Coprime, Nat.gcd_comm]; exact hg) this
  have d2 : M ∣ m := by
    have : M ∣ T.natAbs * m := ⟨t.natAbs, by rw [h5, Nat.mul_comm]⟩
    exact Nat.Coprime.dvd_of_dvd_mul_left (show Nat.Coprime M T.natAbs by rw [Nat.Coprime, Nat.gcd_comm]; exact h2) this
  have e : M = m := Nat.dvd_antisymm d2 d1
  subst e
  exact ⟨Int.eq_of_mul_eq_mul_right (show (M : Int) ≠ 0 by omega) h4, rfl⟩

theorem index_none (l : List UInt8) (h : (47 : UInt8) ∉ l) : Lib.index l [47] = -1 := by
  induction l with
  | nil => rfl
  | cons c l ih =>
    simp only [List.mem_cons, not_or] at h
    have h1 := ih h.2
    have h2 : ([47] : List UInt8).isPrefixOf (c :: l) = false := by simp [List.isPrefixOf, h.1]
    simp [Lib.index, h1, h2]
theorem index_at (l r : List UInt8) (h : (47 : UInt8) ∉ l) : Lib.index (l ++ 47 :: r) [47] = l.length := by
  induction l with
  | nil => simp [Lib.index, List.isPrefixOf]
  | cons c l ih =>
    simp only [List.mem_cons, not_or] at h
    have h1 := ih h.2
    have h2 : ([47] : List UInt8).isPrefixOf (c :: (l ++ 47 :: r)) = false := by simp [List.isPrefixOf, h.1]
    rw [List.cons_append, Lib.index, h1, h2]
    have h3 : ((l.length : Int) == -1) = false := by simp
    rw [h3]
    simp
theorem cut_none (l : List UInt8) (h : (47 : UInt8) ∉ l) : Lib.cut l [47] = (l, [], false) := by
  unfold Lib.cut
  rw [index_none l h]
  rfl
theorem cut_at (l r : List UInt8) (h : (47 : UInt8) ∉ l) : Lib.cut (l ++ 47 :: r) [47] = (l, r, true) := by
  unfold Lib.cut
  rw [index_at l r h, if_pos (by omega)]
  simp
theorem chr_slash : ∀ d, d < 10 → chr d ≠ 47 := by decide
theorem txtZ_slash (z : Int) : (47 : UInt8) ∉ txtZ 10 z := by
  have h : ∀ N, (47 : UInt8) ∉ txt 10 N := fun N hm => by
    obtain ⟨d, hd, hc⟩ := txt_mem (by omega) (by omega) hm
    exact chr_slash d hd hc.symm
  unfold txtZ
  split
  · simp only [List.mem_cons, not_or]
    exact ⟨by decide, h _⟩
  · exact h _
/-- a rational, written -/
def ratL (t : Int) (m : Nat) : List UInt8 := if m = 1 then txtZ 10 t else txtZ 10 t ++ 47 :: txtZ 10 (m : Int)
def ratOk (t : Int) (m : Nat) : Prop := fits t ∧ (m = 1 ∨ fits (m : Int))
instance (t : Int) (m : Nat) : Decidable (ratOk t m) := by unfold ratOk fits; infer_instance
def ratS (t : Int) (m : Nat) : ByteArray := if ratOk t m then ⟨(ratL t m).toArray⟩ else ⟨#[]⟩
def ratE (t : Int) (m : Nat) : Int := if ratOk t m then 0 else 2
theorem isRat_ratL {t : Int} {m : Nat} (h : ratOk t m) (hm : 0 < m) (hg : Nat.gcd t.natAbs m = 1) : IsRat (ratL t m) t m := by
  unfold ratL
  by_cases h1 : m = 1
  · rw [if_pos h1]
    left
    rw [cut_none _ (txtZ_slash t)]
    exact ⟨rfl, ⟨rfl, h.1⟩, h1⟩
  · rw [if_neg h1]
    right
    rw [cut_at _ _ (txtZ_slash t)]
    exact ⟨rfl, ⟨rfl, h.1⟩, ⟨rfl, h.2.resolve_left h1⟩, by omega, hg⟩
theorem isRat_unique {l : List UInt8} {t t' : Int} {m m' : Nat} (h : IsRat l t m) (k : IsRat l t' m') : t = t' ∧ m = m' := by
  rcases h with ⟨h0, h1, h2⟩ | ⟨h0, h1, h2, h3, h4⟩ <;> rcases k with ⟨k0, k1, k2⟩ | ⟨k0, k1, k2, k3, k4⟩
  · exact ⟨num_one h1 k1, h2.trans k2.symm⟩
  · rw [h0] at k0; cases k0
  · rw [h0] at k0; cases k0
  · exact ⟨num_one h1 k1, by have := num_one h2 k2; omega⟩
theorem isRat_num {z : Int} (h : fits z) : IsRat (numS z).data.toList z 1 := by
  have := isRat_ratL (t := z) (m := 1) ⟨h, .inl rfl⟩ (by omega) (by simp)
  simpa [ratL, numS] using this
end Go.Proofs.YtifhiefdhhmdeaaGreatDoor
