/- TableOnce: what is true along the deeds. -/
import Derived.Test.YtagejkolgicecaaJ
namespace Go.Proofs.Ytagejkolgicecaa
open Go Go.RowKit Go.Maps
theorem and_mask (x : Int) (m : Nat) (hm : m < 1024) : 0 ≤ bits .and .i64 x (m : Int) ∧ bits .and .i64 x (m : Int) ≤ (m : Int) := by
  have h1 : (BitVec.ofInt 64 x &&& BitVec.ofInt 64 (m : Int)).toNat ≤ m := by
    rw [BitVec.toNat_and]
    refine Nat.le_trans Nat.and_le_right ?_
    simp; omega
  have h2 : bits .and .i64 x (m : Int) = ((BitVec.ofInt 64 x &&& BitVec.ofInt 64 (m : Int)).toNat : Int) := by
    show IntKind.i64.wrap ((BitVec.ofInt 64 x &&& BitVec.ofInt 64 (m : Int)).toNat : Int) = _
    generalize (BitVec.ofInt 64 x &&& BitVec.ofInt 64 (m : Int)).toNat = t at h1 ⊢
    rw [IntKind.wrap_i64]; omega
  rw [h2]; omega
theorem and15 (x : Int) : ∃ k : Nat, k ≤ 15 ∧ bits .and .i64 x 15 = (k : Int) := by
  obtain ⟨h1, h2⟩ := and_mask x 15 (by omega)
  change 0 ≤ bits .and .i64 x 15 at h1
  change bits .and .i64 x 15 ≤ 15 at h2
  exact ⟨(bits .and .i64 x 15).toNat, by omega, by omega⟩
theorem and3 (x : Int) : ∃ k : Nat, k ≤ 3 ∧ bits .and .i64 x 3 = (k : Int) := by
  obtain ⟨h1, h2⟩ := and_mask x 3 (by omega)
  change 0 ≤ bits .and .i64 x 3 at h1
  change bits .and .i64 x 3 ≤ 3 at h2
  exact ⟨(bits .and .i64 x 3).toNat, by omega, by omega⟩
theorem wf_small {k : Nat} (h : k ≤ 1000000) : WF (k : Int) := wf_nat (by omega)

structure Once (j : Nat) (S : Tb) (T : List Bool) (p : Nat) : Prop where
  wk : S.wk 0 = some p
  fz : S.fz = false
  st : S.st = false
  len : S.ks.length ≤ j
  pt : S.pt ≤ j
  rng : ∀ x ∈ S.ks, ∃ k : Nat, k ≤ 15 ∧ x = k
  tl : T.length = 16
  told : ∀ k : Nat, (k : Int) ∈ S.ks → T[k]? = some true → S.pl k ≤ p

theorem allE_one {S : Tb} {k v : Int} (h1 : S.fz = false) (h2 : S.st = false) (h3 : S.ks.length < 500) : S.allE [(k, v)] = 0 := by
  have h4 : S.cnt [(k, v)] ≤ 1 := List.countP_le_length
  unfold Tb.allE Tb.closed
  rw [h1, h2]; simp; omega
theorem all_one {S : Tb} {k v : Int} (h1 : S.fz = false) (h2 : S.st = false) (h3 : S.ks.length < 500) : S.all [(k, v)] = S.set k v := by
  unfold Tb.all; rw [allE_one h1 h2 h3]; rfl
theorem wk_set (S : Tb) (k v : Int) : (S.set k v).wk = S.wk := by unfold Tb.set; split <;> rfl
theorem fz_set (S : Tb) (k v : Int) : (S.set k v).fz = S.fz := by unfold Tb.set; split <;> rfl
theorem st_set (S : Tb) (k v : Int) : (S.set k v).st = S.st := by unfold Tb.set; split <;> rfl
theorem mem_set (S : Tb) (k v x : Int) : x ∈ (S.set k v).ks → x ∈ S.ks ∨ x = k := by
  unfold Tb.set; split
  · exact fun h => .inl h
  · intro h; simpa using h
theorem pl_set_other (S : Tb) (k v x : Int) (h : x ≠ k) : (S.set k v).pl x = S.pl x := by
  unfold Tb.set; split
  · have := pl_upd S S.ks S.pt k (some (v, S.pl k)) x; rw [this, if_neg h]
  · rw [pl_upd, if_neg h]
theorem pl_set_same (S : Tb) (k v : Int) (h : S.has k = true) : (S.set k v).pl k = S.pl k := by
  rw [set_has v h]; have := pl_upd S S.ks S.pt k (some (v, S.pl k)) k; rw [this, if_pos rfl]; rfl
theorem Once.put_old {j : Nat} {S : Tb} {T : List Bool} {p : Nat} (h : Once j S T p) {k : Nat} (hk : k ≤ 15) (v : Int) (hh : S.has k = true) : Once (j + 1) (S.set k v) T p := by
  refine ⟨by rw [wk_set]; exact h.wk, by rw [fz_set]; exact h.fz, by rw [st_set]; exact h.st, ?_, ?_, fun x hx => ?_, h.tl, fun x hx ht => ?_⟩
  · rw [len_set]; have := h.len; split <;> omega
  · have := pt_set S k v; have := h.pt; omega
  · rcases mem_set S k v x hx with h1 | h1
    · exact h.rng x h1
    · exact ⟨k, hk, h1⟩
  · by_cases e : (x : Int) = k
    · have e' : x = k := by omega
      subst e'
      rw [pl_set_same S x v hh]
      rcases mem_set S x v x hx with h1 | h1
      · exact h.told x h1 ht
      · rw [set_has v hh] at hx; exact h.told x hx ht
    · rw [pl_set_other S k v x e]
      rcases mem_set S k v x hx with h1 | h1
      · exact h.told x h1 ht
      · exact absurd h1 e
theorem Once.put_new {j : Nat} {S : Tb} {T : List Bool} {p : Nat} (h : Once j S T p) {k : Nat} (hk : k ≤ 15) (v : Int) : Once (j + 1) (S.set k v) (T.set k false) p := by
  refine ⟨by rw [wk_set]; exact h.wk, by rw [fz_set]; exact h.fz, by rw [st_set]; exact h.st, ?_, ?_, fun x hx => ?_, by simp [h.tl], fun x hx ht => ?_⟩
  · rw [len_set]; have := h.len; split <;> omega
  · have := pt_set S k v; have := h.pt; omega
  · rcases mem_set S k v x hx with h1 | h1
    · exact h.rng x h1
    · exact ⟨k, hk, h1⟩
  · by_cases e : x = k
    · subst e
      rw [List.getElem?_set_self (by rw [h.tl]; omega)] at ht; cases ht
    · rw [List.getElem?_set_ne (fun e' => e e'.symm)] at ht
      have e2 : (x : Int) ≠ k := by omega
      rw [pl_set_other S k v x e2]
      rcases mem_set S k v x hx with h1 | h1
      · exact h.told x h1 ht
      · exact absurd h1 e2
theorem Once.del {j : Nat} {S : Tb} {T : List Bool} {p : Nat} (h : Once j S T p) (k : Int) : Once (j + 1) (S.del k) T p := by
  unfold Tb.del
  rw [if_neg (by rw [h.fz]; simp)]
  split
  · refine ⟨h.wk, h.fz, h.st, ?_, by have := h.pt; show S.pt ≤ _; omega, fun x hx => h.rng x (List.mem_filter.1 hx).1, h.tl, fun x hx ht => ?_⟩
    · have h1 := List.length_filter_le (fun x => !decide (x = k)) S.ks; have := h.len; simp only; omega
    · have h1 := List.mem_filter.1 hx
      have h2 := pl_upd S (S.ks.filter (fun x => !decide (x = k))) S.pt k none x
      rw [h2, if_neg (by simpa using h1.2)]
      exact h.told x h1.1 ht
  · exact ⟨h.wk, h.fz, h.st, by have := h.len; omega, by have := h.pt; omega, h.rng, h.tl, h.told⟩
theorem front_some {S : Tb} {p : Nat} {x : Int} (h : S.front p = some x) : x ∈ S.ks ∧ p < S.pl x := by
  exact ⟨List.mem_of_find?_eq_some h, by simpa using List.find?_some h⟩
theorem Once.next {j : Nat} {S : Tb} {T : List Bool} {p k : Nat} (h : Once j S T p) (hf : S.front p = some (k : Int)) : T[k]? = some false ∧ k ≤ 15 ∧ Once (j + 1) { S with wk := upd S.wk 0 (some (S.pl k)) } (T.set k true) (S.pl k) := by
  obtain ⟨h1, h2⟩ := front_some hf
  obtain ⟨k', hk', e⟩ := h.rng k h1
  have e' : k = k' := by omega
  subst e'
  have hlt : k < T.length := by rw [h.tl]; omega
  refine ⟨?_, hk', by simp [upd], h.fz, h.st, by have := h.len; show S.ks.length ≤ _; omega, by have := h.pt; show S.pt ≤ _; omega, h.rng, by simp [h.tl], fun x hx ht => ?_⟩
  · rw [List.getElem?_eq_getElem hlt]
    cases ht : T[k] with
    | false => rfl
    | true => have := h.told k h1 (by rw [List.getElem?_eq_getElem hlt, ht]); omega
  · show S.pl x ≤ S.pl k
    by_cases e : x = k
    · subst e; exact Nat.le_refl _
    · rw [List.getElem?_set_ne (fun e' => e e'.symm)] at ht
      have := h.told x hx ht; omega
theorem Once.first : Once 0 (Tb.new.walk) (List.replicate 16 false) 0 := by
  refine ⟨rfl, rfl, rfl, Nat.le_refl _, Nat.le_refl _, fun x hx => by simp [Tb.new, Tb.walk] at hx, rfl, fun x hx => by simp [Tb.new, Tb.walk] at hx⟩
end Go.Proofs.Ytagejkolgicecaa
