/- Plain mathematics: digits that are written in pieces, zeros in front cut off. -/
import Derived.Test.YtifhiefdhhmdeaaGreatDoorMa
namespace Go.Proofs.YtifhiefdhhmdeaaGreatDoor

theorem val_eq_zero {b : Nat} (hb : 0 < b) (l : List Nat) (h : val b l = 0) : ∀ d ∈ l, d = 0 := by
  induction l with
  | nil => intro d hd; cases hd
  | cons x l ih =>
    rw [val_cons] at h
    have h1 : x = 0 := by omega
    have h2 : b * val b l = 0 := by omega
    have h3 : val b l = 0 := by
      rcases Nat.mul_eq_zero.1 h2 with h | h
      · omega
      · exact h
    intro d hd
    rcases List.mem_cons.1 hd with rfl | hd
    · exact h1
    · exact ih h3 d hd
theorem dropWhile_zeros (z : List UInt8) (m : List UInt8) (hz : ∀ c ∈ z, c = 48) (hm : m.head? ≠ some 48) : (z ++ m).dropWhile (· == 48) = m := by
  induction z with
  | nil =>
    cases m with
    | nil => rfl
    | cons c m =>
      rw [List.nil_append, List.dropWhile_cons_of_neg]
      simpa using hm
  | cons c z ih =>
    rw [List.cons_append, List.dropWhile_cons_of_pos (by simp [hz c (by simp)])]
    exact ih (fun x hx => hz x (by simp [hx]))
/-- the digits of a natural without zeros in front -/
def bare (b N : Nat) : List UInt8 := (dgs b N).reverse.map chr
theorem chr_zero {b : Nat} (hb' : b < 37) {d : Nat} (hd : d < b) (h : chr d = 48) : d = 0 := by
  have h1 := digC_chr b hb' d hd
  have h2 := digC_chr b hb' 0 (by omega)
  rw [show chr 0 = 48 from rfl] at h2
  rw [h, h2] at h1
  exact (Option.some.inj h1).symm
theorem bare_head {b N : Nat} (hb : 2 ≤ b) (hb' : b < 37) : (bare b N).head? ≠ some 48 := by
  intro h
  unfold bare at h
  rw [List.head?_map, List.head?_reverse, List.getLast?_eq_getElem?] at h
  cases hk : (dgs b N).length with
  | zero => rw [List.length_eq_zero_iff.1 hk] at h; simp at h
  | succ k =>
    rw [hk, Nat.add_sub_cancel, List.getElem?_eq_getElem (by omega)] at h
    have h2 : chr ((dgs b N)[k]'(by omega)) = 48 := by simpa using h
    exact dgs_last hb k hk (chr_zero hb' (dgs_lt hb N _ (List.getElem_mem (by omega))) h2)
theorem text_end {b : Nat} (hb : 2 ≤ b) (hb' : b < 37) (ds : List Nat) (h : ∀ d ∈ ds, d < b) (N : Nat) (hv : val b ds = N) : ((ds.map chr).reverse).dropWhile (· == 48) = bare b N := by
  have h1 := dgs_take hb ds h
  rw [hv] at h1
  have h2 := val_split b ds (dgs b N).length
  rw [h1, hv, val_dgs hb] at h2
  have h3 : val b (ds.drop (dgs b N).length) = 0 := by
    have h4 : b ^ (dgs b N).length * val b (ds.drop (dgs b N).length) = 0 := by omega
    rcases Nat.mul_eq_zero.1 h4 with h5 | h5
    · exact absurd h5 (Nat.ne_of_gt (Nat.pow_pos (by omega)))
    · exact h5
  have h6 := val_eq_zero (by omega : 0 < b) _ h3
  have h7 : (ds.map chr).reverse = ((ds.drop (dgs b N).length).map chr).reverse ++ bare b N := by
    conv => lhs; rw [← List.take_append_drop (dgs b N).length ds, h1]
    rw [List.map_append, List.reverse_append, bare, List.map_reverse]
  rw [h7]
  refine dropWhile_zeros _ _ (fun c hc => ?_) (bare_head hb hb')
  obtain ⟨d, hd, rfl⟩ := List.mem_map.1 (List.mem_reverse.1 hc)
  rw [h6 d hd]; rfl
theorem txt_bare (b N : Nat) (hb : 2 ≤ b) : txt b N = if bare b N = [] then [48] else bare b N := by
  unfold txt bare
  by_cases h : N = 0
  · subst h; rfl
  · rw [if_neg h, if_neg]
    simpa [dgs_nil_iff hb] using h
/-- a piece more -/
theorem piece {b : Nat} (ds es : List Nat) (p X part N : Nat) (hp : es.length = p) (h : val b ds + b ^ ds.length * (X * b ^ p + part) = N) (he : val b es = part) : val b (ds ++ es) + b ^ (ds ++ es).length * X = N := by
  rw [val_append, List.length_append, Nat.pow_add, hp, he, ← h]
  grind
theorem digit_more {b : Nat} (es : List Nat) (part P : Nat) (h : val b es + b ^ es.length * part = P) : val b (es ++ [part % b]) + b ^ (es ++ [part % b]).length * (part / b) = P := by
  rw [val_snoc, List.length_append, List.length_singleton, Nat.pow_succ]
  have h3 := Nat.mod_add_div part b
  generalize part % b = r at *
  generalize part / b = q at *
  subst h3
  rw [← h]; grind
theorem count_le {b : Nat} (hb : 2 ≤ b) (ds : List Nat) (X N : Nat) (hX : 0 < X) (h : val b ds + b ^ ds.length * X = N) : ds.length ≤ 32 * Lw N := by
  have h1 : b ^ ds.length ≤ N := by
    have : b ^ ds.length * 1 ≤ b ^ ds.length * X := Nat.mul_le_mul_left _ hX
    omega
  have h2 : 2 ^ ds.length ≤ N := Nat.le_trans (Nat.pow_le_pow_left hb _) h1
  have h3 := lt_Lw N
  have h4 : (4294967296 : Nat) = 2 ^ 32 := by decide
  rw [h4, ← Nat.pow_mul] at h3
  rcases Nat.lt_or_ge (32 * Lw N) ds.length with h5 | h5
  · have := Nat.pow_le_pow_right (show 0 < 2 by omega) (Nat.le_of_lt h5)
    omega
  · exact h5
end Go.Proofs.YtifhiefdhhmdeaaGreatDoor
