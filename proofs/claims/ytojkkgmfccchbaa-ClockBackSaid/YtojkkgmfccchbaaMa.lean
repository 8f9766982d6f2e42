/- The calendar, plainly: leap years, lengths of months, days counted from the year 0 on, the date of a day. -/
namespace Go.Proofs.Ytojkkgmfccchbaa
/-- has the year a 29th of February? -/
def lpB (y : Int) : Bool := decide (y % 4 = 0) && (!decide (y % 100 = 0) || decide (y % 400 = 0))
def lp (y : Int) : Int := if lpB y = true then 1 else 0
/-- how many days a month has -/
def dim (y m : Int) : Int := if m = 2 then 28 + lp y else if m = 4 ∨ m = 6 ∨ m = 9 ∨ m = 11 then 30 else 31
/-- the first day of a year -/
def dby (y : Int) : Int := y * 365 + (y + 3) / 4 - (y + 99) / 100 + (y + 399) / 400
/-- the days of a year ahead of a month -/
def cum (y m : Int) : Int :=
  if m ≤ 1 then 0 else if m = 2 then 31 else if m = 3 then 59 + lp y else if m = 4 then 90 + lp y else if m = 5 then 120 + lp y else if m = 6 then 151 + lp y
  else if m = 7 then 181 + lp y else if m = 8 then 212 + lp y else if m = 9 then 243 + lp y else if m = 10 then 273 + lp y else if m = 11 then 304 + lp y else if m = 12 then 334 + lp y else 365 + lp y
theorem lp_cases (y : Int) : (lpB y = true ∧ lp y = 1 ∧ y % 4 = 0 ∧ (y % 100 ≠ 0 ∨ y % 400 = 0)) ∨ (lpB y = false ∧ lp y = 0 ∧ (y % 4 ≠ 0 ∨ (y % 100 = 0 ∧ y % 400 ≠ 0))) := by
  unfold lp
  cases h : lpB y
  · right
    refine ⟨rfl, rfl, ?_⟩
    unfold lpB at h
    simp at h
    omega
  · left
    refine ⟨rfl, rfl, ?_⟩
    unfold lpB at h
    simp at h
    omega
theorem lp_01 (y : Int) : 0 ≤ lp y ∧ lp y ≤ 1 := by rcases lp_cases y with ⟨_, h, _⟩ | ⟨_, h, _⟩ <;> omega
theorem dby_succ (y : Int) : dby (y + 1) = dby y + 365 + lp y := by
  rcases lp_cases y with ⟨_, h, h1, h2⟩ | ⟨_, h, h1⟩ <;> unfold dby <;> omega
theorem dby_mono {a b : Int} (h : a < b) : dby (a + 1) ≤ dby b := by unfold dby; omega
theorem dby_le {a b : Int} (h : a ≤ b) : dby a ≤ dby b := by unfold dby; omega
/-- the year of a day -/
def yr (n : Int) : Int :=
  if n < dby (n * 400 / 146097) then n * 400 / 146097 - 1 else if dby (n * 400 / 146097 + 1) ≤ n then n * 400 / 146097 + 1 else n * 400 / 146097
theorem guess_lo (n : Int) : dby (n * 400 / 146097 - 1) ≤ n := by unfold dby; omega
theorem guess_hi (n : Int) : n < dby (n * 400 / 146097 + 2) := by unfold dby; omega
theorem yr_spec (n : Int) : dby (yr n) ≤ n ∧ n < dby (yr n + 1) := by
  have h1 := guess_lo n
  have h2 := guess_hi n
  unfold yr
  split
  · rename_i h
    refine ⟨h1, ?_⟩
    rw [show n * 400 / 146097 - 1 + 1 = n * 400 / 146097 by omega]
    exact h
  · rename_i h
    split
    · rename_i h3
      refine ⟨h3, ?_⟩
      rw [show n * 400 / 146097 + 1 + 1 = n * 400 / 146097 + 2 by omega]
      exact h2
    · rename_i h3
      exact ⟨by omega, by omega⟩
theorem yr_unique {y n : Int} (h1 : dby y ≤ n) (h2 : n < dby (y + 1)) : y = yr n := by
  obtain ⟨a, b⟩ := yr_spec n
  rcases Int.lt_trichotomy y (yr n) with h | h | h
  · have := dby_mono h; omega
  · exact h
  · have := dby_mono h; omega
theorem dim_cases (y m : Int) : 28 ≤ dim y m ∧ dim y m ≤ 31 := by
  have := lp_01 y
  unfold dim
  split
  · omega
  · split <;> omega
theorem cum_succ (y m : Int) (h1 : 1 ≤ m) (h2 : m ≤ 12) : cum y (m + 1) = cum y m + dim y m := by
  have hm : m = 1 ∨ m = 2 ∨ m = 3 ∨ m = 4 ∨ m = 5 ∨ m = 6 ∨ m = 7 ∨ m = 8 ∨ m = 9 ∨ m = 10 ∨ m = 11 ∨ m = 12 := by omega
  rcases hm with h | h | h | h | h | h | h | h | h | h | h | h <;> subst h <;> simp [cum, dim] <;> omega
theorem cum_bd (y m : Int) : 0 ≤ cum y m ∧ cum y m ≤ 366 := by
  have := lp_01 y
  unfold cum
  repeat (first | omega | split)
theorem cum_one (y : Int) : cum y 1 = 0 := by simp [cum]
theorem cum_end (y : Int) : cum y 13 = 365 + lp y := by simp [cum]
theorem cum_mono (y : Int) {m k : Int} (h1 : 1 ≤ m) (h2 : m < k) (h3 : k ≤ 13) : cum y (m + 1) ≤ cum y k := by
  have h : ∀ j : Nat, m + 1 + j ≤ 13 → cum y (m + 1) ≤ cum y (m + 1 + j) := by
    intro j
    induction j with
    | zero => intro _; simp
    | succ j ih =>
      intro hj
      have h4 := ih (by omega)
      have h5 := cum_succ y (m + 1 + j) (by omega) (by omega)
      have h6 := dim_cases y (m + 1 + j)
      rw [show m + 1 + ((j + 1 : Nat) : Int) = m + 1 + (j : Int) + 1 by omega, h5]
      omega
  have h4 := h (k - (m + 1)).toNat (by omega)
  rw [show m + 1 + ((k - (m + 1)).toNat : Int) = k by omega] at h4
  exact h4
/-- the month of the k-th day of a year, from 0 on -/
def mo (y k : Int) : Int :=
  if k < cum y 2 then 1 else if k < cum y 3 then 2 else if k < cum y 4 then 3 else if k < cum y 5 then 4 else if k < cum y 6 then 5 else if k < cum y 7 then 6
  else if k < cum y 8 then 7 else if k < cum y 9 then 8 else if k < cum y 10 then 9 else if k < cum y 11 then 10 else if k < cum y 12 then 11 else 12
theorem mo_spec (y k : Int) (h0 : 0 ≤ k) (h1 : k < 365 + lp y) : 1 ≤ mo y k ∧ mo y k ≤ 12 ∧ cum y (mo y k) ≤ k ∧ k < cum y (mo y k + 1) := by
  have e := cum_end y
  have e1 := cum_one y
  unfold mo
  repeat (first | (refine ⟨by omega, by omega, by omega, ?_⟩; simp only [Int.reduceAdd]; omega) | split)
theorem mo_unique {y k m : Int} (h1 : 1 ≤ m) (h2 : m ≤ 12) (h3 : cum y m ≤ k) (h4 : k < cum y (m + 1)) : m = mo y k := by
  have e := cum_end y
  have b := cum_bd y m
  have h5 : k < 365 + lp y := by
    rcases Int.lt_or_le m 12 with h | h
    · have := cum_mono y h1 (k := 13) (by omega) (by omega); omega
    · obtain rfl : m = 12 := by omega
      simp only [Int.reduceAdd] at h4; omega
  obtain ⟨a1, a2, a3, a4⟩ := mo_spec y k (by omega) h5
  rcases Int.lt_trichotomy m (mo y k) with h | h | h
  · have := cum_mono y h1 h (by omega); omega
  · exact h
  · have := cum_mono y a1 h (by omega); omega
/-- the day of a date -/
def num (y m d : Int) : Int := dby y + cum y m + d - 1
def moN (n : Int) : Int := mo (yr n) (n - dby (yr n))
def dyN (n : Int) : Int := n - dby (yr n) - cum (yr n) (moN n) + 1
theorem moN_spec (n : Int) : 1 ≤ moN n ∧ moN n ≤ 12 ∧ cum (yr n) (moN n) ≤ n - dby (yr n) ∧ n - dby (yr n) < cum (yr n) (moN n + 1) := by
  obtain ⟨h1, h2⟩ := yr_spec n
  have h3 := dby_succ (yr n)
  exact mo_spec (yr n) (n - dby (yr n)) (by omega) (by omega)
theorem num_dt (n : Int) : num (yr n) (moN n) (dyN n) = n := by unfold num dyN; omega
theorem dt_valid (n : Int) : 1 ≤ moN n ∧ moN n ≤ 12 ∧ 1 ≤ dyN n ∧ dyN n ≤ dim (yr n) (moN n) := by
  obtain ⟨h1, h2, h3, h4⟩ := moN_spec n
  have := cum_succ (yr n) (moN n) h1 h2
  unfold dyN
  exact ⟨h1, h2, by omega, by omega⟩
/-- a day of a year's month -/
def IsD (y m d : Int) : Prop := 1 ≤ m ∧ m ≤ 12 ∧ 1 ≤ d ∧ d ≤ dim y m
theorem num_in {y m d : Int} (h : IsD y m d) : dby y + cum y m ≤ num y m d ∧ num y m d < dby y + cum y (m + 1) ∧ dby y ≤ num y m d ∧ num y m d < dby (y + 1) := by
  obtain ⟨h1, h2, h3, h4⟩ := h
  have e := cum_succ y m h1 h2
  have e1 := dby_succ y
  have e2 := cum_end y
  have e3 := cum_bd y m
  have e4 : cum y (m + 1) ≤ cum y 13 := by
    rcases Int.lt_or_le m 12 with h | h
    · exact cum_mono y h1 (by omega) (by omega)
    · obtain rfl : m = 12 := by omega
      exact Int.le_refl _
  unfold num
  exact ⟨by omega, by omega, by omega, by omega⟩
theorem yr_num {y m d : Int} (h : IsD y m d) : yr (num y m d) = y := (yr_unique (num_in h).2.2.1 (num_in h).2.2.2).symm
theorem moN_num {y m d : Int} (h : IsD y m d) : moN (num y m d) = m := by
  have h1 := num_in h
  unfold moN
  rw [yr_num h]
  exact (mo_unique h.1 h.2.1 (by omega) (by omega)).symm
theorem dyN_num {y m d : Int} (h : IsD y m d) : dyN (num y m d) = d := by
  unfold dyN
  rw [moN_num h, yr_num h]
  unfold num; omega
/-- the seconds of a date, behind 1970-01-01 -/
def sec (y m d h mi s : Int) : Int := (num y m d - 719528) * 86400 + h * 3600 + mi * 60 + s
def vldB (y m d h mi s : Int) : Bool :=
  decide ((-2000 ≤ y ∧ y ≤ 6000) ∧ (1 ≤ m ∧ m ≤ 12) ∧ (1 ≤ d ∧ d ≤ dim y m) ∧ (0 ≤ h ∧ h ≤ 23) ∧ (0 ≤ mi ∧ mi ≤ 59) ∧ (0 ≤ s ∧ s ≤ 59))
theorem vld_iff {y m d h mi s : Int} : vldB y m d h mi s = true ↔ ((-2000 ≤ y ∧ y ≤ 6000) ∧ (1 ≤ m ∧ m ≤ 12) ∧ (1 ≤ d ∧ d ≤ dim y m) ∧ (0 ≤ h ∧ h ≤ 23) ∧ (0 ≤ mi ∧ mi ≤ 59) ∧ (0 ≤ s ∧ s ≤ 59)) := by
  unfold vldB; exact decide_eq_true_iff
theorem vld_isD {y m d h mi s : Int} (v : vldB y m d h mi s = true) : IsD y m d := by
  obtain ⟨_, a, b, _⟩ := vld_iff.1 v
  exact ⟨a.1, a.2, b.1, b.2⟩
theorem dby_bd (y : Int) (h1 : -100000 ≤ y) (h2 : y ≤ 100000) : -36600000 ≤ dby y ∧ dby y ≤ 36600000 := by unfold dby; omega
theorem num_valid {y m d h mi s : Int} (v : vldB y m d h mi s = true) : -730485 ≤ num y m d ∧ num y m d ≤ 2191820 := by
  have h := vld_iff.1 v
  have h1 := num_in (vld_isD v)
  have h2 : dby (-2000) ≤ dby y := dby_le (by omega)
  have h3 : dby (y + 1) ≤ dby 6001 := dby_le (by omega)
  have e1 : dby (-2000) = -730485 := by decide
  have e2 : dby 6001 = 2191821 := by decide
  omega
end Go.Proofs.Ytojkkgmfccchbaa
