/- The calendar, plainly: months later, and between two dates. -/
import Derived.Test.YtojkkgmfccchbaaMa
namespace Go.Proofs.Ytojkkgmfccchbaa
/-- a month, counted from that of the year 0 on: its length, its first day, a day of it that is at most its last one -/
def dm (k : Int) : Int := dim (k / 12) (k % 12 + 1)
def fom (k : Int) : Int := dby (k / 12) + cum (k / 12) (k % 12 + 1)
def cut (d k : Int) : Int := if dm k < d then dm k else d
def lat (k d : Int) : Int := fom k + cut d k - 1
theorem fom_succ (k : Int) : fom (k + 1) = fom k + dm k := by
  have e := cum_succ (k / 12) (k % 12 + 1) (by omega) (by omega)
  unfold fom dm
  rcases Int.lt_or_le (k % 12) 11 with h | h
  · rw [show (k + 1) / 12 = k / 12 by omega, show (k + 1) % 12 = k % 12 + 1 by omega]
    omega
  · have h11 : k % 12 = 11 := by omega
    rw [show (k + 1) / 12 = k / 12 + 1 by omega, show (k + 1) % 12 = 0 by omega, dby_succ]
    rw [h11] at e ⊢
    have e1 := cum_end (k / 12)
    have e2 := cum_one (k / 12 + 1)
    simp only [Int.reduceAdd] at e e1 e2 ⊢
    omega
theorem dm_bd (k : Int) : 28 ≤ dm k ∧ dm k ≤ 31 := dim_cases _ _
theorem num_fom {y m d : Int} (h1 : 1 ≤ m) (h2 : m ≤ 12) : num y m d = fom (12 * y + m - 1) + d - 1 := by
  unfold num fom
  rw [show (12 * y + m - 1) / 12 = y by omega, show (12 * y + m - 1) % 12 + 1 = m by omega]
theorem dm_of {y m : Int} (h1 : 1 ≤ m) (h2 : m ≤ 12) : dm (12 * y + m - 1) = dim y m := by
  unfold dm
  rw [show (12 * y + m - 1) / 12 = y by omega, show (12 * y + m - 1) % 12 + 1 = m by omega]
theorem num_lat (k d : Int) : num (k / 12) (k % 12 + 1) (cut d k) = lat k d := by
  unfold lat num fom; omega
theorem isD_lat {k d : Int} (h : 1 ≤ d) : IsD (k / 12) (k % 12 + 1) (cut d k) := by
  have := dm_bd k
  have e : dm k = dim (k / 12) (k % 12 + 1) := rfl
  refine ⟨by omega, by omega, ?_, ?_⟩
  · unfold cut; split <;> omega
  · unfold cut; split <;> omega
theorem cut_le (d k : Int) : cut d k ≤ d := by unfold cut; split <;> omega
theorem cut_dm (d k : Int) : cut d k ≤ dm k := by unfold cut; split <;> omega
theorem cut_same {d k : Int} (h : d ≤ dm k) : cut d k = d := by unfold cut; rw [if_neg (by omega)]
/-- Between, plainly: of months ka and kb, days and seconds of the day -/
def betw (ka da ta kb db tb : Int) : Int := if lat kb da * 86400 + ta ≤ lat kb db * 86400 + tb then kb - ka else kb - ka - 1
theorem lat_ok {k d : Int} (h : d ≤ dm k) : lat k d = fom k + d - 1 := by unfold lat; rw [cut_same h]
theorem before {da ta kb db tb : Int} (h1 : 1 ≤ db) (h2 : db ≤ dm kb) (h5 : ta < 86400) (h6 : 0 ≤ tb) : lat (kb - 1) da * 86400 + ta ≤ lat kb db * 86400 + tb := by
  rw [lat_ok h2]
  have e := fom_succ (kb - 1)
  rw [show kb - 1 + 1 = kb by omega] at e
  have e1 : cut da (kb - 1) ≤ dm (kb - 1) := cut_dm _ _
  unfold lat
  omega
/-- days that are left -/
theorem left_le {da ta kb db tb : Int} (h2 : db ≤ dm kb) (h3 : 0 ≤ ta) (h4 : tb < 86400) (h0 : 1 ≤ da) :
    (lat kb da * 86400 + ta ≤ lat kb db * 86400 + tb → (lat kb db * 86400 + tb - (lat kb da * 86400 + ta)) / 86400 ≤ 31) ∧
    (lat kb db * 86400 + tb < lat kb da * 86400 + ta → (lat kb db * 86400 + tb - (lat (kb - 1) da * 86400 + ta)) / 86400 ≤ 31) := by
  have e := fom_succ (kb - 1)
  rw [show kb - 1 + 1 = kb by omega] at e
  have b1 := dm_bd kb
  have b2 := dm_bd (kb - 1)
  rw [lat_ok h2]
  unfold lat cut
  constructor <;> intro h <;> (split at h <;> split <;> omega)
theorem betw_nonneg {ka da ta kb db tb : Int} (h1 : da ≤ dm ka) (h3 : 0 ≤ ta) (h4 : tb < 86400) (h5 : 1 ≤ da) (h6 : db ≤ dm kb)
    (hle : lat ka da * 86400 + ta ≤ lat kb db * 86400 + tb) (hta : ta < 86400) (htb : 0 ≤ tb) : ka ≤ kb ∧ 0 ≤ betw ka da ta kb db tb := by
  have hk : ka ≤ kb := by
    rcases Int.lt_or_le kb ka with h | h
    · exfalso
      rw [lat_ok h1, lat_ok h6] at hle
      have hm : ∀ j : Nat, fom (kb + 1) ≤ fom (kb + 1 + j) := by
        intro j
        induction j with
        | zero => simp
        | succ j ih =>
          have h8 := fom_succ (kb + 1 + j)
          have h9 := dm_bd (kb + 1 + j)
          rw [show kb + 1 + ((j + 1 : Nat) : Int) = kb + 1 + (j : Int) + 1 by omega, h8]
          omega
      have h10 := hm (ka - (kb + 1)).toNat
      rw [show kb + 1 + ((ka - (kb + 1)).toNat : Int) = ka by omega] at h10
      have h11 := fom_succ kb
      omega
    · exact h
  refine ⟨hk, ?_⟩
  unfold betw
  split
  · omega
  · rename_i h
    rcases Int.lt_or_le ka kb with h8 | h8
    · omega
    · obtain rfl : ka = kb := by omega
      omega
end Go.Proofs.Ytojkkgmfccchbaa
