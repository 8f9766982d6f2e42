/- Between, plainly: how many months, and what is left. -/
import Derived.Test.YtojkkgmfccchbaaMd
namespace Go.Proofs.Ytojkkgmfccchbaa
theorem lat_sec (x : Dt) (n : Int) : (lat_ x n).sec = (lat (x.y * 12 + x.m - 1 + n) x.d - 719528) * 86400 + (x.h * 3600 + x.mi * 60 + x.s) := by
  have e : (lat_ x n).num = lat (x.y * 12 + x.m - 1 + n) x.d := num_lat _ _
  rw [sec_num, e]
  show (_ - 719528) * 86400 + x.h * 3600 + x.mi * 60 + x.s = _
  omega
theorem ok_dm {x : Dt} (h : x.ok = true) : 1 ≤ x.d ∧ x.d ≤ dm (x.y * 12 + x.m - 1) := by
  have f := ok_facts h
  rw [show x.y * 12 + x.m - 1 = 12 * x.y + x.m - 1 by omega, dm_of f.2.1.1 f.2.1.2]
  exact f.2.2.1
theorem ok_lat {x : Dt} (h : x.ok = true) : x.sec = (lat (x.y * 12 + x.m - 1) x.d - 719528) * 86400 + (x.h * 3600 + x.mi * 60 + x.s) := by
  have f := ok_facts h
  have e : x.num = fom (12 * x.y + x.m - 1) + x.d - 1 := num_fom f.2.1.1 f.2.1.2
  rw [lat_ok (ok_dm h).2, sec_num, e, show x.y * 12 + x.m - 1 = 12 * x.y + x.m - 1 by omega]
  omega
theorem bm_key (a b : Dt) : a.y * 12 + a.m - 1 + ((b.y - a.y) * 12 + b.m - a.m) = b.y * 12 + b.m - 1 := by omega
theorem bm_key1 (a b : Dt) : a.y * 12 + a.m - 1 + ((b.y - a.y) * 12 + b.m - a.m - 1) = b.y * 12 + b.m - 1 - 1 := by omega
theorem bm_yes {a b : Dt} (h : (lat_ a ((b.y - a.y) * 12 + b.m - a.m)).sec ≤ b.sec) : bmN a b = (b.y - a.y) * 12 + b.m - a.m := if_pos h
theorem bm_no {a b : Dt} (h : ¬ (lat_ a ((b.y - a.y) * 12 + b.m - a.m)).sec ≤ b.sec) : bmN a b = (b.y - a.y) * 12 + b.m - a.m - 1 := if_neg h
/-- what holds of Between: months, years, what is left -/
theorem bm_facts {a b : Dt} (ha : a.ok = true) (hb : b.ok = true) (hab : a.sec ≤ b.sec) :
    0 ≤ bmN a b ∧ bmN a b ≤ 100000 ∧ (lat_ a (bmN a b)).sec ≤ b.sec ∧ (b.sec - (lat_ a (bmN a b)).sec) / 86400 ≤ 31 ∧ -2000 ≤ (lat_ a (bmN a b)).y ∧ (lat_ a (bmN a b)).y ≤ 6000 ∧ (bmN a b = (b.y - a.y) * 12 + b.m - a.m ∨ bmN a b = (b.y - a.y) * 12 + b.m - a.m - 1) := by
  have fa := ok_facts ha
  have fb := ok_facts hb
  have da := ok_dm ha
  have db := ok_dm hb
  have ea := ok_lat ha
  have eb := ok_lat hb
  generalize hta : a.h * 3600 + a.mi * 60 + a.s = ta at *
  generalize htb : b.h * 3600 + b.mi * 60 + b.s = tb at *
  have ta1 : 0 ≤ ta ∧ ta < 86400 := by omega
  have tb1 : 0 ≤ tb ∧ tb < 86400 := by omega
  have hle : lat (a.y * 12 + a.m - 1) a.d * 86400 + ta ≤ lat (b.y * 12 + b.m - 1) b.d * 86400 + tb := by omega
  have nn := betw_nonneg (ka := a.y * 12 + a.m - 1) (kb := b.y * 12 + b.m - 1) da.2 ta1.1 tb1.2 da.1 db.2 hle ta1.2 tb1.1
  have ll := left_le (da := a.d) (ta := ta) (tb := tb) db.2 ta1.1 tb1.2 da.1
  have bf := before (da := a.d) (ta := ta) db.1 db.2 ta1.2 tb1.1
  have e1 : (lat_ a ((b.y - a.y) * 12 + b.m - a.m)).sec = (lat (b.y * 12 + b.m - 1) a.d - 719528) * 86400 + ta := by rw [lat_sec, bm_key, hta]
  have e2 : (lat_ a ((b.y - a.y) * 12 + b.m - a.m - 1)).sec = (lat (b.y * 12 + b.m - 1 - 1) a.d - 719528) * 86400 + ta := by rw [lat_sec, bm_key1, hta]
  by_cases h : (lat_ a ((b.y - a.y) * 12 + b.m - a.m)).sec ≤ b.sec
  · have hb1 : betw (a.y * 12 + a.m - 1) a.d ta (b.y * 12 + b.m - 1) b.d tb = b.y * 12 + b.m - 1 - (a.y * 12 + a.m - 1) := by
      unfold betw; rw [if_pos (by omega)]
    have l1 := ll.1 (by omega)
    rw [bm_yes h]
    have ey : (lat_ a ((b.y - a.y) * 12 + b.m - a.m)).y = (b.y * 12 + b.m - 1) / 12 := by
      show (a.y * 12 + a.m - 1 + ((b.y - a.y) * 12 + b.m - a.m)) / 12 = _
      rw [bm_key]
    rw [ey]
    refine ⟨by omega, by omega, h, ?_, by omega, by omega, .inl rfl⟩
    rw [e1, eb]
    have : (lat (b.y * 12 + b.m - 1) b.d - 719528) * 86400 + tb - ((lat (b.y * 12 + b.m - 1) a.d - 719528) * 86400 + ta) = lat (b.y * 12 + b.m - 1) b.d * 86400 + tb - (lat (b.y * 12 + b.m - 1) a.d * 86400 + ta) := by omega
    rw [this]; exact l1
  · have hb1 : betw (a.y * 12 + a.m - 1) a.d ta (b.y * 12 + b.m - 1) b.d tb = b.y * 12 + b.m - 1 - (a.y * 12 + a.m - 1) - 1 := by
      unfold betw; rw [if_neg (by omega)]
    have l1 := ll.2 (by omega)
    rw [bm_no h]
    have ey : (lat_ a ((b.y - a.y) * 12 + b.m - a.m - 1)).y = (b.y * 12 + b.m - 1 - 1) / 12 := by
      show (a.y * 12 + a.m - 1 + ((b.y - a.y) * 12 + b.m - a.m - 1)) / 12 = _
      rw [bm_key1]
    rw [ey]
    refine ⟨by omega, by omega, by omega, ?_, by omega, by omega, .inr rfl⟩
    rw [e2, eb]
    have : (lat (b.y * 12 + b.m - 1) b.d - 719528) * 86400 + tb - ((lat (b.y * 12 + b.m - 1 - 1) a.d - 719528) * 86400 + ta) = lat (b.y * 12 + b.m - 1) b.d * 86400 + tb - (lat (b.y * 12 + b.m - 1 - 1) a.d * 86400 + ta) := by omega
    rw [this]; exact l1
theorem lat_isD {x : Dt} (h : x.ok = true) (n : Int) : IsD (lat_ x n).y (lat_ x n).m (lat_ x n).d := isD_lat (ok_facts h).2.2.1.1
theorem lat_time {x : Dt} (h : x.ok = true) (n : Int) : (0 ≤ (lat_ x n).h ∧ (lat_ x n).h ≤ 23) ∧ (0 ≤ (lat_ x n).mi ∧ (lat_ x n).mi ≤ 59) ∧ (0 ≤ (lat_ x n).s ∧ (lat_ x n).s ≤ 59) := (ok_facts h).2.2.2
theorem lat_okk {x : Dt} (h : x.ok = true) {n : Int} (hy : inB (lat_ x n).y (-2000) 6000 = true) : (lat_ x n).ok = true := by
  have h1 := lat_isD h n
  have h2 := lat_time h n
  exact vld_iff.2 ⟨inB_iff.1 hy, ⟨h1.1, h1.2.1⟩, ⟨h1.2.2.1, h1.2.2.2⟩, h2.1, h2.2.1, h2.2.2⟩
end Go.Proofs.Ytojkkgmfccchbaa
