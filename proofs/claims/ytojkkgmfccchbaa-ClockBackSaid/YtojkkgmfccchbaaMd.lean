/- What the document asks of dates, as functions on data. -/
import Derived.Test.YtojkkgmfccchbaaMb
namespace Go.Proofs.Ytojkkgmfccchbaa
/-- the date of a number of seconds -/
def dayOf (n : Int) : Int := n / 86400 + 719528
def hOf (n : Int) : Int := n % 86400 / 3600
def miOf (n : Int) : Int := n % 86400 / 60 % 60
def sOf (n : Int) : Int := n % 86400 % 60
structure Dt where
  y : Int
  m : Int
  d : Int
  h : Int
  mi : Int
  s : Int
def Dt.zero : Dt := ⟨0, 0, 0, 0, 0, 0⟩
def Dt.ok (x : Dt) : Bool := vldB x.y x.m x.d x.h x.mi x.s
def Dt.sec (x : Dt) : Int := Go.Proofs.Ytojkkgmfccchbaa.sec x.y x.m x.d x.h x.mi x.s
def Dt.num (x : Dt) : Int := Go.Proofs.Ytojkkgmfccchbaa.num x.y x.m x.d
def inB (n a b : Int) : Bool := decide (a ≤ n ∧ n ≤ b)
theorem inB_t {n a b : Int} (h1 : a ≤ n) (h2 : n ≤ b) : inB n a b = true := decide_eq_true ⟨h1, h2⟩
theorem inB_f {n a b : Int} (h : ¬ (a ≤ n ∧ n ≤ b)) : inB n a b = false := decide_eq_false h
theorem inB_iff {n a b : Int} : inB n a b = true ↔ a ≤ n ∧ n ≤ b := decide_eq_true_iff
theorem inB_no {n a b : Int} : inB n a b = false ↔ ¬ (a ≤ n ∧ n ≤ b) := decide_eq_false_iff_not
def isMo (n : Int) : Bool := inB n (-100000000000) 100000000000
def at_ (n : Int) : Dt := ⟨yr (dayOf n), moN (dayOf n), dyN (dayOf n), hOf n, miOf n, sOf n⟩
def lat_ (x : Dt) (n : Int) : Dt := ⟨(x.y * 12 + x.m - 1 + n) / 12, (x.y * 12 + x.m - 1 + n) % 12 + 1, cut x.d (x.y * 12 + x.m - 1 + n), x.h, x.mi, x.s⟩
def momN (x : Dt) : Int × Int := if x.ok = true then (if isMo x.sec = true then (x.sec, 0) else (0, 5)) else (0, 1)
def ofN (n : Int) : Dt × Int := if isMo n = true then (at_ n, 0) else (Dt.zero, 5)
def wdN (x : Dt) : Int × Int := if x.ok = true then ((x.num + 5) % 7, 0) else (0, 1)
def ydN (x : Dt) : Int × Int := if x.ok = true then (x.num - dby x.y + 1, 0) else (0, 1)
def lpN (y : Int) : Bool × Int := if inB y (-2000) 6000 = true then (lpB y, 0) else (false, 1)
def dsN (y m : Int) : Int × Int := if inB y (-2000) 6000 = true ∧ inB m 1 12 = true then (dim y m, 0) else (0, 1)
def inY (x : Dt) : Dt × Int := if inB x.y (-2000) 6000 = true then (x, 0) else (Dt.zero, 5)
def amN (x : Dt) (n : Int) : Dt × Int := if x.ok = true ∧ inB n (-120000) 120000 = true then inY (lat_ x n) else (Dt.zero, 1)
def adN (x : Dt) (n : Int) : Dt × Int := if x.ok = true ∧ inB n (-10000000) 10000000 = true then inY (at_ (x.sec + n * 86400)) else (Dt.zero, 1)
/-- how many months Between counts -/
def bmN (a b : Dt) : Int :=
  if (lat_ a ((b.y - a.y) * 12 + b.m - a.m)).sec ≤ b.sec then (b.y - a.y) * 12 + b.m - a.m else (b.y - a.y) * 12 + b.m - a.m - 1
structure Four where
  a : Int
  b : Int
  c : Int
  e : Int
def beN (a b : Dt) : Four :=
  if a.ok = true ∧ b.ok = true ∧ a.sec ≤ b.sec then ⟨bmN a b / 12, bmN a b % 12, (b.sec - (lat_ a (bmN a b)).sec) / 86400, 0⟩ else ⟨0, 0, 0, 1⟩
theorem ok_facts {x : Dt} (h : x.ok = true) : (-2000 ≤ x.y ∧ x.y ≤ 6000) ∧ (1 ≤ x.m ∧ x.m ≤ 12) ∧ (1 ≤ x.d ∧ x.d ≤ dim x.y x.m) ∧ (0 ≤ x.h ∧ x.h ≤ 23) ∧ (0 ≤ x.mi ∧ x.mi ≤ 59) ∧ (0 ≤ x.s ∧ x.s ≤ 59) := vld_iff.1 h
theorem ok_isD {x : Dt} (h : x.ok = true) : IsD x.y x.m x.d := vld_isD h
theorem ok_num {x : Dt} (h : x.ok = true) : -730485 ≤ x.num ∧ x.num ≤ 2191820 := num_valid h
theorem sec_num (x : Dt) : x.sec = (x.num - 719528) * 86400 + x.h * 3600 + x.mi * 60 + x.s := rfl
theorem ok_sec {x : Dt} (h : x.ok = true) : -126000000000 ≤ x.sec ∧ x.sec ≤ 128000000000 := by
  have h1 := ok_num h
  have h2 := ok_facts h
  rw [sec_num]
  omega
theorem at_day (n : Int) : (at_ n).num = dayOf n := num_dt _
theorem at_sec (n : Int) : (at_ n).sec = n := by
  rw [sec_num, at_day]
  show (dayOf n - 719528) * 86400 + hOf n * 3600 + miOf n * 60 + sOf n = n
  unfold dayOf hOf miOf sOf
  omega
theorem at_isD (n : Int) : IsD (at_ n).y (at_ n).m (at_ n).d := dt_valid _
theorem at_time (n : Int) : (0 ≤ (at_ n).h ∧ (at_ n).h ≤ 23) ∧ (0 ≤ (at_ n).mi ∧ (at_ n).mi ≤ 59) ∧ (0 ≤ (at_ n).s ∧ (at_ n).s ≤ 59) := by
  show (0 ≤ hOf n ∧ hOf n ≤ 23) ∧ (0 ≤ miOf n ∧ miOf n ≤ 59) ∧ (0 ≤ sOf n ∧ sOf n ≤ 59)
  unfold hOf miOf sOf
  omega
theorem at_ok (n : Int) (h : inB (at_ n).y (-2000) 6000 = true) : (at_ n).ok = true := by
  have h1 := at_isD n
  have h2 := at_time n
  exact vld_iff.2 ⟨inB_iff.1 h, ⟨h1.1, h1.2.1⟩, ⟨h1.2.2.1, h1.2.2.2⟩, h2.1, h2.2.1, h2.2.2⟩
/-- a date is told by its seconds -/
theorem at_of {x : Dt} (hd : IsD x.y x.m x.d) (hh : (0 ≤ x.h ∧ x.h ≤ 23) ∧ (0 ≤ x.mi ∧ x.mi ≤ 59) ∧ (0 ≤ x.s ∧ x.s ≤ 59)) : at_ x.sec = x := by
  have e1 : dayOf x.sec = x.num := by rw [sec_num]; unfold dayOf; omega
  have e2 : hOf x.sec = x.h := by rw [sec_num]; unfold hOf; omega
  have e3 : miOf x.sec = x.mi := by rw [sec_num]; unfold miOf; omega
  have e4 : sOf x.sec = x.s := by rw [sec_num]; unfold sOf; omega
  unfold at_
  rw [e1, e2, e3, e4]
  have e5 : yr x.num = x.y := yr_num hd
  have e6 : moN x.num = x.m := moN_num hd
  have e7 : dyN x.num = x.d := dyN_num hd
  rw [e5, e6, e7]
theorem ok_at {x : Dt} (h : x.ok = true) : at_ x.sec = x := at_of (ok_isD h) (ok_facts h).2.2.2
theorem yr_in {n : Int} (h1 : dby (-2000) ≤ n) (h2 : n < dby 6001) : -2000 ≤ yr n ∧ yr n ≤ 6000 := by
  obtain ⟨a, b⟩ := yr_spec n
  constructor
  · rcases Int.lt_or_le (yr n) (-2000) with h | h
    · have := dby_mono h; omega
    · exact h
  · rcases Int.lt_or_le 6000 (yr n) with h | h
    · have h3 : dby 6001 ≤ dby (yr n) := dby_le (by omega)
      omega
    · exact h
/-- moments are dates of the years -/
theorem mo_ok {n : Int} (h : isMo n = true) : (at_ n).ok = true := by
  refine at_ok n (inB_iff.2 (yr_in ?_ ?_))
  · have := inB_iff.1 h
    rw [show dby (-2000) = -730485 by decide]
    unfold dayOf; omega
  · have := inB_iff.1 h
    rw [show dby 6001 = 2191821 by decide]
    unfold dayOf; omega
end Go.Proofs.Ytojkkgmfccchbaa
