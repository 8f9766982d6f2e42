/- Contract of the reference's cut. -/
import Derived.Test.YtmbnckmhngijdaaGreatDoorSC
namespace Go.Proofs.YtmbnckmhngijdaaGreatDoor
open Go Go.RowKit

theorem indexByte_at (l : List UInt8) (c : UInt8) (h : l.contains c = true) : Lib.indexByte l c = ((l.takeWhile (· != c)).length : Int) := by
  induction l with
  | nil => cases h
  | cons b l ih =>
    rw [show Lib.indexByte (b :: l) c = if b == c then 0 else if Lib.indexByte l c == -1 then -1 else Lib.indexByte l c + 1 from rfl, List.takeWhile_cons]
    by_cases hb : b = c
    · subst hb; simp
    · have h1 : (b == c) = false := by simpa using hb
      have h2 : (b != c) = true := by simpa using hb
      rw [List.contains_cons] at h
      have h3 : (c == b) = false := by simpa using fun e : c = b => hb e.symm
      rw [h3, Bool.false_or] at h
      rw [h1, h2, if_pos rfl, ih h, List.length_cons]
      have h4 : ((((l.takeWhile (· != c)).length : Nat) : Int) == -1) = false := by rw [beq_eq_false_iff_ne]; omega
      simp [h4]
theorem indexByte_no (l : List UInt8) (c : UInt8) (h : l.contains c = false) : Lib.indexByte l c = -1 := by
  have h1 := indexByte_mem l c
  rw [h, decide_eq_false_iff_not] at h1
  have h2 := Lib.indexByte_ge l c
  omega
theorem bytes_ext {s t : ByteArray} (h : s.data.toList = t.data.toList) : s = t := by
  apply ByteArray.ext; exact Array.toList_inj.1 h
theorem extract_list (s : ByteArray) (a b : Nat) : (s.extract a b).data.toList = (s.data.toList.take b).drop a := by
  rw [ByteArray.data_extract, Array.toList_extract]
  simp only [List.extract_eq_take_drop, List.drop_take]
def CutR (r : List UInt8 × Nat) (l : List UInt8) (w : World) (e : Ending) (w' : World) : Prop :=
  e = .returned (.tuple #[.string ⟨r.1.toArray⟩, .string ⟨(l.drop r.2).toArray⟩]) ∧ Below w.heap.size w w'
theorem CutR.of {r : List UInt8 × Nat} {l : List UInt8} {w w' : World} {a b : ByteArray} (hb : Below w.heap.size w w') (h1 : a.data.toList = r.1) (h2 : b.data.toList = l.drop r.2) : CutR r l w (.returned (.tuple #[.string a, .string b])) w' := by
  refine ⟨?_, hb⟩
  rw [show a = ⟨r.1.toArray⟩ from bytes_ext h1, show b = ⟨(l.drop r.2).toArray⟩ from bytes_ext h2]
theorem set_chain {c : UInt8} (h : c = 97 ∨ c = 65 ∨ c = 90 ∨ c = 72) : lettersL.contains c = true := by rcases h with rfl | rfl | rfl | rfl <;> rfl
set_option maxRecDepth 100000 in
set_option maxHeartbeats 2000000 in
theorem t36_Hall (c : UInt8) (gt : Bool) (k : Int) (s : ByteArray) (w : World) (hc : c = 72) (hk : k = -1) (hs : s.size ≤ 1000000) :
    Calls Tryz.prog 36 #[.agg #[.int .u8 c.toNat, .bool gt, .int .i64 k], .string s] w (CutR (hexL s.data.toList, s.size) s.data.toList w) := by
  have hsi : (s.size : Int) ≤ 1000000 := by omega
  have hsl : s.data.toList.length = s.size := rfl
  have hk0 := Blk.new w #[.int .u8 c.toNat, .bool gt, .int .i64 k] 60
  have hb0 := bSelf w (.cells #[.int .u8 c.toNat, .bool gt, .int .i64 k] 60)
  have e72 := u8_eq (n := 72) (k := 72) rfl hc
  have C23 := fun W => t23 s W hs
  obtain ⟨H, hH⟩ : ∃ H : ByteArray, H = ⟨(hexL s.data.toList).toArray⟩ := ⟨_, rfl⟩
  have hHl : H.data.toList = hexL s.data.toList := by rw [hH]
  have hHz : H.size = 2 * s.size := by
    have : H.data.toList.length = H.size := rfl
    rw [← this, hHl, hexL_length]; omega
  rw [← hH] at C23
  have hdv : (2 * (s.size : Int) + 1).tdiv 2 = s.size := by rw [Int.tdiv_eq_ediv_of_nonneg (by omega)]; omega
  have hdv2 : (2 * (s.size : Int) + 1) / 2 = s.size := by omega
  have hx1 : s.extract 0 s.size = s := bytes_ext (by rw [extract_list, List.drop_zero]; exact List.take_of_length_le (by omega))
  have HX2 : Hid (H.extract 0 (2 * s.size) = H) := bytes_ext (by rw [extract_list, List.drop_zero]; exact List.take_of_length_le (by have : H.data.toList.length = H.size := rfl; omega))
  obtain ⟨R, hR⟩ : ∃ R : ByteArray, s.extract s.size s.size = R := ⟨_, rfl⟩
  have HR : Hid (R.data.toList = s.data.toList.drop s.size) := by show _ = _; rw [← hR, extract_list]; simp [List.take_of_length_le]
  have HHL := Lib.hid hHl
  have HE0 : Hid (s.data.toList.drop s.size = []) := List.drop_of_length_le (by omega)
  have hm1 : min (2 * (s.size : Int)) (H.size : Int) = (H.size : Int) := by omega
  have hHi : (H.size : Int) = 2 * (s.size : Int) := by omega
  subst hk
  clear hH hHl hc
  go_enter Tryz.func36, Tryz.ntmps36
  go_upto_region 1 with fail
  generalize w.alloc (.cells #[.int .u8 c.toNat, .bool gt, .int .i64 (-1)] 60) = W at *
  have d0 := hk0.cell 0 rfl
  have d2 := hk0.cell 2 rfl
  have HB0 := Lib.hid hb0
  clear hb0 hk0
  go_upto_region 9 with (go_at_call 23; refine (C23 _).mono ?_; rintro e1 w1 ⟨rfl, hb1⟩)
  have HB1 := Lib.hid (bThen HB0.out hb1)
  clear hb1 d0 d2
  go_region
  go_wp2
  go_ret2
  exact CutR.of (below_drewN HB1.out _) (by rw [HX2.out]; exact HHL.out) (by first | exact HR.out | exact HE0.out.symm)
set_option maxRecDepth 100000 in
set_option maxHeartbeats 2000000 in
theorem t36_Hcnt (c : UInt8) (gt : Bool) (k : Int) (N : Nat) (s : ByteArray) (w : World) (hc : c = 72) (hk : (k = -2 ∧ N = 1) ∨ k = (N : Int)) (hN : 1 ≤ N) (hN2 : N ≤ 1000) (hs : s.size ≤ 1000000) :
    Calls Tryz.prog 36 #[.agg #[.int .u8 c.toNat, .bool gt, .int .i64 k], .string s] w (CutR ((hexL (s.data.toList.take ((N + 1) / 2))).take N, min ((N + 1) / 2) s.size) s.data.toList w) := by
  have hsi : (s.size : Int) ≤ 1000000 := by omega
  have hsl : s.data.toList.length = s.size := rfl
  have hk0 := Blk.new w #[.int .u8 c.toNat, .bool gt, .int .i64 k] 60
  have hb0 := bSelf w (.cells #[.int .u8 c.toNat, .bool gt, .int .i64 k] 60)
  have e72 := u8_eq (n := 72) (k := 72) rfl hc
  obtain ⟨p, hp⟩ : ∃ p, (N + 1) / 2 = p := ⟨_, rfl⟩
  obtain ⟨m, hm⟩ : ∃ m, min p s.size = m := ⟨_, rfl⟩
  rw [hp, hm]
  obtain ⟨t, ht⟩ : ∃ t : ByteArray, s.extract 0 m = t := ⟨_, rfl⟩
  have htl : t.data.toList = s.data.toList.take p := by
    rw [← ht, extract_take, ← hm]
    show s.data.toList.take (min p s.size) = _
    rw [← hsl]; exact take_min _ _
  have htz : t.size = m := by rw [show t.size = t.data.toList.length from rfl, htl, List.length_take, hsl]; exact hm
  have C23 := fun W => t23 t W (by omega)
  obtain ⟨H, hH⟩ : ∃ H : ByteArray, H = ⟨(hexL t.data.toList).toArray⟩ := ⟨_, rfl⟩
  have hHl : H.data.toList = hexL t.data.toList := by rw [hH]
  have hHz : H.size = 2 * t.size := by
    have : H.data.toList.length = H.size := rfl
    rw [← this, hHl, hexL_length]
    have : t.data.toList.length = t.size := rfl
    omega
  rw [← hH] at C23
  have hdv : ((N : Int) + 1).tdiv 2 = p := by rw [Int.tdiv_eq_ediv_of_nonneg (by omega)]; omega
  have hdv2 : ((N : Int) + 1) / 2 = p := by omega
  have hm0 : min (p : Int) (s.size : Int) = m := by omega
  obtain ⟨q, hq⟩ : ∃ q, min N H.size = q := ⟨_, rfl⟩
  have hm1 : min (N : Int) (H.size : Int) = q := by omega
  have hqz : q ≤ H.size := by omega
  have hqi : (q : Int) ≤ H.size := by omega
  have hmz : m ≤ s.size := by omega
  have hmi : (m : Int) ≤ s.size := by omega
  obtain ⟨A, hA⟩ : ∃ A : ByteArray, H.extract 0 q = A := ⟨_, rfl⟩
  have HQ : Hid ((min (N : Int) (2 * (m : Int))).toNat = q) := by show _ = _; omega
  have HAE := Lib.hid hA
  have HA : Hid (A.data.toList = (hexL (s.data.toList.take p)).take N) := by
    show _ = _
    rw [← hA, extract_take, ← hq, ← htl, ← hHl]
    show H.data.toList.take (min N H.size) = _
    rw [show H.size = H.data.toList.length from rfl]; exact take_min _ _
  obtain ⟨R, hR⟩ : ∃ R : ByteArray, s.extract m s.size = R := ⟨_, rfl⟩
  have HR : Hid (R.data.toList = s.data.toList.drop m) := by show _ = _; rw [← hR]; exact extract_drop s m
  have hNi : (N : Int) ≤ 1000 := by omega
  have hN1 : (1 : Int) ≤ N := by omega
  have k1 : ((N : Int) == -1) = false := by rw [beq_eq_false_iff_ne]; omega
  have k2 : ((N : Int) == -2) = false := by rw [beq_eq_false_iff_ne]; omega
  clear hH hHl hc hp hm hq htl
  have hti : (t.size : Int) = m := by omega
  rcases hk with ⟨rfl, rfl⟩ | rfl
  · have hdv3 : (1 + 1 : Int) / 2 = p := by omega
    have hdv4 : ((1 : Int) + 1).tdiv 2 = p := by rw [Int.tdiv_eq_ediv_of_nonneg (by omega)]; omega
    have hp1 : p = 1 := by omega
    subst hp1
    have hm2 : min (1 : Int) (H.size : Int) = q := by omega
    have hm3 : min (1 : Int) (s.size : Int) = m := by omega
    go_enter Tryz.func36, Tryz.ntmps36
    go_upto_region 1 with fail
    generalize w.alloc (.cells #[.int .u8 c.toNat, .bool gt, .int .i64 (-2)] 60) = W at *
    have d0 := hk0.cell 0 rfl
    have d2 := hk0.cell 2 rfl
    have HB0 := Lib.hid hb0
    clear hb0 hk0
    go_upto_region 9 with (go_at_call 23; refine (C23 _).mono ?_; rintro e1 w1 ⟨rfl, hb1⟩)
    have HB1 := Lib.hid (bThen HB0.out hb1)
    clear hb1 d0 d2
    go_region
    go_wp2
    go_ret2
    exact CutR.of (below_drewN HB1.out _) (by first | exact HA.out | (rw [show (min _ _ : Int).toNat = q from HQ.out, HAE.out]; exact HA.out) | (rw [show (min (1 : Int) (2 * (m : Int))).toNat = q from HQ.out, HAE.out]; exact HA.out)) HR.out
  · have hnothing : True := trivial
    go_enter Tryz.func36, Tryz.ntmps36
    go_upto_region 1 with fail
    generalize w.alloc (.cells #[.int .u8 c.toNat, .bool gt, .int .i64 (N : Int)] 60) = W at *
    have d0 := hk0.cell 0 rfl
    have d2 := hk0.cell 2 rfl
    have HB0 := Lib.hid hb0
    clear hb0 hk0
    go_upto_region 9 with (go_at_call 23; refine (C23 _).mono ?_; rintro e1 w1 ⟨rfl, hb1⟩)
    have HB1 := Lib.hid (bThen HB0.out hb1)
    clear hb1 d0 d2
    go_region
    go_wp2
    go_ret2
    exact CutR.of (below_drewN HB1.out _) (by first | exact HA.out | (rw [show (min _ _ : Int).toNat = q from HQ.out, HAE.out]; exact HA.out) | (rw [show (min (1 : Int) (2 * (m : Int))).toNat = q from HQ.out, HAE.out]; exact HA.out)) HR.out
set_option maxRecDepth 100000 in
set_option maxHeartbeats 2000000 in
theorem t36_Aall (c : UInt8) (gt : Bool) (k : Int) (s : ByteArray) (w : World) (hc : c = 65) (hk : k = -1) (hs : s.size ≤ 1000000) :
    Calls Tryz.prog 36 #[.agg #[.int .u8 c.toNat, .bool gt, .int .i64 k], .string s] w (CutR (txtT c true 0 s.data.toList) s.data.toList w) := by
  have hsi : (s.size : Int) ≤ 1000000 := by omega
  have hsl : s.data.toList.length = s.size := rfl
  have hk0 := Blk.new w #[.int .u8 c.toNat, .bool gt, .int .i64 k] 60
  have hb0 := bSelf w (.cells #[.int .u8 c.toNat, .bool gt, .int .i64 k] 60)
  have e72 := u8_ne (n := 72) (k := 72) rfl (show c ≠ 72 by rw [hc]; decide)
  have e65 := u8_eq (n := 65) (k := 65) rfl hc
  obtain ⟨z, hz⟩ : ∃ z, s.size = z := ⟨_, rfl⟩
  have hzs : z ≤ s.size := by omega
  have hzi : (z : Int) ≤ s.size := by omega
  obtain ⟨t, ht⟩ : ∃ t : ByteArray, s.extract 0 z = t := ⟨_, rfl⟩
  have htl : t.data.toList = s.data.toList.take z := by rw [← ht, extract_take]
  have htz : t.size = z := by rw [← ht]; simp; omega
  have hti : (t.size : Int) = z := by omega
  obtain ⟨R, hR⟩ : ∃ R : ByteArray, s.extract z s.size = R := ⟨_, rfl⟩
  have HRL : Hid (R.data.toList = s.data.toList.drop z) := by show _ = _; rw [← hR]; exact extract_drop s z
  have HE0 : Hid (s.size ≤ z → s.data.toList.drop z = []) := fun h => List.drop_of_length_le (by omega)
  have HX : Hid (txtT c true 0 s.data.toList = if c = 65 then (trimRL t.data.toList, z) else if c = 90 then (if t.data.toList.contains 0 then (t.data.toList.takeWhile (· != 0), if true = true then (t.data.toList.takeWhile (· != 0)).length + 1 else z) else (t.data.toList, z)) else (t.data.toList, z)) := by
    show txtT c true 0 s.data.toList = _
    unfold txtT
    dsimp only
    rw [hsl, show (if true = true then s.size else min 0 s.size) = z by rw [if_pos rfl]; exact hz, htl]
  have HTL := Lib.hid htl
  have HR : Hid (txtT c true 0 s.data.toList = (trimRL t.data.toList, z)) := by show _ = _; rw [HX.out, if_pos hc]
  have C := fun W => Any.strings_TrimRight_laid Tryz.lays162 (by kernel_rfl) t ⟨#[32, 0]⟩ W (by omega) (by decide) (ascii_of_all (by decide))
  rw [show (⟨#[32, 0]⟩ : ByteArray).data.toList = [32, 0] from rfl, trim_set] at C
  clear HX hc htl 
  subst hk
  have hzz : (s.size : Int) = z := by omega
  go_enter Tryz.func36, Tryz.ntmps36
  go_upto_region 1 with fail
  generalize w.alloc (.cells #[.int .u8 c.toNat, .bool gt, .int .i64 (-1)] 60) = W at *
  have d0 := hk0.cell 0 rfl
  have d2 := hk0.cell 2 rfl
  have HK0 := Lib.hid hk0
  have HB0 := Lib.hid hb0
  clear hb0 hk0
  go_wp2_with fail
  refine (C _).mono ?_
  rintro e1 w1 ⟨rfl, hb1⟩
  have HB1 := Lib.hid (bThen HB0.out hb1)
  clear hb1
  go_wp2
  go_ret2
  rw [HR.out]
  exact CutR.of HB1.out rfl (by first | exact HRL.out | exact (HE0.out (by omega)).symm)
set_option maxRecDepth 100000 in
set_option maxHeartbeats 2000000 in
theorem t36_Acnt (c : UInt8) (gt : Bool) (k : Int) (s : ByteArray) (w : World) (hc : c = 65) (N : Nat) (hk : (k = -2 ∧ N = 1) ∨ k = (N : Int)) (hN : 1 ≤ N) (hN2 : N ≤ 1000) (hs : s.size ≤ 1000000) :
    Calls Tryz.prog 36 #[.agg #[.int .u8 c.toNat, .bool gt, .int .i64 k], .string s] w (CutR (txtT c false N s.data.toList) s.data.toList w) := by
  have hsi : (s.size : Int) ≤ 1000000 := by omega
  have hsl : s.data.toList.length = s.size := rfl
  have hk0 := Blk.new w #[.int .u8 c.toNat, .bool gt, .int .i64 k] 60
  have hb0 := bSelf w (.cells #[.int .u8 c.toNat, .bool gt, .int .i64 k] 60)
  have e72 := u8_ne (n := 72) (k := 72) rfl (show c ≠ 72 by rw [hc]; decide)
  have e65 := u8_eq (n := 65) (k := 65) rfl hc
  obtain ⟨z, hz⟩ : ∃ z, min N s.size = z := ⟨_, rfl⟩
  have hmi : min (N : Int) (s.size : Int) = z := by omega
  have hNi : (N : Int) ≤ 1000 := by omega
  have hN1 : (1 : Int) ≤ N := by omega
  have k1 : ((N : Int) == -1) = false := by rw [beq_eq_false_iff_ne]; omega
  have k2 : ((N : Int) == -2) = false := by rw [beq_eq_false_iff_ne]; omega
  have hzs : z ≤ s.size := by omega
  have hzi : (z : Int) ≤ s.size := by omega
  obtain ⟨t, ht⟩ : ∃ t : ByteArray, s.extract 0 z = t := ⟨_, rfl⟩
  have htl : t.data.toList = s.data.toList.take z := by rw [← ht, extract_take]
  have htz : t.size = z := by rw [← ht]; simp; omega
  have hti : (t.size : Int) = z := by omega
  obtain ⟨R, hR⟩ : ∃ R : ByteArray, s.extract z s.size = R := ⟨_, rfl⟩
  have HRL : Hid (R.data.toList = s.data.toList.drop z) := by show _ = _; rw [← hR]; exact extract_drop s z
  have HE0 : Hid (s.size ≤ z → s.data.toList.drop z = []) := fun h => List.drop_of_length_le (by omega)
  have HX : Hid (txtT c false N s.data.toList = if c = 65 then (trimRL t.data.toList, z) else if c = 90 then (if t.data.toList.contains 0 then (t.data.toList.takeWhile (· != 0), if false = true then (t.data.toList.takeWhile (· != 0)).length + 1 else z) else (t.data.toList, z)) else (t.data.toList, z)) := by
    show txtT c false N s.data.toList = _
    unfold txtT
    dsimp only
    rw [hsl, show (if false = true then s.size else min N s.size) = z by rw [if_neg (by decide)]; exact hz, htl]
  have HTL := Lib.hid htl
  have HR : Hid (txtT c false N s.data.toList = (trimRL t.data.toList, z)) := by show _ = _; rw [HX.out, if_pos hc]
  have C := fun W => Any.strings_TrimRight_laid Tryz.lays162 (by kernel_rfl) t ⟨#[32, 0]⟩ W (by omega) (by decide) (ascii_of_all (by decide))
  rw [show (⟨#[32, 0]⟩ : ByteArray).data.toList = [32, 0] from rfl, trim_set] at C
  clear HX hc htl hz
  rcases hk with ⟨rfl, rfl⟩ | rfl
  · have hm3 : min (1 : Int) (s.size : Int) = z := by omega
    go_enter Tryz.func36, Tryz.ntmps36
    go_upto_region 1 with fail
    generalize w.alloc (.cells #[.int .u8 c.toNat, .bool gt, .int .i64 (-2)] 60) = W at *
    have d0 := hk0.cell 0 rfl
    have d2 := hk0.cell 2 rfl
    have HK0 := Lib.hid hk0
    have HB0 := Lib.hid hb0
    clear hb0 hk0
    go_wp2_with fail
    refine (C _).mono ?_
    rintro e1 w1 ⟨rfl, hb1⟩
    have HB1 := Lib.hid (bThen HB0.out hb1)
    clear hb1
    go_wp2
    go_ret2
    rw [HR.out]
    exact CutR.of HB1.out rfl (by first | exact HRL.out | exact (HE0.out (by omega)).symm)
  · go_enter Tryz.func36, Tryz.ntmps36
    go_upto_region 1 with fail
    generalize w.alloc (.cells #[.int .u8 c.toNat, .bool gt, .int .i64 (N : Int)] 60) = W at *
    have d0 := hk0.cell 0 rfl
    have d2 := hk0.cell 2 rfl
    have HK0 := Lib.hid hk0
    have HB0 := Lib.hid hb0
    clear hb0 hk0
    go_wp2_with fail
    refine (C _).mono ?_
    rintro e1 w1 ⟨rfl, hb1⟩
    have HB1 := Lib.hid (bThen HB0.out hb1)
    clear hb1
    go_wp2
    go_ret2
    rw [HR.out]
    exact CutR.of HB1.out rfl (by first | exact HRL.out | exact (HE0.out (by omega)).symm)
set_option maxRecDepth 100000 in
set_option maxHeartbeats 2000000 in
theorem t36_Zall (c : UInt8) (gt : Bool) (k : Int) (s : ByteArray) (w : World) (hc : c = 90) (hk : k = -1) (hs : s.size ≤ 1000000) :
    Calls Tryz.prog 36 #[.agg #[.int .u8 c.toNat, .bool gt, .int .i64 k], .string s] w (CutR (txtT c true 0 s.data.toList) s.data.toList w) := by
  have hsi : (s.size : Int) ≤ 1000000 := by omega
  have hsl : s.data.toList.length = s.size := rfl
  have hk0 := Blk.new w #[.int .u8 c.toNat, .bool gt, .int .i64 k] 60
  have hb0 := bSelf w (.cells #[.int .u8 c.toNat, .bool gt, .int .i64 k] 60)
  have e72 := u8_ne (n := 72) (k := 72) rfl (show c ≠ 72 by rw [hc]; decide)
  have e65 := u8_ne (n := 65) (k := 65) rfl (show c ≠ 65 by rw [hc]; decide)
  have e90 := u8_eq (n := 90) (k := 90) rfl hc
  obtain ⟨z, hz⟩ : ∃ z, s.size = z := ⟨_, rfl⟩
  have hzs : z ≤ s.size := by omega
  have hzi : (z : Int) ≤ s.size := by omega
  obtain ⟨t, ht⟩ : ∃ t : ByteArray, s.extract 0 z = t := ⟨_, rfl⟩
  have htl : t.data.toList = s.data.toList.take z := by rw [← ht, extract_take]
  have htz : t.size = z := by rw [← ht]; simp; omega
  have hti : (t.size : Int) = z := by omega
  obtain ⟨R, hR⟩ : ∃ R : ByteArray, s.extract z s.size = R := ⟨_, rfl⟩
  have HRL : Hid (R.data.toList = s.data.toList.drop z) := by show _ = _; rw [← hR]; exact extract_drop s z
  have HE0 : Hid (s.size ≤ z → s.data.toList.drop z = []) := fun h => List.drop_of_length_le (by omega)
  have HX : Hid (txtT c true 0 s.data.toList = if c = 65 then (trimRL t.data.toList, z) else if c = 90 then (if t.data.toList.contains 0 then (t.data.toList.takeWhile (· != 0), if true = true then (t.data.toList.takeWhile (· != 0)).length + 1 else z) else (t.data.toList, z)) else (t.data.toList, z)) := by
    show txtT c true 0 s.data.toList = _
    unfold txtT
    dsimp only
    rw [hsl, show (if true = true then s.size else min 0 s.size) = z by rw [if_pos rfl]; exact hz, htl]
  have HTL := Lib.hid htl
  have C := fun W => Tryz.strings_IndexByte t 0 W
  rw [show ((0 : Int)).toNat.toUInt8 = 0 from rfl] at C
  cases hq : t.data.toList.contains 0 with
  | false =>
    have HR : Hid (txtT c true 0 s.data.toList = (t.data.toList, z)) := by show _ = _; rw [HX.out, if_neg (by rw [hc]; decide), if_pos hc, hq]; rfl
    rw [indexByte_no _ _ hq] at C
    clear HX hc htl hq 
    subst hk
    have hzz : (s.size : Int) = z := by omega
    go_enter Tryz.func36, Tryz.ntmps36
    go_upto_region 1 with fail
    generalize w.alloc (.cells #[.int .u8 c.toNat, .bool gt, .int .i64 (-1)] 60) = W at *
    have d0 := hk0.cell 0 rfl
    have d2 := hk0.cell 2 rfl
    have HK0 := Lib.hid hk0
    have HB0 := Lib.hid hb0
    clear hb0 hk0
    go_wp2_with fail
    refine (C _).mono ?_
    rintro e1 w1 ⟨rfl, rfl⟩
    go_wp2
    go_ret2
    rw [HR.out]
    exact CutR.of HB0.out rfl (by first | exact HRL.out | exact (HE0.out (by omega)).symm)
  | true =>
    obtain ⟨j, hj⟩ : ∃ j, (t.data.toList.takeWhile (· != 0)).length = j := ⟨_, rfl⟩
    have HR : Hid (txtT c true 0 s.data.toList = (t.data.toList.takeWhile (· != 0), j + 1)) := by show _ = _; rw [HX.out, if_neg (by rw [hc]; decide), if_pos hc, if_pos hq, hj]; rfl
    rw [indexByte_at _ _ hq, hj] at C
    have htw : t.data.toList.takeWhile (· != 0) = t.data.toList.take j := by
      rw [← hj]; exact (List.prefix_iff_eq_take.1 (List.takeWhile_prefix _))
    have hjl : j < t.size := by
      have h1 := (List.takeWhile_sublist (· != 0) (l := t.data.toList)).length_le
      rw [hj] at h1
      have h2 : t.data.toList.length = t.size := rfl
      rcases Nat.lt_or_ge j t.size with h | h
      · exact h
      · exfalso
        have h3 : t.data.toList.takeWhile (· != 0) = t.data.toList := by rw [htw]; exact List.take_of_length_le (by omega)
        have h4 := List.all_takeWhile (p := (· != 0)) (l := t.data.toList)
        rw [h3] at h4
        have h5 : (0 : UInt8) ∈ t.data.toList := by simpa using hq
        have h6 := List.all_eq_true.1 h4 0 h5
        exact absurd h6 (by decide)
    have hji : (j : Int) < z := by omega
    have hji0 : (j : Int) ≤ t.size := by omega
    obtain ⟨A, hA⟩ : ∃ A : ByteArray, t.extract 0 j = A := ⟨_, rfl⟩
    have HA : Hid (A.data.toList = t.data.toList.takeWhile (· != 0)) := by show _ = _; rw [← hA, extract_take, htw]
    have HRL2 : Hid (z = s.size → (s.extract (j + 1) z).data.toList = s.data.toList.drop (j + 1)) := fun h => by rw [h]; exact extract_drop s (j + 1)
    have hj1 : (j : Int) + 1 ≤ s.size := by omega
    have hj2 : ((j : Int) + 1).toNat = j + 1 := by omega
    clear HX hc htl hq htw 
    subst hk
    have hzz : (s.size : Int) = z := by omega
    go_enter Tryz.func36, Tryz.ntmps36
    go_upto_region 1 with fail
    generalize w.alloc (.cells #[.int .u8 c.toNat, .bool gt, .int .i64 (-1)] 60) = W at *
    have d0 := hk0.cell 0 rfl
    have d2 := hk0.cell 2 rfl
    have HK0 := Lib.hid hk0
    have HB0 := Lib.hid hb0
    clear hb0 hk0
    go_wp2_with fail
    refine (C _).mono ?_
    rintro e1 w1 ⟨rfl, rfl⟩
    go_wp2
    go_ret2
    rw [HR.out]
    exact CutR.of HB0.out HA.out (HRL2.out (by omega))
set_option maxRecDepth 100000 in
set_option maxHeartbeats 2000000 in
theorem t36_Zcnt (c : UInt8) (gt : Bool) (k : Int) (s : ByteArray) (w : World) (hc : c = 90) (N : Nat) (hk : (k = -2 ∧ N = 1) ∨ k = (N : Int)) (hN : 1 ≤ N) (hN2 : N ≤ 1000) (hs : s.size ≤ 1000000) :
    Calls Tryz.prog 36 #[.agg #[.int .u8 c.toNat, .bool gt, .int .i64 k], .string s] w (CutR (txtT c false N s.data.toList) s.data.toList w) := by
  have hsi : (s.size : Int) ≤ 1000000 := by omega
  have hsl : s.data.toList.length = s.size := rfl
  have hk0 := Blk.new w #[.int .u8 c.toNat, .bool gt, .int .i64 k] 60
  have hb0 := bSelf w (.cells #[.int .u8 c.toNat, .bool gt, .int .i64 k] 60)
  have e72 := u8_ne (n := 72) (k := 72) rfl (show c ≠ 72 by rw [hc]; decide)
  have e65 := u8_ne (n := 65) (k := 65) rfl (show c ≠ 65 by rw [hc]; decide)
  have e90 := u8_eq (n := 90) (k := 90) rfl hc
  obtain ⟨z, hz⟩ : ∃ z, min N s.size = z := ⟨_, rfl⟩
  have hmi : min (N : Int) (s.size : Int) = z := by omega
  have hNi : (N : Int) ≤ 1000 := by omega
  have hN1 : (1 : Int) ≤ N := by omega
  have k1 : ((N : Int) == -1) = false := by rw [beq_eq_false_iff_ne]; omega
  have k2 : ((N : Int) == -2) = false := by rw [beq_eq_false_iff_ne]; omega
  have hzs : z ≤ s.size := by omega
  have hzi : (z : Int) ≤ s.size := by omega
  obtain ⟨t, ht⟩ : ∃ t : ByteArray, s.extract 0 z = t := ⟨_, rfl⟩
  have htl : t.data.toList = s.data.toList.take z := by rw [← ht, extract_take]
  have htz : t.size = z := by rw [← ht]; simp; omega
  have hti : (t.size : Int) = z := by omega
  obtain ⟨R, hR⟩ : ∃ R : ByteArray, s.extract z s.size = R := ⟨_, rfl⟩
  have HRL : Hid (R.data.toList = s.data.toList.drop z) := by show _ = _; rw [← hR]; exact extract_drop s z
  have HE0 : Hid (s.size ≤ z → s.data.toList.drop z = []) := fun h => List.drop_of_length_le (by omega)
  have HX : Hid (txtT c false N s.data.toList = if c = 65 then (trimRL t.data.toList, z) else if c = 90 then (if t.data.toList.contains 0 then (t.data.toList.takeWhile (· != 0), if false = true then (t.data.toList.takeWhile (· != 0)).length + 1 else z) else (t.data.toList, z)) else (t.data.toList, z)) := by
    show txtT c false N s.data.toList = _
    unfold txtT
    dsimp only
    rw [hsl, show (if false = true then s.size else min N s.size) = z by rw [if_neg (by decide)]; exact hz, htl]
  have HTL := Lib.hid htl
  have C := fun W => Tryz.strings_IndexByte t 0 W
  rw [show ((0 : Int)).toNat.toUInt8 = 0 from rfl] at C
  cases hq : t.data.toList.contains 0 with
  | false =>
    have HR : Hid (txtT c false N s.data.toList = (t.data.toList, z)) := by show _ = _; rw [HX.out, if_neg (by rw [hc]; decide), if_pos hc, hq]; rfl
    rw [indexByte_no _ _ hq] at C
    clear HX hc htl hq hz
    rcases hk with ⟨rfl, rfl⟩ | rfl
    · have hm3 : min (1 : Int) (s.size : Int) = z := by omega
      go_enter Tryz.func36, Tryz.ntmps36
      go_upto_region 1 with fail
      generalize w.alloc (.cells #[.int .u8 c.toNat, .bool gt, .int .i64 (-2)] 60) = W at *
      have d0 := hk0.cell 0 rfl
      have d2 := hk0.cell 2 rfl
      have HK0 := Lib.hid hk0
      have HB0 := Lib.hid hb0
      clear hb0 hk0
      go_wp2_with fail
      refine (C _).mono ?_
      rintro e1 w1 ⟨rfl, rfl⟩
      go_wp2
      go_ret2
      rw [HR.out]
      exact CutR.of HB0.out rfl (by first | exact HRL.out | exact (HE0.out (by omega)).symm)
    · go_enter Tryz.func36, Tryz.ntmps36
      go_upto_region 1 with fail
      generalize w.alloc (.cells #[.int .u8 c.toNat, .bool gt, .int .i64 (N : Int)] 60) = W at *
      have d0 := hk0.cell 0 rfl
      have d2 := hk0.cell 2 rfl
      have HK0 := Lib.hid hk0
      have HB0 := Lib.hid hb0
      clear hb0 hk0
      go_wp2_with fail
      refine (C _).mono ?_
      rintro e1 w1 ⟨rfl, rfl⟩
      go_wp2
      go_ret2
      rw [HR.out]
      exact CutR.of HB0.out rfl (by first | exact HRL.out | exact (HE0.out (by omega)).symm)
  | true =>
    obtain ⟨j, hj⟩ : ∃ j, (t.data.toList.takeWhile (· != 0)).length = j := ⟨_, rfl⟩
    have HR : Hid (txtT c false N s.data.toList = (t.data.toList.takeWhile (· != 0), z)) := by show _ = _; rw [HX.out, if_neg (by rw [hc]; decide), if_pos hc, if_pos hq]; rfl
    rw [indexByte_at _ _ hq, hj] at C
    have htw : t.data.toList.takeWhile (· != 0) = t.data.toList.take j := by
      rw [← hj]; exact (List.prefix_iff_eq_take.1 (List.takeWhile_prefix _))
    have hjl : j < t.size := by
      have h1 := (List.takeWhile_sublist (· != 0) (l := t.data.toList)).length_le
      rw [hj] at h1
      have h2 : t.data.toList.length = t.size := rfl
      rcases Nat.lt_or_ge j t.size with h | h
      · exact h
      · exfalso
        have h3 : t.data.toList.takeWhile (· != 0) = t.data.toList := by rw [htw]; exact List.take_of_length_le (by omega)
        have h4 := List.all_takeWhile (p := (· != 0)) (l := t.data.toList)
        rw [h3] at h4
        have h5 : (0 : UInt8) ∈ t.data.toList := by simpa using hq
        have h6 := List.all_eq_true.1 h4 0 h5
        exact absurd h6 (by decide)
    have hji : (j : Int) < z := by omega
    have hji0 : (j : Int) ≤ t.size := by omega
    obtain ⟨A, hA⟩ : ∃ A : ByteArray, t.extract 0 j = A := ⟨_, rfl⟩
    have HA : Hid (A.data.toList = t.data.toList.takeWhile (· != 0)) := by show _ = _; rw [← hA, extract_take, htw]
    have HRL2 : Hid (z = s.size → (s.extract (j + 1) z).data.toList = s.data.toList.drop (j + 1)) := fun h => by rw [h]; exact extract_drop s (j + 1)
    have hj1 : (j : Int) + 1 ≤ s.size := by omega
    have hj2 : ((j : Int) + 1).toNat = j + 1 := by omega
    clear HX hc htl hq htw hz
    rcases hk with ⟨rfl, rfl⟩ | rfl
    · have hm3 : min (1 : Int) (s.size : Int) = z := by omega
      go_enter Tryz.func36, Tryz.ntmps36
      go_upto_region 1 with fail
      generalize w.alloc (.cells #[.int .u8 c.toNat, .bool gt, .int .i64 (-2)] 60) = W at *
      have d0 := hk0.cell 0 rfl
      have d2 := hk0.cell 2 rfl
      have HK0 := Lib.hid hk0
      have HB0 := Lib.hid hb0
      clear hb0 hk0
      go_wp2_with fail
      refine (C _).mono ?_
      rintro e1 w1 ⟨rfl, rfl⟩
      go_wp2
      go_ret2
      rw [HR.out]
      exact CutR.of HB0.out HA.out HRL.out
    · go_enter Tryz.func36, Tryz.ntmps36
      go_upto_region 1 with fail
      generalize w.alloc (.cells #[.int .u8 c.toNat, .bool gt, .int .i64 (N : Int)] 60) = W at *
      have d0 := hk0.cell 0 rfl
      have d2 := hk0.cell 2 rfl
      have HK0 := Lib.hid hk0
      have HB0 := Lib.hid hb0
      clear hb0 hk0
      go_wp2_with fail
      refine (C _).mono ?_
      rintro e1 w1 ⟨rfl, rfl⟩
      go_wp2
      go_ret2
      rw [HR.out]
      exact CutR.of HB0.out HA.out HRL.out
set_option maxRecDepth 100000 in
set_option maxHeartbeats 2000000 in
theorem t36_oall (c : UInt8) (gt : Bool) (k : Int) (s : ByteArray) (w : World) (hc1 : c ≠ 72) (hc2 : c ≠ 65) (hc3 : c ≠ 90) (hk : k = -1) (hs : s.size ≤ 1000000) :
    Calls Tryz.prog 36 #[.agg #[.int .u8 c.toNat, .bool gt, .int .i64 k], .string s] w (CutR (txtT c true 0 s.data.toList) s.data.toList w) := by
  have hsi : (s.size : Int) ≤ 1000000 := by omega
  have hsl : s.data.toList.length = s.size := rfl
  have hk0 := Blk.new w #[.int .u8 c.toNat, .bool gt, .int .i64 k] 60
  have hb0 := bSelf w (.cells #[.int .u8 c.toNat, .bool gt, .int .i64 k] 60)
  have e72 := u8_ne (n := 72) (k := 72) rfl hc1
  have e65 := u8_ne (n := 65) (k := 65) rfl hc2
  have e90 := u8_ne (n := 90) (k := 90) rfl hc3
  obtain ⟨z, hz⟩ : ∃ z, s.size = z := ⟨_, rfl⟩
  have hzs : z ≤ s.size := by omega
  have hzi : (z : Int) ≤ s.size := by omega
  obtain ⟨t, ht⟩ : ∃ t : ByteArray, s.extract 0 z = t := ⟨_, rfl⟩
  have htl : t.data.toList = s.data.toList.take z := by rw [← ht, extract_take]
  have htz : t.size = z := by rw [← ht]; simp; omega
  have hti : (t.size : Int) = z := by omega
  obtain ⟨R, hR⟩ : ∃ R : ByteArray, s.extract z s.size = R := ⟨_, rfl⟩
  have HRL : Hid (R.data.toList = s.data.toList.drop z) := by show _ = _; rw [← hR]; exact extract_drop s z
  have HE0 : Hid (s.size ≤ z → s.data.toList.drop z = []) := fun h => List.drop_of_length_le (by omega)
  have HX : Hid (txtT c true 0 s.data.toList = if c = 65 then (trimRL t.data.toList, z) else if c = 90 then (if t.data.toList.contains 0 then (t.data.toList.takeWhile (· != 0), if true = true then (t.data.toList.takeWhile (· != 0)).length + 1 else z) else (t.data.toList, z)) else (t.data.toList, z)) := by
    show txtT c true 0 s.data.toList = _
    unfold txtT
    dsimp only
    rw [hsl, show (if true = true then s.size else min 0 s.size) = z by rw [if_pos rfl]; exact hz, htl]
  have HTL := Lib.hid htl
  have HR : Hid (txtT c true 0 s.data.toList = (t.data.toList, z)) := by show _ = _; rw [HX.out, if_neg hc2, if_neg hc3]
  clear HX htl hc1 hc2 hc3 
  subst hk
  have hzz : (s.size : Int) = z := by omega
  go_enter Tryz.func36, Tryz.ntmps36
  go_upto_region 1 with fail
  generalize w.alloc (.cells #[.int .u8 c.toNat, .bool gt, .int .i64 (-1)] 60) = W at *
  have d0 := hk0.cell 0 rfl
  have d2 := hk0.cell 2 rfl
  have HK0 := Lib.hid hk0
  have HB0 := Lib.hid hb0
  clear hb0 hk0
  go_wp2
  go_ret2
  rw [HR.out]
  exact CutR.of HB0.out rfl (by first | exact HRL.out | exact (HE0.out (by omega)).symm)
set_option maxRecDepth 100000 in
set_option maxHeartbeats 2000000 in
theorem t36_ocnt (c : UInt8) (gt : Bool) (k : Int) (s : ByteArray) (w : World) (hc1 : c ≠ 72) (hc2 : c ≠ 65) (hc3 : c ≠ 90) (N : Nat) (hk : (k = -2 ∧ N = 1) ∨ k = (N : Int)) (hN : 1 ≤ N) (hN2 : N ≤ 1000) (hs : s.size ≤ 1000000) :
    Calls Tryz.prog 36 #[.agg #[.int .u8 c.toNat, .bool gt, .int .i64 k], .string s] w (CutR (txtT c false N s.data.toList) s.data.toList w) := by
  have hsi : (s.size : Int) ≤ 1000000 := by omega
  have hsl : s.data.toList.length = s.size := rfl
  have hk0 := Blk.new w #[.int .u8 c.toNat, .bool gt, .int .i64 k] 60
  have hb0 := bSelf w (.cells #[.int .u8 c.toNat, .bool gt, .int .i64 k] 60)
  have e72 := u8_ne (n := 72) (k := 72) rfl hc1
  have e65 := u8_ne (n := 65) (k := 65) rfl hc2
  have e90 := u8_ne (n := 90) (k := 90) rfl hc3
  obtain ⟨z, hz⟩ : ∃ z, min N s.size = z := ⟨_, rfl⟩
  have hmi : min (N : Int) (s.size : Int) = z := by omega
  have hNi : (N : Int) ≤ 1000 := by omega
  have hN1 : (1 : Int) ≤ N := by omega
  have k1 : ((N : Int) == -1) = false := by rw [beq_eq_false_iff_ne]; omega
  have k2 : ((N : Int) == -2) = false := by rw [beq_eq_false_iff_ne]; omega
  have hzs : z ≤ s.size := by omega
  have hzi : (z : Int) ≤ s.size := by omega
  obtain ⟨t, ht⟩ : ∃ t : ByteArray, s.extract 0 z = t := ⟨_, rfl⟩
  have htl : t.data.toList = s.data.toList.take z := by rw [← ht, extract_take]
  have htz : t.size = z := by rw [← ht]; simp; omega
  have hti : (t.size : Int) = z := by omega
  obtain ⟨R, hR⟩ : ∃ R : ByteArray, s.extract z s.size = R := ⟨_, rfl⟩
  have HRL : Hid (R.data.toList = s.data.toList.drop z) := by show _ = _; rw [← hR]; exact extract_drop s z
  have HE0 : Hid (s.size ≤ z → s.data.toList.drop z = []) := fun h => List.drop_of_length_le (by omega)
  have HX : Hid (txtT c false N s.data.toList = if c = 65 then (trimRL t.data.toList, z) else if c = 90 then (if t.data.toList.contains 0 then (t.data.toList.takeWhile (· != 0), if false = true then (t.data.toList.takeWhile (· != 0)).length + 1 else z) else (t.data.toList, z)) else (t.data.toList, z)) := by
    show txtT c false N s.data.toList = _
    unfold txtT
    dsimp only
    rw [hsl, show (if false = true then s.size else min N s.size) = z by rw [if_neg (by decide)]; exact hz, htl]
  have HTL := Lib.hid htl
  have HR : Hid (txtT c false N s.data.toList = (t.data.toList, z)) := by show _ = _; rw [HX.out, if_neg hc2, if_neg hc3]
  clear HX htl hc1 hc2 hc3 hz
  rcases hk with ⟨rfl, rfl⟩ | rfl
  · have hm3 : min (1 : Int) (s.size : Int) = z := by omega
    go_enter Tryz.func36, Tryz.ntmps36
    go_upto_region 1 with fail
    generalize w.alloc (.cells #[.int .u8 c.toNat, .bool gt, .int .i64 (-2)] 60) = W at *
    have d0 := hk0.cell 0 rfl
    have d2 := hk0.cell 2 rfl
    have HK0 := Lib.hid hk0
    have HB0 := Lib.hid hb0
    clear hb0 hk0
    go_wp2
    go_ret2
    rw [HR.out]
    exact CutR.of HB0.out rfl (by first | exact HRL.out | exact (HE0.out (by omega)).symm)
  · go_enter Tryz.func36, Tryz.ntmps36
    go_upto_region 1 with fail
    generalize w.alloc (.cells #[.int .u8 c.toNat, .bool gt, .int .i64 (N : Int)] 60) = W at *
    have d0 := hk0.cell 0 rfl
    have d2 := hk0.cell 2 rfl
    have HK0 := Lib.hid hk0
    have HB0 := Lib.hid hb0
    clear hb0 hk0
    go_wp2
    go_ret2
    rw [HR.out]
    exact CutR.of HB0.out rfl (by first | exact HRL.out | exact (HE0.out (by omega)).symm)
end Go.Proofs.YtmbnckmhngijdaaGreatDoor
