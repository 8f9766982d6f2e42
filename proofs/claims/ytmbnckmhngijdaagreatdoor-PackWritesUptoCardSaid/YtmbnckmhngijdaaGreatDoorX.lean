/- Contracts of digits and text. -/
import Derived.Test.YtmbnckmhngijdaaGreatDoorW
namespace Go.Proofs.YtmbnckmhngijdaaGreatDoor
open Go Go.RowKit

def digT (al : Bool) (n : Nat) (l : List UInt8) : List UInt8 × Nat :=
  if al then (hexL l, l.length) else ((hexL (l.take ((n + 1) / 2))).take n, min ((n + 1) / 2) l.length)
def TxtR (r : List UInt8 × Nat) (w : World) (e : Ending) (w' : World) : Prop := e = .returned (.tuple #[.string ⟨r.1.toArray⟩, .int .i64 r.2]) ∧ Below w.heap.size w w'
theorem extract_take (s : ByteArray) (n : Nat) : s.extract 0 n = ⟨(s.data.toList.take n).toArray⟩ := by
  apply ByteArray.ext
  apply Array.ext'
  rw [ByteArray.data_extract, Array.toList_extract]; simp
theorem take_min (l : List UInt8) (n : Nat) : l.take (min n l.length) = l.take n := by
  by_cases h : n ≤ l.length
  · rw [Nat.min_eq_left h]
  · rw [Nat.min_eq_right (by omega), List.take_of_length_le (Nat.le_refl _), List.take_of_length_le (by omega)]
set_option maxRecDepth 100000 in
set_option maxHeartbeats 1000000 in
theorem t96 (c : UInt8) (nb gr al : Bool) (sz : Int) (n : Nat) (s : ByteArray) (w : World) (hs : s.size ≤ 1000000) (hn : n ≤ 1000) :
    Calls Tryz.prog 96 #[.agg #[.int .u8 c.toNat, .bool nb, .int .i64 sz, .bool gr, .bool al, .int .i64 n], .string s] w (TxtR (digT al n s.data.toList) w) := by
  have hsi : (s.size : Int) ≤ 1000000 := by omega
  have hni : (n : Int) ≤ 1000 := by omega
  have hsl : s.data.toList.length = s.size := rfl
  have hk0 := Blk.new w #[.int .u8 c.toNat, .bool nb, .int .i64 sz, .bool gr, .bool al, .int .i64 n] 81
  have hb0 := bSelf w (.cells #[.int .u8 c.toNat, .bool nb, .int .i64 sz, .bool gr, .bool al, .int .i64 n] 81)
  cases al with
  | true =>
    have C := fun W => t20 s W hs
    have HD : Hid (digT true n s.data.toList = (hexL s.data.toList, s.size)) := rfl
    clear hk0
    go_enter Tryz.func96, Tryz.ntmps96
    go_wp2_with fail
    refine (C _).mono ?_
    generalize w.alloc (.cells #[.int .u8 c.toNat, .bool nb, .int .i64 sz, .bool gr, .bool true, .int .i64 n] 81) = W at *
    rintro e w1 ⟨rfl, hb1⟩
    have HB1 := Lib.hid (bThen hb0 hb1)
    clear hb1 hb0
    go_wp2
    go_ret2
    exact ⟨by rw [HD.out]; rfl, HB1.out⟩
  | false =>
    obtain ⟨m, hm⟩ : ∃ m : Nat, min ((n + 1) / 2) s.size = m := ⟨_, rfl⟩
    have hmi : min (((n : Int) + 1) / 2) (s.size : Int) = m := by omega
    have hms : (m : Int) ≤ s.size := by omega
    have hms2 : m ≤ s.size := by omega
    obtain ⟨t, ht⟩ : ∃ t : ByteArray, s.extract 0 m = t := ⟨_, rfl⟩
    have htl : t.data.toList = s.data.toList.take ((n + 1) / 2) := by
      rw [← ht, extract_take, ← hm, ← hsl]; exact take_min _ _
    have htz : t.size = m := by rw [← ht]; simp; omega
    have C := fun W => t20 t W (by omega)
    obtain ⟨h, hh⟩ : ∃ h : ByteArray, h = ⟨(hexL t.data.toList).toArray⟩ := ⟨_, rfl⟩
    have hhl : h.data.toList = hexL (s.data.toList.take ((n + 1) / 2)) := by rw [hh, htl]
    have hhz : h.size = 2 * m := by rw [hh]; show (hexL t.data.toList).length = _; rw [hexL_length]; exact congrArg _ htz
    rw [← hh] at C
    obtain ⟨p, hp⟩ : ∃ p : Nat, min n h.size = p := ⟨_, rfl⟩
    have hpi : min (n : Int) (h.size : Int) = p := by omega
    have hph : (p : Int) ≤ h.size := by omega
    have hph2 : p ≤ h.size := by omega
    have HD : Hid (digT false n s.data.toList = ((h.extract 0 p).data.toList, m)) := by
      show (_, _) = _
      rw [extract_take, ← hp]
      show (_, _) = (h.data.toList.take (min n h.data.toList.length), m)
      rw [take_min, hhl, ← hm]; rfl
    have HT := Lib.hid ht
    clear hm hp hh hhl hhz htl htz ht
    have htt := HT.out
    go_enter Tryz.func96, Tryz.ntmps96
    go_wp2_with fail
    refine (C _).mono ?_
    generalize w.alloc (.cells #[.int .u8 c.toNat, .bool nb, .int .i64 sz, .bool gr, .bool false, .int .i64 n] 81) = W at *
    rintro e w1 ⟨rfl, hb1⟩
    have HB1 := Lib.hid (bThen hb0 hb1)
    obtain ⟨d0, d1, d2, d3, d4, d5⟩ := (blkDown hk0 hb1).six
    clear hb1 hb0 htt hk0
    go_wp2
    go_ret2
    exact ⟨by rw [HD.out]; rfl, HB1.out⟩
theorem trim_set (l : List UInt8) : Lib.trimRightS l [32, 0] = trimRL l := by
  unfold Lib.trimRightS trimRL
  congr 2
  funext b
  simp only [List.contains_cons, List.contains_nil, Bool.or_false]
theorem byte_take (c : UInt8) : ∀ l : List UInt8, 0 ≤ Lib.indexByte l c → l.take (Lib.indexByte l c).toNat = l.takeWhile (· != c)
  | [], h => by simp [Lib.indexByte] at h
  | b :: l, h => by
    rw [show Lib.indexByte (b :: l) c = if b == c then 0 else if Lib.indexByte l c == -1 then -1 else Lib.indexByte l c + 1 from rfl] at h ⊢
    by_cases hb : b = c
    · subst hb; simp
    · have h1 : (b == c) = false := by simpa using hb
      have h2 : (b != c) = true := by simp only [bne, h1, Bool.not_false]
      rw [h1] at h ⊢
      by_cases h3 : Lib.indexByte l c = -1
      · simp [h3] at h
      · have h4 : (Lib.indexByte l c == -1) = false := by simpa using h3
        have hge := Lib.indexByte_ge l c
        rw [h4]
        simp only [Bool.false_eq_true, if_false]
        rw [List.takeWhile_cons, h2, show (Lib.indexByte l c + 1).toNat = (Lib.indexByte l c).toNat + 1 by omega, List.take_succ_cons, byte_take c l (by omega)]
        rfl
theorem cut_zero (l : List UInt8) : (Lib.cut l [0]).2.2 = l.contains 0 ∧ (Lib.cut l [0]).1 = if l.contains 0 then l.takeWhile (· != 0) else l := by
  unfold Lib.cut
  rw [Lib.index_one, ← indexByte_mem]
  by_cases h : 0 ≤ Lib.indexByte l 0
  · rw [if_pos h, decide_eq_true h]; exact ⟨rfl, byte_take 0 l h⟩
  · rw [if_neg h, decide_eq_false h]; exact ⟨rfl, rfl⟩
def txtT (c : UInt8) (al : Bool) (n : Nat) (l : List UInt8) : List UInt8 × Nat :=
  let z := if al then l.length else min n l.length
  if c = 65 then (trimRL (l.take z), z)
  else if c = 90 then
    (if (l.take z).contains 0 then ((l.take z).takeWhile (· != 0), if al then ((l.take z).takeWhile (· != 0)).length + 1 else z) else (l.take z, z))
  else (l.take z, z)
theorem textR_T (d : Dir) (l : List UInt8) : textR d l = if d.c = 72 then digT d.all d.n l else txtT d.c d.all d.n l := rfl
set_option maxRecDepth 100000 in
set_option maxHeartbeats 1000000 in
theorem t95 (c : UInt8) (nb gr al : Bool) (sz : Int) (n : Nat) (s : ByteArray) (w : World) (hG : Gl w) (hs : s.size ≤ 1000000) (hn : n ≤ 1000) :
    Calls Tryz.prog 95 #[.agg #[.int .u8 c.toNat, .bool nb, .int .i64 sz, .bool gr, .bool al, .int .i64 n], .string s] w (TxtR (txtT c al n s.data.toList) w) := by
  have hsi : (s.size : Int) ≤ 1000000 := by omega
  have hni : (n : Int) ≤ 1000 := by omega
  have hsl : s.data.toList.length = s.size := rfl
  have hk0 := Blk.new w #[.int .u8 c.toNat, .bool nb, .int .i64 sz, .bool gr, .bool al, .int .i64 n] 81
  have hb0 := bSelf w (.cells #[.int .u8 c.toNat, .bool nb, .int .i64 sz, .bool gr, .bool al, .int .i64 n] 81)
  have hG0 := hG.below hb0
  obtain ⟨mm, hmm⟩ := hG0.mx
  obtain ⟨z, hz⟩ : ∃ z : Nat, (if al then s.size else min n s.size) = z := ⟨_, rfl⟩
  have hzs : z ≤ s.size := by rw [← hz]; split <;> omega
  have hzi : (z : Int) ≤ s.size := by omega
  obtain ⟨t, ht⟩ : ∃ t : ByteArray, s.extract 0 z = t := ⟨_, rfl⟩
  have htl : t.data.toList = s.data.toList.take z := by rw [← ht, extract_take]
  have htz : t.size = z := by rw [← ht]; simp; omega
  have HX : Hid (txtT c al n s.data.toList = if c = 65 then (trimRL t.data.toList, z) else if c = 90 then (if t.data.toList.contains 0 then (t.data.toList.takeWhile (· != 0), if al then (t.data.toList.takeWhile (· != 0)).length + 1 else z) else (t.data.toList, z)) else (t.data.toList, z)) := by
    show txtT c al n s.data.toList = _
    unfold txtT
    dsimp only
    rw [hsl, hz, htl]
  have HTL := Lib.hid htl
  have htz2 : t.size ≤ 1000000 := by omega
  clear htl htz
  by_cases hc : c = 65
  · cases al with
    | true =>
      rw [if_pos rfl] at hz
      subst hz
      have hxx : s.extract 0 s.size = t := ht
      have d1 := u8_eq (n := 65) (k := 65) rfl hc
      have HR : Hid (txtT c true n s.data.toList = (trimRL t.data.toList, s.size)) := by show _ = _; rw [HX.out, if_pos hc]
      have C := fun W => Any.strings_TrimRight_laid Tryz.lays162 (by kernel_rfl) t ⟨#[32, 0]⟩ W (by omega) (by decide) (ascii_of_all (by decide))
      rw [show (⟨#[32, 0]⟩ : ByteArray).data.toList = [32, 0] from rfl, trim_set] at C
      have HXX := Lib.hid hxx
      clear hk0 HX hc ht hxx
      have hxx := HXX.out
      go_enter Tryz.func95, Tryz.ntmps95
      go_wp2_with fail
      refine (C _).mono ?_
      generalize w.alloc (.cells #[.int .u8 c.toNat, .bool nb, .int .i64 sz, .bool gr, .bool true, .int .i64 n] 81) = W at *
      rintro e w1 ⟨rfl, hb1⟩
      have HB1 := Lib.hid (bThen hb0 hb1)
      clear hb1 hb0 hxx
      go_wp2
      go_ret2
      exact ⟨by rw [HR.out]; rfl, HB1.out⟩
    | false =>
      rw [if_neg (by decide)] at hz
      have hmi : min (n : Int) (s.size : Int) = z := by omega
      have hxx : s.extract 0 z = t := ht
      have d1 := u8_eq (n := 65) (k := 65) rfl hc
      have HR : Hid (txtT c false n s.data.toList = (trimRL t.data.toList, z)) := by show _ = _; rw [HX.out, if_pos hc]
      have C := fun W => Any.strings_TrimRight_laid Tryz.lays162 (by kernel_rfl) t ⟨#[32, 0]⟩ W (by omega) (by decide) (ascii_of_all (by decide))
      rw [show (⟨#[32, 0]⟩ : ByteArray).data.toList = [32, 0] from rfl, trim_set] at C
      have HXX := Lib.hid hxx
      clear hk0 HX hc ht hz hxx
      have hxx := HXX.out
      go_enter Tryz.func95, Tryz.ntmps95
      go_wp2_with fail
      refine (C _).mono ?_
      generalize w.alloc (.cells #[.int .u8 c.toNat, .bool nb, .int .i64 sz, .bool gr, .bool false, .int .i64 n] 81) = W at *
      rintro e w1 ⟨rfl, hb1⟩
      have HB1 := Lib.hid (bThen hb0 hb1)
      clear hb1 hb0 hxx
      go_wp2
      go_ret2
      exact ⟨by rw [HR.out]; rfl, HB1.out⟩
  · by_cases hc2 : c = 90
    · cases al with
      | true =>
        rw [if_pos rfl] at hz
        subst hz
        have hxx : s.extract 0 s.size = t := ht
        have d1 := u8_ne (n := 65) (k := 65) rfl hc
        have d2 := u8_eq (n := 90) (k := 90) rfl hc2
        have d3 : ((c.toNat : Int) != 90) = false := by simp only [bne, d2, Bool.not_true]
        have HR : Hid (txtT c true n s.data.toList = if t.data.toList.contains 0 then (t.data.toList.takeWhile (· != 0), (t.data.toList.takeWhile (· != 0)).length + 1) else (t.data.toList, s.size)) := by show _ = _; rw [HX.out, if_neg hc, if_pos hc2]; rfl
        have C := fun W hW => Tryz.strings_Cut t ⟨#[0]⟩ mm W (by omega) hW
        rw [show (⟨#[0]⟩ : ByteArray).data.toList = [0] from rfl] at C
        obtain ⟨z1, z2⟩ := cut_zero t.data.toList
        rw [z1, z2] at C
        generalize (Lib.cut t.data.toList [0]).2.1 = rest at C
        have hkl : (t.data.toList.takeWhile (· != 0)).length ≤ 1000000 := by
          have h1 := (List.takeWhile_sublist (· != 0) (l := t.data.toList)).length_le
          have h2 : t.data.toList.length = t.size := rfl
          omega
        have HXX := Lib.hid hxx
        clear HX hc hc2 ht hxx z1 z2
        have hxx := HXX.out
        cases hq : t.data.toList.contains 0 with
        | true =>
          rw [hq] at C HR
          rw [if_pos rfl] at C
          replace HR := Lib.hid (HR.out.trans (if_pos rfl))
          generalize t.data.toList.takeWhile (· != 0) = T at *
          obtain ⟨T', hT'⟩ : ∃ T' : ByteArray, T' = ⟨T.toArray⟩ := ⟨_, rfl⟩
          have hTz : T'.size = T.length := by rw [hT']; rfl
          have hTi : (T'.size : Int) ≤ 1000000 := by omega
          rw [← hT'] at C
          have HT := Lib.hid hT'
          have HTZ := Lib.hid hTz
          clear hq hT' hTz
          go_enter Tryz.func95, Tryz.ntmps95
          go_wp2_with fail
          refine (C _ hmm).mono ?_
          generalize w.alloc (.cells #[.int .u8 c.toNat, .bool nb, .int .i64 sz, .bool gr, .bool true, .int .i64 n] 81) = W at *
          rintro e w1 ⟨rfl, nd, rfl⟩
          have HB1 := Lib.hid (below_drewN hb0 nd)
          obtain ⟨e0, e1, e2, e3, e4, e5⟩ := (hk0.below (below_drewN (Below.refl _ W) nd) hk0.lt).six
          clear hk0 hb0 hxx
          go_wp2
          go_ret2
          refine ⟨?_, HB1.out⟩
          rw [HR.out]
          show Ending.returned (.tuple #[.string T', .int .i64 ((T'.size : Int) + 1)]) = _
          rw [HTZ.out, HT.out]; rfl
        | false =>
          rw [hq] at C HR
          rw [if_neg (by decide)] at C
          clear hq
          go_enter Tryz.func95, Tryz.ntmps95
          go_wp2_with fail
          refine (C _ hmm).mono ?_
          generalize w.alloc (.cells #[.int .u8 c.toNat, .bool nb, .int .i64 sz, .bool gr, .bool true, .int .i64 n] 81) = W at *
          rintro e w1 ⟨rfl, nd, rfl⟩
          have HB1 := Lib.hid (below_drewN hb0 nd)
          clear hk0 hb0 hxx
          go_wp2
          go_ret2
          refine ⟨?_, HB1.out⟩
          rw [HR.out]; rfl
      | false =>
        rw [if_neg (by decide)] at hz
        have hmi : min (n : Int) (s.size : Int) = z := by omega
        have hxx : s.extract 0 z = t := ht
        have d1 := u8_ne (n := 65) (k := 65) rfl hc
        have d2 := u8_eq (n := 90) (k := 90) rfl hc2
        have d3 : ((c.toNat : Int) != 90) = false := by simp only [bne, d2, Bool.not_true]
        have HR : Hid (txtT c false n s.data.toList = if t.data.toList.contains 0 then (t.data.toList.takeWhile (· != 0), z) else (t.data.toList, z)) := by show _ = _; rw [HX.out, if_neg hc, if_pos hc2]; rfl
        have C := fun W hW => Tryz.strings_Cut t ⟨#[0]⟩ mm W (by omega) hW
        rw [show (⟨#[0]⟩ : ByteArray).data.toList = [0] from rfl] at C
        obtain ⟨z1, z2⟩ := cut_zero t.data.toList
        rw [z1, z2] at C
        generalize (Lib.cut t.data.toList [0]).2.1 = rest at C
        have hkl : (t.data.toList.takeWhile (· != 0)).length ≤ 1000000 := by
          have h1 := (List.takeWhile_sublist (· != 0) (l := t.data.toList)).length_le
          have h2 : t.data.toList.length = t.size := rfl
          omega
        have HXX := Lib.hid hxx
        clear HX hc hc2 ht hz hxx z1 z2
        have hxx := HXX.out
        cases hq : t.data.toList.contains 0 with
        | true =>
          rw [hq] at C HR
          rw [if_pos rfl] at C
          replace HR := Lib.hid (HR.out.trans (if_pos rfl))
          generalize t.data.toList.takeWhile (· != 0) = T at *
          obtain ⟨T', hT'⟩ : ∃ T' : ByteArray, T' = ⟨T.toArray⟩ := ⟨_, rfl⟩
          have hTz : T'.size = T.length := by rw [hT']; rfl
          have hTi : (T'.size : Int) ≤ 1000000 := by omega
          rw [← hT'] at C
          have HT := Lib.hid hT'
          have HTZ := Lib.hid hTz
          clear hq hT' hTz
          go_enter Tryz.func95, Tryz.ntmps95
          go_wp2_with fail
          refine (C _ hmm).mono ?_
          generalize w.alloc (.cells #[.int .u8 c.toNat, .bool nb, .int .i64 sz, .bool gr, .bool false, .int .i64 n] 81) = W at *
          rintro e w1 ⟨rfl, nd, rfl⟩
          have HB1 := Lib.hid (below_drewN hb0 nd)
          obtain ⟨e0, e1, e2, e3, e4, e5⟩ := (hk0.below (below_drewN (Below.refl _ W) nd) hk0.lt).six
          clear hk0 hb0 hxx
          go_wp2
          go_ret2
          refine ⟨?_, HB1.out⟩
          rw [HR.out]
          show Ending.returned (.tuple #[.string T', .int .i64 z]) = _
          rw [HT.out]
        | false =>
          rw [hq] at C HR
          rw [if_neg (by decide)] at C
          clear hq
          go_enter Tryz.func95, Tryz.ntmps95
          go_wp2_with fail
          refine (C _ hmm).mono ?_
          generalize w.alloc (.cells #[.int .u8 c.toNat, .bool nb, .int .i64 sz, .bool gr, .bool false, .int .i64 n] 81) = W at *
          rintro e w1 ⟨rfl, nd, rfl⟩
          have HB1 := Lib.hid (below_drewN hb0 nd)
          clear hk0 hb0 hxx
          go_wp2
          go_ret2
          refine ⟨?_, HB1.out⟩
          rw [HR.out]; rfl
    · cases al with
      | true =>
        rw [if_pos rfl] at hz
        subst hz
        have hxx : s.extract 0 s.size = t := ht
        have d1 := u8_ne (n := 65) (k := 65) rfl hc
        have d2 := u8_ne (n := 90) (k := 90) rfl hc2
        have d3 : ((c.toNat : Int) != 90) = true := by simp only [bne, d2, Bool.not_false]
        have HR : Hid (txtT c true n s.data.toList = (t.data.toList, s.size)) := by show _ = _; rw [HX.out, if_neg hc, if_neg hc2]
        have HXX := Lib.hid hxx
        clear hk0 HX hc hc2 ht hxx
        have hxx := HXX.out
        go_enter Tryz.func95, Tryz.ntmps95
        go_wp2
        go_ret2
        exact ⟨by rw [HR.out]; rfl, hb0⟩
      | false =>
        rw [if_neg (by decide)] at hz
        have hmi : min (n : Int) (s.size : Int) = z := by omega
        have hxx : s.extract 0 z = t := ht
        have d1 := u8_ne (n := 65) (k := 65) rfl hc
        have d2 := u8_ne (n := 90) (k := 90) rfl hc2
        have d3 : ((c.toNat : Int) != 90) = true := by simp only [bne, d2, Bool.not_false]
        have HR : Hid (txtT c false n s.data.toList = (t.data.toList, z)) := by show _ = _; rw [HX.out, if_neg hc, if_neg hc2]
        have HXX := Lib.hid hxx
        clear hk0 HX hc hc2 ht hz hxx
        have hxx := HXX.out
        go_enter Tryz.func95, Tryz.ntmps95
        go_wp2
        go_ret2
        exact ⟨by rw [HR.out]; rfl, hb0⟩
end Go.Proofs.YtmbnckmhngijdaaGreatDoor
