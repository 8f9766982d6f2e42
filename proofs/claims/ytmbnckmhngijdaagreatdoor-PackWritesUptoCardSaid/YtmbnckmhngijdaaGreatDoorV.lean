/- Contract of fixed. -/
import Derived.Test.YtmbnckmhngijdaaGreatDoorU
import Derived.Lib.EndianBits
namespace Go.Proofs.YtmbnckmhngijdaaGreatDoor
open Go Go.RowKit

theorem beV_snoc (l : List UInt8) (x : UInt8) : ∀ u, beV (l ++ [x]) u = beV l u * 256 + x.toNat := by
  induction l with
  | nil => intro u; rfl
  | cons b l ih => intro u; exact ih _
theorem beV_acc (l : List UInt8) : ∀ u, beV l u = u * 256 ^ l.length + beV l 0 := by
  induction l with
  | nil => intro u; simp [beV]
  | cons b l ih =>
    intro u
    have h1 : beV (b :: l) u = beV l (u * 256 + b.toNat) := rfl
    have h2 : beV (b :: l) 0 = beV l b.toNat := by show beV l (0 * 256 + b.toNat) = _; rw [Nat.zero_mul, Nat.zero_add]
    rw [h1, h2, ih (u * 256 + b.toNat), ih b.toNat, List.length_cons, Nat.pow_succ]
    generalize 256 ^ l.length = p
    have e : (u * 256 + b.toNat) * p = u * (p * 256) + b.toNat * p := by rw [Nat.add_mul, Nat.mul_assoc, Nat.mul_comm 256 p]
    rw [e]; omega
theorem beV_lt (l : List UInt8) : beV l 0 < 256 ^ l.length := by
  induction l with
  | nil => decide
  | cons b l ih =>
    have h2 : beV (b :: l) 0 = beV l b.toNat := by show beV l (0 * 256 + b.toNat) = _; rw [Nat.zero_mul, Nat.zero_add]
    rw [h2, beV_acc, List.length_cons, Nat.pow_succ]
    have hb := b.toNat_lt
    have h3 : b.toNat * 256 ^ l.length ≤ 255 * 256 ^ l.length := Nat.mul_le_mul_right _ (by omega)
    omega
theorem beV_rev (l : List UInt8) (x : UInt8) : beV (l ++ [x]).reverse 0 = beV l.reverse 0 + x.toNat * 256 ^ l.length := by
  rw [List.reverse_append]
  show beV (x :: l.reverse) 0 = _
  have h2 : beV (x :: l.reverse) 0 = beV l.reverse x.toNat := by show beV l.reverse (0 * 256 + x.toNat) = _; rw [Nat.zero_mul, Nat.zero_add]
  rw [h2, beV_acc, List.length_reverse]; omega
theorem pow_256 (k : Nat) : (2 : Int) ^ (8 * k) = ((256 ^ k : Nat) : Int) := by
  rw [Int.pow_mul]; norm_cast
def fixV (gr : Bool) (l : List UInt8) : Nat := if gr then beV l 0 else beV l.reverse 0
theorem fixV_lt (gr : Bool) (l : List UInt8) : fixV gr l < 256 ^ l.length := by
  unfold fixV; split
  · exact beV_lt l
  · have := beV_lt l.reverse; rwa [List.length_reverse] at this
theorem fixV_true (l : List UInt8) (x : UInt8) : fixV true (l ++ [x]) = fixV true l * 256 + x.toNat := beV_snoc l x 0
theorem fixV_false (l : List UInt8) (x : UInt8) : fixV false (l ++ [x]) = fixV false l + x.toNat * 256 ^ l.length := beV_rev l x
def FixS (gr : Bool) (s : ByteArray) (w1 : World) (i b : Value) (wr : World) : Prop :=
  ∃ (k u : Nat), k ≤ s.size ∧ i = .int .i64 k ∧ b = .int .u64 u ∧ Hid (u = fixV gr (s.data.toList.take k)) ∧ wr = w1
def FixR (r : Except Nat Int) (e : Ending) : Prop :=
  match r with
  | .error _ => ∃ v, e = .returned (.tuple #[.int .i64 v, .bool false])
  | .ok v => e = .returned (.tuple #[.int .i64 v, .bool true])
def fixE (sg gr : Bool) (l : List UInt8) : Except Nat Int :=
  if sg then .ok (if 2 ^ (8 * l.length - 1) ≤ fixV gr l then (fixV gr l : Int) - ((2 ^ (8 * l.length) : Nat) : Int) else (fixV gr l : Int))
  else if fixV gr l < 9223372036854775808 then .ok (fixV gr l : Int) else .error 5
theorem fixedR_E (d : Dir) (l : List UInt8) : fixedR d l = fixE (signC d.c) d.great l := rfl
theorem sign_set (c : UInt8) : (⟨#[99, 115, 108, 113]⟩ : ByteArray).data.toList.contains c = signC c := by
  show ([99, 115, 108, 113] : List UInt8).contains c = _
  unfold signC
  simp only [List.contains_cons, List.contains_nil, Bool.or_false, Bool.or_assoc]
set_option maxRecDepth 100000 in
set_option maxHeartbeats 2000000 in
theorem t117 (c : UInt8) (nb gr al sg : Bool) (sz kk : Int) (s : ByteArray) (w : World) (hs : s.size = 1 ∨ s.size = 2 ∨ s.size = 4 ∨ s.size = 8) (hsg : signC c = sg) :
    Calls Tryz.prog 117 #[.agg #[.int .u8 c.toNat, .bool nb, .int .i64 sz, .bool gr, .bool al, .int .i64 kk], .string s] w fun e w' => FixR (fixE sg gr s.data.toList) e ∧ Below w.heap.size w w' := by
  have hs8 : s.size ≤ 8 := by omega
  have hsi : (s.size : Int) ≤ 8 := by omega
  have hsl : s.data.toList.length = s.size := rfl
  have HS := Lib.hid hs
  have hk0 := Blk.new w #[.int .u8 c.toNat, .bool nb, .int .i64 sz, .bool gr, .bool al, .int .i64 kk] 81
  have hb0 := bSelf w (.cells #[.int .u8 c.toNat, .bool nb, .int .i64 sz, .bool gr, .bool al, .int .i64 kk] 81)
  have c7 := fun v1 v2 v3 v4 v5 w => t67 c v1 v2 v3 v4 v5 ⟨#[99, 115, 108, 113]⟩ sg ((sign_set c).trans hsg) w
  clear hs hsg
  go_enter Tryz.func117, Tryz.ntmps117
  go_upto_region 1 with fail
  generalize w.alloc (.cells #[.int .u8 c.toNat, .bool nb, .int .i64 sz, .bool gr, .bool al, .int .i64 kk] 81) = W at *
  obtain ⟨d0, d1, d2, d3, d4, d5⟩ := hk0.six
  have HB0 := Lib.hid hb0
  clear hk0 hb0
  go_wp2
  go_loopw [11, 6] (fun i b wr => FixS gr s W i b wr) (fun i _ _ => s.size - (intOf i).toNat)
  case atStart => exact ⟨0, 0, Nat.zero_le _, rfl, rfl, by show 0 = _; cases gr <;> rfl, rfl⟩
  case round =>
    obtain ⟨k, u, hk, rfl, rfl, hv, rfl⟩ := hrel
    by_cases hlt : k < s.size
    · have hlti : (k : Int) < s.size := by omega
      have hkL : k < s.data.toList.length := by omega
      obtain ⟨x, hx⟩ : ∃ x, s.data.toList[k]'hkL = x := ⟨_, rfl⟩
      have hsx : s[k]'hlt = x := hx
      have hxl := x.toNat_lt
      have htk : s.data.toList.take (k + 1) = s.data.toList.take k ++ [x] := by rw [List.take_succ_eq_append_getElem hkL, hx]
      have hul : u < 256 ^ k := by
        have := fixV_lt gr (s.data.toList.take k)
        rw [← hv.out, List.length_take, Nat.min_eq_left (by omega)] at this
        exact this
      have hp7 : 256 ^ k ≤ 72057594037927936 := Nat.le_trans (Nat.pow_le_pow_right (by omega) (show k ≤ 7 by omega)) (by decide)
      have hu8 : (u : Int) < 72057594037927936 := by omega
      have hxw : IntKind.u64.wrap (x.toNat : Int) = x.toNat := by rw [IntKind.wrap_u64]; omega
      cases gr with
      | true =>
        have hor : bits .or .u64 ((u : Int) * 256) (x.toNat : Int) = (u : Int) * 256 + x.toNat := bits_join .u64 64 (by decide) wraps_u64 8 _ _ (by omega) (by omega) (by omega) (by omega) (by omega) (by omega)
        have HV2 : Hid (u * 256 + x.toNat = fixV true (s.data.toList.take (k + 1))) := by show _ = _; rw [htk, fixV_true, ← hv.out]
        have HC : Hid ((u : Int) * 256 + x.toNat = ((u * 256 + x.toNat : Nat) : Int)) := by show _ = _; omega
        clear hx htk hul hp7
        go_wp2
        go_roundw
        case rel => exact ⟨k + 1, u * 256 + x.toNat, by omega, by go_num, congrArg (Value.int .u64) HC.out, HV2, rfl⟩
        case measure => simp [intOf]; omega
      | false =>
        obtain ⟨p, hp⟩ : ∃ p, 256 ^ k = p := ⟨_, rfl⟩
        have hpp := pow_256 k
        rw [hp] at hpp hul hp7
        have hp0 : 0 < p := by rw [← hp]; exact Nat.pow_pos (by omega)
        have hxp : x.toNat * p ≤ 255 * p := Nat.mul_le_mul_right _ (by omega)
        have hmm : (x.toNat : Int) * p = ((x.toNat * p : Nat) : Int) := by push_cast; rfl
        have hxpi : (x.toNat : Int) * p ≤ 18374686479671623680 := by rw [hmm]; omega
        have hxp0 : 0 ≤ (x.toNat : Int) * p := by rw [hmm]; omega
        have hwx : IntKind.u64.wrap ((x.toNat : Int) * p) = (x.toNat : Int) * p := by rw [IntKind.wrap_u64]; omega
        have hor : bits .or .u64 (u : Int) ((x.toNat : Int) * p) = (u : Int) + (x.toNat : Int) * p := bits_join_low .u64 64 (by decide) wraps_u64 (8 * k) _ _ (by omega) (by rw [hpp]; omega) (by omega) hxp0 (by rw [hpp]; exact Int.mul_emod_left _ _) (by omega)
        have HV2 : Hid (u + x.toNat * p = fixV false (s.data.toList.take (k + 1))) := by
          show _ = _; rw [htk, fixV_false, ← hv.out, List.length_take, Nat.min_eq_left (by omega), hp]
        have HC : Hid ((u : Int) + (x.toNat : Int) * p = ((u + x.toNat * p : Nat) : Int)) := by show _ = _; rw [hmm]; omega
        clear hx htk hul hp7 hmm hp hxp
        go_wp2
        go_roundw
        case rel => exact ⟨k + 1, u + x.toNat * p, by omega, by go_num, congrArg (Value.int .u64) HC.out, HV2, rfl⟩
        case measure => simp [intOf]; omega
    · obtain rfl : s.size = k := by omega
      have hvv := hv.out
      rw [List.take_of_length_le (by omega)] at hvv
      have hul : u < 256 ^ s.size := by
        have := fixV_lt gr s.data.toList
        rw [← hvv] at this
        exact this
      have HV := Lib.hid hvv
      clear hvv hlt
      cases sg with
      | false =>
        have hu64 : u < 18446744073709551616 := Nat.lt_of_lt_of_le hul (Nat.le_trans (Nat.pow_le_pow_right (by omega) hs8) (by decide))
        have hui : (u : Int) < 18446744073709551616 := by omega
        have HULX := Lib.hid hul
        clear hul
        by_cases hbig : u < 9223372036854775808
        · have hb1 : (u : Int) ≤ 9223372036854775807 := by omega
          have hww : wrap64 (u : Int) = u := by unfold wrap64; omega
          have HR : Hid (fixE false gr s.data.toList = .ok (u : Int)) := by show _ = _; unfold fixE; rw [if_neg (by decide), ← HV.out, if_pos hbig]
          go_wp2_with fail
          refine (c7 _ _ _ _ _ _).mono ?_
          rintro e w1 ⟨rfl, hb1'⟩
          have HB1 := Lib.hid (bThen HB0.out hb1')
          clear hb1'
          go_wp2
          go_ret2
          refine ⟨?_, HB1.out⟩
          rw [HR.out]; rfl
        · have hb1 : decide ((u : Int) ≤ 9223372036854775807) = false := decide_eq_false (by omega)
          have HR : Hid (fixE false gr s.data.toList = .error 5) := by show _ = _; unfold fixE; rw [if_neg (by decide), ← HV.out, if_neg hbig]
          go_wp2_with fail
          refine (c7 _ _ _ _ _ _).mono ?_
          rintro e w1 ⟨rfl, hb1'⟩
          have HB1 := Lib.hid (bThen HB0.out hb1')
          clear hb1'
          go_wp2
          go_ret2
          refine ⟨?_, HB1.out⟩
          rw [HR.out]; exact ⟨_, rfl⟩
      | true =>
        rcases HS.out with hz | hz | hz | hz
        · rw [hz] at hul
          have hul2 : u < 256 := hul
          have HR : Hid (fixE true gr s.data.toList = .ok (if 128 ≤ u then (u : Int) - 256 else (u : Int))) := by
            show _ = _
            unfold fixE
            rw [if_pos rfl, ← HV.out, hsl, hz]; rfl
          have HX : Hid (∀ z : Int, z = wrap64 ((u : Int) * 72057594037927936) / 72057594037927936 → z = (if 128 ≤ u then (u : Int) - 256 else (u : Int))) := by
            intro z hz'
            rw [hz']; unfold wrap64
            split <;> omega
          have hui : (u : Int) < 256 := by omega
          clear hul
          go_wp2_with fail
          refine (c7 _ _ _ _ _ _).mono ?_
          rintro e w1 ⟨rfl, hb1'⟩
          have HB1 := Lib.hid (bThen HB0.out hb1')
          clear hb1'
          go_wp2
          go_ret2
          refine ⟨?_, HB1.out⟩
          rw [HR.out]
          exact congrArg (fun z => Ending.returned (.tuple #[.int .i64 z, .bool true])) (HX.out (wrap64 ((u : Int) * 72057594037927936) / 72057594037927936) rfl)
        · rw [hz] at hul
          have hul2 : u < 65536 := hul
          have HR : Hid (fixE true gr s.data.toList = .ok (if 32768 ≤ u then (u : Int) - 65536 else (u : Int))) := by
            show _ = _
            unfold fixE
            rw [if_pos rfl, ← HV.out, hsl, hz]; rfl
          have HX : Hid (∀ z : Int, z = wrap64 ((u : Int) * 281474976710656) / 281474976710656 → z = (if 32768 ≤ u then (u : Int) - 65536 else (u : Int))) := by
            intro z hz'
            rw [hz']; unfold wrap64
            split <;> omega
          have hui : (u : Int) < 65536 := by omega
          clear hul
          go_wp2_with fail
          refine (c7 _ _ _ _ _ _).mono ?_
          rintro e w1 ⟨rfl, hb1'⟩
          have HB1 := Lib.hid (bThen HB0.out hb1')
          clear hb1'
          go_wp2
          go_ret2
          refine ⟨?_, HB1.out⟩
          rw [HR.out]
          exact congrArg (fun z => Ending.returned (.tuple #[.int .i64 z, .bool true])) (HX.out (wrap64 ((u : Int) * 281474976710656) / 281474976710656) rfl)
        · rw [hz] at hul
          have hul2 : u < 4294967296 := hul
          have HR : Hid (fixE true gr s.data.toList = .ok (if 2147483648 ≤ u then (u : Int) - 4294967296 else (u : Int))) := by
            show _ = _
            unfold fixE
            rw [if_pos rfl, ← HV.out, hsl, hz]; rfl
          have HX : Hid (∀ z : Int, z = wrap64 ((u : Int) * 4294967296) / 4294967296 → z = (if 2147483648 ≤ u then (u : Int) - 4294967296 else (u : Int))) := by
            intro z hz'
            rw [hz']; unfold wrap64
            split <;> omega
          have hui : (u : Int) < 4294967296 := by omega
          clear hul
          go_wp2_with fail
          refine (c7 _ _ _ _ _ _).mono ?_
          rintro e w1 ⟨rfl, hb1'⟩
          have HB1 := Lib.hid (bThen HB0.out hb1')
          clear hb1'
          go_wp2
          go_ret2
          refine ⟨?_, HB1.out⟩
          rw [HR.out]
          exact congrArg (fun z => Ending.returned (.tuple #[.int .i64 z, .bool true])) (HX.out (wrap64 ((u : Int) * 4294967296) / 4294967296) rfl)
        · rw [hz] at hul
          have hul2 : u < 18446744073709551616 := hul
          have HR : Hid (fixE true gr s.data.toList = .ok (if 9223372036854775808 ≤ u then (u : Int) - 18446744073709551616 else (u : Int))) := by
            show _ = _
            unfold fixE
            rw [if_pos rfl, ← HV.out, hsl, hz]; rfl
          have HX : Hid (∀ z : Int, z = wrap64 (u : Int) → z = (if 9223372036854775808 ≤ u then (u : Int) - 18446744073709551616 else (u : Int))) := by
            intro z hz'
            rw [hz']; unfold wrap64
            split <;> omega
          have hui : (u : Int) < 18446744073709551616 := by omega
          clear hul
          go_wp2_with fail
          refine (c7 _ _ _ _ _ _).mono ?_
          rintro e w1 ⟨rfl, hb1'⟩
          have HB1 := Lib.hid (bThen HB0.out hb1')
          clear hb1'
          go_wp2
          go_ret2
          refine ⟨?_, HB1.out⟩
          rw [HR.out]
          exact congrArg (fun z => Ending.returned (.tuple #[.int .i64 z, .bool true])) (HX.out (wrap64 (u : Int)) rfl)
end Go.Proofs.YtmbnckmhngijdaaGreatDoor
