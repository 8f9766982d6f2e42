/- Contracts of character and ofSevens. -/
import Derived.Test.YtmbnckmhngijdaaGreatDoorT
import Derived.Laws.RangeAny
import Derived.Lib.DecodeN
namespace Go.Proofs.YtmbnckmhngijdaaGreatDoor
open Go Go.RowKit

def chrP (l : List UInt8) : Except Nat (Int × Nat) :=
  if (Lib.decodeGo ⟨l.toArray⟩).1 = 65533 ∧ (Lib.decodeGo ⟨l.toArray⟩).2 = 1 then .error 1 else .ok ((Lib.decodeGo ⟨l.toArray⟩).1, (Lib.decodeGo ⟨l.toArray⟩).2)
/-- a number that is read: it, how many bytes it has, the error -/
def NumR (r : Except Nat (Int × Nat)) (w : World) (e : Ending) (w' : World) : Prop :=
  Below w.heap.size w w' ∧
  match r with
  | .error x => e = .returned (.tuple #[.int .i64 0, .int .i64 0, .int .i64 x]) ∧ x ≠ 0
  | .ok v => e = .returned (.tuple #[.int .i64 v.1, .int .i64 v.2, .int .i64 0])
theorem NumR.bad {r : Except Nat (Int × Nat)} {w w' : World} {x : Nat} (h : Hid (r = .error x)) (hx : x ≠ 0) (hb : Below w.heap.size w w') : NumR r w (.returned (.tuple #[.int .i64 0, .int .i64 0, .int .i64 x])) w' := by
  unfold NumR; rw [h.out]; exact ⟨hb, rfl, hx⟩
theorem NumR.good {r : Except Nat (Int × Nat)} {w w' : World} {v : Int} {n : Nat} (h : Hid (r = .ok (v, n))) (hb : Below w.heap.size w w') : NumR r w (.returned (.tuple #[.int .i64 v, .int .i64 n, .int .i64 0])) w' := by
  unfold NumR; rw [h.out]; exact ⟨hb, rfl⟩
theorem decodeGo_le (s : ByteArray) : (Lib.decodeGo s).1 ≤ 2147483647 ∧ (Lib.decodeGo s).2 ≤ 4 := by
  unfold Lib.decodeGo
  split
  · exact ⟨by decide, by decide⟩
  · refine ⟨decode_le s 0, ?_⟩
    rw [Lib.decode_at]
    unfold Lib.decodeN
    repeat' split
    all_goals simp
set_option maxHeartbeats 1000000 in
theorem t115 (s : ByteArray) (w : World) (hG : Gl w) : Calls Tryz.prog 115 #[.string s] w (NumR (chrP s.data.toList) w) := by
  have C := Tryz.utf8_DecodeRuneInString s w hG.u8
  have hle := decodeGo_le s
  have HC : Hid (chrP s.data.toList = if (Lib.decodeGo s).1 = 65533 ∧ (Lib.decodeGo s).2 = 1 then .error 1 else .ok ((Lib.decodeGo s).1, (Lib.decodeGo s).2)) := rfl
  generalize (Lib.decodeGo s).1 = r at *
  generalize (Lib.decodeGo s).2 = n at *
  obtain ⟨h1, h2⟩ := hle
  have h1i : (r : Int) ≤ 2147483647 := by omega
  by_cases hr : r = 65533
  · have d1 : ((r : Int) == 65533) = true := by rw [hr]; rfl
    by_cases hn : n = 1
    · have d2 : ((n : Int) == 1) = true := by rw [hn]; rfl
      have HE : Hid (chrP s.data.toList = .error 1) := by show _ = _; rw [HC.out, if_pos ⟨hr, hn⟩]
      clear hr hn
      go_enter Tryz.func115, Tryz.ntmps115
      go_wp2_with fail
      refine C.mono ?_
      rintro e w1 ⟨rfl, hb⟩
      go_wp2
      go_ret3
      exact NumR.bad HE (by decide) hb
    · have d2 : ((n : Int) == 1) = false := by rw [beq_eq_false_iff_ne]; omega
      have HE : Hid (chrP s.data.toList = .ok (r, n)) := by show _ = _; rw [HC.out, if_neg (fun h => hn h.2)]
      clear hr hn
      go_enter Tryz.func115, Tryz.ntmps115
      go_wp2_with fail
      refine C.mono ?_
      rintro e w1 ⟨rfl, hb⟩
      go_wp2
      go_ret3
      exact NumR.good HE hb
  · have d1 : ((r : Int) == 65533) = false := by rw [beq_eq_false_iff_ne]; omega
    have HE : Hid (chrP s.data.toList = .ok (r, n)) := by show _ = _; rw [HC.out, if_neg (fun h => hr h.1)]
    clear hr
    go_enter Tryz.func115, Tryz.ntmps115
    go_wp2_with fail
    refine C.mono ?_
    rintro e w1 ⟨rfl, hb⟩
    go_wp2
    go_ret3
    exact NumR.good HE hb
def sevT (l : List UInt8) : Except Nat (Int × Nat) := if l.head? = some 128 then .error 5 else sevR 9 0 0 l
def SevS (s : ByteArray) (i v : Value) : Prop :=
  ∃ (k u : Nat), k ≤ s.size ∧ k ≤ 9 ∧ i = .int .i64 k ∧ v = .int .i64 u ∧ u < 128 ^ k ∧ Hid (sevR (9 - k) k u (s.data.toList.drop k) = sevR 9 0 0 s.data.toList)
theorem pow9 (k : Nat) (h : k ≤ 9) : 128 ^ k ≤ 9223372036854775808 := Nat.le_trans (Nat.pow_le_pow_right (by omega) h) (by decide)
set_option maxRecDepth 100000 in
set_option maxHeartbeats 2000000 in
theorem t116 (s : ByteArray) (w : World) (h0 : 0 < s.size) (hs : s.size ≤ 1000000) : Calls Tryz.prog 116 #[.string s] w (NumR (sevT s.data.toList) w) := by
  have hsl : s.data.toList.length = s.size := rfl
  have hsi : (s.size : Int) ≤ 1000000 := by omega
  have h0i : (0 : Int) < s.size := by omega
  obtain ⟨b, hb⟩ : ∃ b, s.data.toList[0]'(by omega) = b := ⟨_, rfl⟩
  have hsb : s[0]'h0 = b := hb
  have hhd : s.data.toList.head? = some b := by rw [List.head?_eq_getElem?, List.getElem?_eq_getElem (by omega), hb]
  by_cases h128 : b = 128
  · have d1 := u8_eq (n := 128) (k := 128) rfl h128
    have HE : Hid (sevT s.data.toList = .error 5) := by show _ = _; unfold sevT; rw [if_pos (by rw [hhd, h128])]
    clear hhd h128 hb
    go_enter Tryz.func116, Tryz.ntmps116
    go_wp2
    go_ret3
    exact NumR.bad HE (by decide) (Below.refl _ _)
  · have d1 := u8_ne (n := 128) (k := 128) rfl h128
    have HE : Hid (sevT s.data.toList = sevR 9 0 0 s.data.toList) := by show _ = _; unfold sevT; rw [if_neg (by rw [hhd]; simpa using h128)]
    clear hhd h128 hb
    go_enter Tryz.func116, Tryz.ntmps116
    go_wp2
    go_loop [11, 2] (fun i v => SevS s i v) (fun i _ => s.size - (intOf i).toNat)
    case atStart => exact ⟨0, 0, Nat.zero_le _, Nat.zero_le _, rfl, rfl, by decide, rfl⟩
    case round =>
      obtain ⟨k, u, hk, hk9, rfl, rfl, hu, hrun⟩ := hrel
      have hup := pow9 k hk9
      by_cases hlt : k < s.size
      · have hlti : (k : Int) < s.size := by omega
        have hkL : k < s.data.toList.length := by omega
        obtain ⟨x, hx⟩ : ∃ x, s.data.toList[k]'hkL = x := ⟨_, rfl⟩
        have hsx : s[k]'hlt = x := hx
        have hxl := x.toNat_lt
        have hdr : s.data.toList.drop k = x :: s.data.toList.drop (k + 1) := by rw [List.drop_eq_getElem_cons hkL, hx]
        have hr2 := hrun.out
        rw [hdr] at hr2
        by_cases h9 : k = 9
        · subst h9
          have HE2 : Hid (sevT s.data.toList = .error 5) := by show _ = _; rw [HE.out, ← hr2]; rfl
          clear hr2 hdr hx
          go_wp2
          go_ret3
          exact NumR.bad HE2 (by decide) (Below.refl _ _)
        · have hk8 : k < 9 := by omega
          have h9b : ((k : Int) == 9) = false := by rw [beq_eq_false_iff_ne]; omega
          have hu8 : u < 72057594037927936 := by
            have : 128 ^ k ≤ 128 ^ 8 := Nat.pow_le_pow_right (by omega) (by omega)
            have e : 128 ^ 8 = 72057594037927936 := by decide
            omega
          have hui : (u : Int) < 72057594037927936 := by omega
          have hval : (u : Int) * 128 + (x.toNat : Int) % 128 = ((u * 128 + x.toNat % 128 : Nat) : Int) := by omega
          rw [show 9 - k = (9 - (k + 1)) + 1 by omega] at hr2
          have HV := Lib.hid hval
          have hu2 : u * 128 + x.toNat % 128 < 128 ^ (k + 1) := by rw [Nat.pow_succ]; omega
          have HU2 := Lib.hid hu2
          have hub : u * 128 + x.toNat % 128 ≤ 9223372036854775807 := by omega
          by_cases hlow : x.toNat < 128
          · have hlowi : (x.toNat : Int) < 128 := by omega
            have HE2 : Hid (sevT s.data.toList = .ok (((u * 128 + x.toNat % 128 : Nat) : Int), k + 1)) := by
              show _ = _; rw [HE.out, ← hr2, sevR, if_pos hlow]
            clear hr2 hdr hx hval h9
            go_wp2
            go_ret3
            rw [HV.out]
            exact NumR.good HE2 (Below.refl _ _)
          · have hlowi : decide ((x.toNat : Int) < 128) = false := decide_eq_false (by omega)
            have hr3 : Hid (sevR (9 - (k + 1)) (k + 1) (u * 128 + x.toNat % 128) (s.data.toList.drop (k + 1)) = sevR 9 0 0 s.data.toList) := by
              show _ = _; rw [← hr2, sevR, if_neg hlow]
            clear hr2 hdr hx hval h9 hlow
            go_wp2
            go_round
            case rel => exact ⟨k + 1, u * 128 + x.toNat % 128, by omega, by omega, by go_num, congrArg (Value.int .i64) HV.out, HU2.out, hr3⟩
            case measure => simp [intOf]; omega
      · obtain rfl : s.size = k := by omega
        have hr2 := hrun.out
        rw [List.drop_of_length_le (by omega)] at hr2
        have HE2 : Hid (sevT s.data.toList = .error 14) := by show _ = _; rw [HE.out, ← hr2]; cases 9 - s.size <;> rfl
        clear hr2 hlt
        go_wp2
        go_ret3
        exact NumR.bad HE2 (by decide) (Below.refl _ _)
end Go.Proofs.YtmbnckmhngijdaaGreatDoor
