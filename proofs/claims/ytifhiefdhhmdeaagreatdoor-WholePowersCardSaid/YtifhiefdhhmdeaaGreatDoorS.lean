/- Contracts of digitOf, readNatural, Valid. -/
import Derived.Test.YtifhiefdhhmdeaaGreatDoorR
namespace Go.Proofs.YtifhiefdhhmdeaaGreatDoor
open Go Go.RowKit

def symsB : ByteArray := ⟨#[48, 49, 50, 51, 52, 53, 54, 55, 56, 57, 97, 98, 99, 100, 101, 102, 103, 104, 105, 106, 107, 108, 109, 110, 111, 112, 113, 114, 115, 116, 117, 118, 119, 120, 121, 122]⟩
theorem syms_take (b : Nat) : (symsB.extract 0 b).data.toList = syms.take b := by
  rw [ByteArray.data_extract, Array.toList_extract]; simp [symsB, syms]
theorem index_find (l : List UInt8) (c : UInt8) : Lib.indexByte l c = match l.findIdx? (· == c) with | some d => (d : Int) | none => -1 := by
  induction l with
  | nil => rfl
  | cons b l ih =>
    rw [List.findIdx?_cons]
    unfold Lib.indexByte
    by_cases hb : (b == c) = true
    · simp [hb]
    · simp only [hb, Bool.false_eq_true, if_false]
      rw [ih]
      cases hf : l.findIdx? (· == c) with
      | none => simp
      | some d =>
        simp
        first | done | omega
theorem index_dig (b : Nat) (c : UInt8) : Lib.indexByte (syms.take b) (lowC c) = match digC b c with | some d => (d : Int) | none => -1 := index_find _ _
theorem low_big (c : UInt8) (h1 : 65 ≤ c.toNat) (h2 : c.toNat ≤ 90) : ((c.toNat : Int) + 32).toNat.toUInt8 = lowC c := by
  unfold lowC
  rw [if_pos ⟨h1, h2⟩]
  apply UInt8.toNat_inj.1
  rw [UInt8.toNat_add]
  have : ((c.toNat : Int) + 32).toNat = c.toNat + 32 := by omega
  rw [this]
  simp
theorem low_small (c : UInt8) (h : c.toNat < 65 ∨ 90 < c.toNat) : ((c.toNat : Int)).toNat.toUInt8 = lowC c := by
  unfold lowC
  rw [if_neg (by omega), Int.toNat_natCast]
  simp

set_option maxRecDepth 100000 in
set_option maxHeartbeats 1000000 in
theorem t129 (c : UInt8) (b : Nat) (w : World) (hb : b ≤ 36) :
    Calls Tryz.prog 129 #[.int .u8 c.toNat, .int .i64 b] w fun e w' => e = .returned (.tuple #[.int .i64 (((digC b c).getD 0 : Nat) : Int), .bool (digC b c).isSome]) ∧ w = w' := by
  have hlt := c.toNat_lt
  have hx := index_dig b c
  have CI : ∀ (x : Int), x.toNat.toUInt8 = lowC c → Hid (Calls Tryz.prog 75 #[.string (symsB.extract 0 b), .int .u8 x] w fun e w' => e = .returned (.int .i64 (match digC b c with | some d => (d : Int) | none => -1)) ∧ w' = w) := fun x hx' => by
    have := Tryz.strings_IndexByte (symsB.extract 0 b) x w
    rw [syms_take, hx', hx] at this
    exact this
  have hbi : (b : Int) ≤ 36 := by omega
  cases hd : digC b c with
  | none =>
    rw [hd] at CI
    by_cases h1 : 65 ≤ c.toNat
    · by_cases h2 : c.toNat ≤ 90
      · have C := CI _ (low_big c h1 h2)
        clear CI hx hd
        go_enter Tryz.func129, Tryz.ntmps129
        go_wp2_with fail
        refine C.out.mono ?_
        rintro e w' ⟨rfl, rfl⟩
        go_wp2
        go_ret2
        simp
        rfl
      · have h2' : 90 < c.toNat := by omega
        have C := CI _ (low_small c (.inr h2'))
        clear CI hx hd h2
        go_enter Tryz.func129, Tryz.ntmps129
        go_wp2_with fail
        refine C.out.mono ?_
        rintro e w' ⟨rfl, rfl⟩
        go_wp2
        go_ret2
        simp
        rfl
    · have h1' : c.toNat < 65 := by omega
      have C := CI _ (low_small c (.inl h1'))
      clear CI hx hd h1
      go_enter Tryz.func129, Tryz.ntmps129
      go_wp2_with fail
      refine C.out.mono ?_
      rintro e w' ⟨rfl, rfl⟩
      go_wp2
      go_ret2
      simp
      rfl
  | some d =>
    rw [hd] at CI
    have hdb := digC_lt hd
    by_cases h1 : 65 ≤ c.toNat
    · by_cases h2 : c.toNat ≤ 90
      · have C := CI _ (low_big c h1 h2)
        clear CI hx hd
        go_enter Tryz.func129, Tryz.ntmps129
        go_wp2_with fail
        refine C.out.mono ?_
        rintro e w' ⟨rfl, rfl⟩
        go_wp2
        go_ret2
        simp
      · have h2' : 90 < c.toNat := by omega
        have C := CI _ (low_small c (.inr h2'))
        clear CI hx hd h2
        go_enter Tryz.func129, Tryz.ntmps129
        go_wp2_with fail
        refine C.out.mono ?_
        rintro e w' ⟨rfl, rfl⟩
        go_wp2
        go_ret2
        simp
    · have h1' : c.toNat < 65 := by omega
      have C := CI _ (low_small c (.inl h1'))
      clear CI hx hd h1
      go_enter Tryz.func129, Tryz.ntmps129
      go_wp2_with fail
      refine C.out.mono ?_
      rintro e w' ⟨rfl, rfl⟩
      go_wp2
      go_ret2
      simp

/-- what reading digits returns -/
def RdR (o : Option Nat) (w : World) (e : Ending) (w' : World) : Prop :=
  match o with
  | none => e = .returned (.tuple #[.slice none 0 0, .bool false]) ∧ Below w.heap.size w w'
  | some n => ∃ v, e = .returned (.tuple #[v, .bool true]) ∧ Own32 w' w.heap.size v n ∧ Below w.heap.size w w'
theorem rdU_cons_under (b : Nat) (l : List UInt8) (acc : Nat) : rdU b (95 :: l) true acc = rdU b l false acc := by simp [rdU]
theorem rdU_cons_none (b : Nat) (c : UInt8) (l : List UInt8) (bd : Bool) (acc : Nat) (h : ¬ (c = 95 ∧ bd = true)) (hd : digC b c = none) : rdU b (c :: l) bd acc = none := by
  rw [rdU, if_neg h, hd]
theorem rdU_cons_some (b : Nat) (c : UInt8) (l : List UInt8) (bd : Bool) (acc d : Nat) (h : ¬ (c = 95 ∧ bd = true)) (hd : digC b c = some d) : rdU b (c :: l) bd acc = rdU b l true (acc * b + d) := by
  rw [rdU, if_neg h, hd]
theorem Own32.below {w w' : World} {B : Nat} {v : Value} {n : Nat} (h : Own32 w B v n) (hb : Below w.heap.size w w') : Own32 w' B v n := ownsRow_below h hb

set_option maxRecDepth 100000 in
set_option maxHeartbeats 2000000 in
theorem t72 (s : ByteArray) (b : Nat) (w : World) (hs : s.size ≤ 10000) (hb0 : 2 ≤ b) (hb : b ≤ 36) :
    Calls Tryz.prog 72 #[.string s, .int .i64 b] w (RdR (rdN b s.data.toList) w) := by
  have hsl : Hid (s.data.toList.length = s.size) := rfl
  go_enter Tryz.func72, Tryz.ntmps72
  go_wp2
  go_loopw [13, 6, 7] (fun i v bd wr => ∃ (k acc : Nat) (d : Bool), k ≤ s.size ∧ i = .int .i64 k ∧ bd = .bool d ∧ Lw acc ≤ 2 * k ∧ Hid (Own32 wr w.heap.size v acc) ∧ Hid (rdU b (s.data.toList.drop k) d acc = rdN b s.data.toList) ∧ Below w.heap.size w wr) (fun i _ _ _ => s.size - (intOf i).toNat)
  case atStart => exact ⟨0, 0, false, by omega, rfl, rfl, by simp [Lw], World.ownsRow_nil _ _ _ _, rfl, Below.refl _ _⟩
  case round =>
    obtain ⟨k, acc, bd, hk, rfl, rfl, hla, hv, hr, hbl⟩ := hrel
    by_cases hlt : k < s.size
    · have hkl : k < s.data.toList.length := by rw [hsl.out]; exact hlt
      have hdc := List.drop_eq_getElem_cons hkl
      have hr2 := hr.out
      rw [hdc] at hr2
      have hgk : s.data.toList[k] = s[k] := rfl
      rw [hgk] at hr2
      have hcl := s[k].toNat_lt
      have hub : (s[k].toNat : Int) = 95 ↔ s[k] = 95 := ⟨fun h => UInt8.toNat_inj.1 (by simp; omega), fun h => by rw [h]; rfl⟩
      have HUB := Lib.hid hub
      have c1 := t129 s[k] b wr (by omega)
      have C1 := Lib.hid c1
      have HS := Lib.hid (fun v acc d w h h1 h2 h3 h4 => t130 v acc b d h w h1 h2 h3 (by omega : 0 < b) hb h4)
      clear hdc hgk hr hub c1
      by_cases hu : s[k] = 95 ∧ bd = true
      · obtain ⟨h95, rfl⟩ := hu
        have h95i : (s[k].toNat : Int) = 95 := HUB.out.2 h95
        rw [h95, rdU_cons_under] at hr2
        have HR2 := Lib.hid hr2
        clear hr2 h95
        go_wp2
        go_roundw
        case rel => exact ⟨k + 1, acc, false, by omega, by go_num, rfl, by omega, hv, HR2, hbl⟩
        case measure => first | (simp [intOf]; omega) | simp [intOf]
      · cases hd : digC b s[k] with
        | none =>
          rw [rdU_cons_none b _ _ bd acc hu hd] at hr2
          have HR2 := Lib.hid hr2
          rw [hd] at C1
          clear hr2
          by_cases h95 : (s[k].toNat : Int) = 95
          · have hbd : bd = false := by cases bd; rfl; exact absurd ⟨HUB.out.1 h95, rfl⟩ hu
            rw [h95] at C1
            subst hbd
            clear hd hu
            go_wp2_with fail
            refine C1.out.mono ?_
            rintro e w2 ⟨rfl, rfl⟩
            go_wp2_with fail
            go_ret2
            show RdR _ _ _ _
            rw [← HR2.out]
            exact ⟨rfl, hbl⟩
          · clear hd hu
            go_wp2_with fail
            refine C1.out.mono ?_
            rintro e w2 ⟨rfl, rfl⟩
            go_wp2_with fail
            go_ret2
            show RdR _ _ _ _
            rw [← HR2.out]
            exact ⟨rfl, hbl⟩
        | some d =>
          rw [rdU_cons_some b _ _ bd acc d hu hd] at hr2
          have HR2 := Lib.hid hr2
          have hdb := digC_lt hd
          have hle := Lw_ext acc b d (by omega) (by omega)
          rw [hd] at C1
          clear hr2
          by_cases h95 : (s[k].toNat : Int) = 95
          · have hbd : bd = false := by cases bd; rfl; exact absurd ⟨HUB.out.1 h95, rfl⟩ hu
            rw [h95] at C1
            subst hbd
            clear hd hu
            go_wp2_with fail
            refine C1.out.mono ?_
            rintro e w2 ⟨rfl, rfl⟩
            go_wp2_with fail
            refine (HS.out u6 acc d _ _ hv.out hbl.size (by omega) hdb).mono ?_
            rintro e w3 ⟨v3, rfl, hv3, hb3⟩
            go_wp2_with fail
            go_roundw
            case rel => exact ⟨k + 1, acc * b + d, true, by omega, by go_num, rfl, by omega, hv3, HR2, hbl.trans hb3⟩
            case measure => first | (simp [intOf]; omega) | simp [intOf]
          · clear hd hu
            go_wp2_with fail
            refine C1.out.mono ?_
            rintro e w2 ⟨rfl, rfl⟩
            go_wp2_with fail
            refine (HS.out u6 acc d _ _ hv.out hbl.size (by omega) hdb).mono ?_
            rintro e w3 ⟨v3, rfl, hv3, hb3⟩
            go_wp2_with fail
            go_roundw
            case rel => exact ⟨k + 1, acc * b + d, true, by omega, by go_num, rfl, by omega, hv3, HR2, hbl.trans hb3⟩
            case measure => first | (simp [intOf]; omega) | simp [intOf]
    · obtain rfl : k = s.size := by omega
      have hr2 := hr.out
      rw [List.drop_of_length_le (by rw [hsl.out]; omega)] at hr2
      have HR2 := Lib.hid hr2
      clear hr2
      cases bd with
      | false =>
        go_wp2
        go_ret2
        show RdR _ _ _ _
        rw [← HR2.out]
        exact ⟨rfl, hbl⟩
      | true =>
        go_wp2
        go_ret2
        show RdR _ _ _ _
        rw [← HR2.out]
        exact ⟨_, rfl, hv.out, hbl⟩
end Go.Proofs.YtifhiefdhhmdeaaGreatDoor
