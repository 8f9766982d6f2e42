/- Contracts of Int, the program's and the reference's. -/
import Derived.Test.YtifhiefdhhmdeaaGreatDoorV
import Derived.Test.YtifhiefdhhmdeaaGreatDoorXB
import Derived.Test.YtifhiefdhhmdeaaGreatDoorWA
import Derived.Lib.AtoiErrMem
namespace Go.Proofs.YtifhiefdhhmdeaaGreatDoor
open Go Go.RowKit

/-- what Int returns -/
def IntQ (l : List UInt8) (w : World) (e : Ending) (w' : World) : Prop :=
  (vldL l = false ∧ e = .returned (.tuple #[.int .i64 0, .int .i64 1]) ∧ Below w.heap.size w w') ∨
  (∃ z, IsNum l z ∧ e = .returned (.tuple #[.int .i64 (intV z), .int .i64 (intE z)]) ∧ Below w.heap.size w w')
theorem num_len {s : ByteArray} {z : Int} (h : IsNum s.data.toList z) : s.size ≤ 401 := by
  have h1 : s.size = s.data.toList.length := rfl
  rw [h1, h.1]
  have h2 := txt_length 10 z.natAbs (by omega)
  have h3 : (dgs 10 z.natAbs).length ≤ 400 := h.2
  unfold txtZ
  split
  · rw [List.length_cons, h2]; omega
  · rw [h2]; omega
theorem int_in {z : Int} (h : -9223372036854775808 ≤ z ∧ z ≤ 9223372036854775807) : intV z = z ∧ intE z = 0 := by unfold intV intE; rw [if_pos h, if_pos h]; exact ⟨rfl, rfl⟩
theorem int_out {z : Int} (h : ¬ (-9223372036854775808 ≤ z ∧ z ≤ 9223372036854775807)) : intV z = 0 ∧ intE z = 2 := by unfold intV intE; rw [if_neg h, if_neg h]; exact ⟨rfl, rfl⟩
set_option maxRecDepth 100000 in
set_option maxHeartbeats 4000000 in
theorem t27 (s : ByteArray) (ev : Value) (w : World) (hv : w.cell? ⟨2, 0, none⟩ = some ev) (hev : ∃ te pe, ev = .iface te pe) :
    Calls Tryz.prog 27 #[.string s] w (IntQ s.data.toList w) := by
  have V := Lib.hid (t48 s w)
  cases hvl : vldL s.data.toList with
  | false =>
    have v0 := V.out
    rw [hvl] at v0
    have V0 := Lib.hid v0
    have HV := Lib.hid hvl
    clear v0 hvl hv V
    go_enter Tryz.func27, Tryz.ntmps27
    go_wp2_with fail
    refine V0.out.mono ?_
    rintro e w1 ⟨rfl, rfl⟩
    go_wp2_with fail
    go_ret2
    exact .inl ⟨HV.out, rfl, Below.refl _ _⟩
  | true =>
    have v0 := V.out
    rw [hvl] at v0
    have V0 := Lib.hid v0
    obtain ⟨z, hz⟩ := (vldL_iff _).1 hvl
    have hl := num_len hz
    have hat := atoi_txtZ z
    rw [← hz.1] at hat
    have HZ := Lib.hid hz
    by_cases hin : -9223372036854775808 ≤ z ∧ z ≤ 9223372036854775807
    · rw [if_pos hin] at hat
      have A := Lib.hid (Tryz.strconv_Atoi_ok s (by omega) z hat w)
      have HI := Lib.hid (int_in hin)
      clear v0 hvl hv V hz hat hin hl
      go_enter Tryz.func27, Tryz.ntmps27
      go_wp2_with fail
      refine V0.out.mono ?_
      rintro e w1 ⟨rfl, rfl⟩
      go_wp2_with fail
      refine A.out.mono ?_
      rintro e w1 ⟨rfl, hw⟩
      have HB : Hid (Below w.heap.size w w1) := by
        rcases hw with rfl | ⟨t, rfl⟩
        · exact Below.refl _ _
        · exact Lib.bytesWorld_below w 5 t
      clear hw
      go_wp2_with fail
      go_ret2
      exact .inr ⟨z, HZ.out, by rw [HI.out.1, HI.out.2]; rfl, HB.out⟩
    · rw [if_neg hin] at hat
      have A := Lib.hid (Tryz.strconv_Atoi_range s (by omega) hat ev w hv (.inr hev))
      have HI := Lib.hid (int_out hin)
      clear v0 hvl hv V hz hat hin hl
      generalize Lib.atoiSat s.data.toList = sat at *
      go_enter Tryz.func27, Tryz.ntmps27
      go_wp2_with fail
      refine V0.out.mono ?_
      rintro e w1 ⟨rfl, rfl⟩
      go_wp2_with fail
      refine A.out.mono ?_
      rintro e w1 ⟨n, rfl, -, -, hb⟩
      have HB := Lib.hid hb
      clear hb
      go_wp2_with fail
      go_ret2
      exact .inr ⟨z, HZ.out, by rw [HI.out.1, HI.out.2]; rfl, HB.out⟩
theorem tdiv_lt (P c : Nat) (hc : 48 ≤ c ∧ c ≤ 57) : (-(P : Int) < (-9223372036854775808 + ((c : Int) - 48)).tdiv 10) ↔ 9223372036854775808 < P * 10 + (c - 48) := by
  rw [show (-9223372036854775808 + ((c : Int) - 48)) = -((9223372036854775808 - (c - 48) : Nat) : Int) by omega, Int.neg_tdiv, Int.tdiv_eq_ediv_of_nonneg (by omega)]
  omega
theorem pv_first {z : Int} {s : ByteArray} (h : s.data.toList = txtZ 10 z) (hp : 0 < s.size) : s[0].toNat = 45 ↔ z < 0 := by
  have h2 : s.data.toList.head? = some s[0] := by
    have h3 : s[0] = s.data[0]'hp := rfl
    rw [List.head?_eq_getElem?, h3]
    simp only [Array.getElem?_toList]
    exact Array.getElem?_eq_getElem hp
  rw [h] at h2
  have h4 := @num_sign z
  rw [h2] at h4
  constructor
  · intro h5
    have h6 : s[0] = 45 := UInt8.toNat_inj.1 h5
    rw [h6] at h4
    simpa using h4
  · intro h5
    have h7 : decide (z < 0) = true := by simpa using h5
    rw [h7] at h4
    have h8 : s[0] = 45 := by simpa using h4
    rw [h8]; rfl
set_option maxRecDepth 100000 in
set_option maxHeartbeats 4000000 in
theorem t28 (s : ByteArray) (w : World) (hs : s.size ≤ 9223372036854775807) : Calls Tryz.prog 28 #[.string s] w (IntQ s.data.toList w) := by
  have V := Lib.hid (t49 s w hs)
  cases hvl : vldL s.data.toList with
  | false =>
    have v0 := V.out
    rw [hvl] at v0
    have V0 := Lib.hid v0
    have HV := Lib.hid hvl
    clear v0 hvl V
    go_enter Tryz.func28, Tryz.ntmps28
    go_wp2_with fail
    refine V0.out.mono ?_
    rintro e w1 ⟨rfl, rfl⟩
    go_wp2_with fail
    go_ret2
    exact .inl ⟨HV.out, rfl, Below.refl _ _⟩
  | true =>
    have v0 := V.out
    rw [hvl] at v0
    have V0 := Lib.hid v0
    obtain ⟨z, hz⟩ := (vldL_iff _).1 hvl
    have hl := num_len hz
    have hp : 0 < s.size := by
      have h1 : s.size = s.data.toList.length := rfl
      rw [h1, hz.1]
      unfold txtZ
      split
      · simp
      · exact List.length_pos_iff.2 (txt_ne 10 _ (by omega))
    have HF := Lib.hid (pv_first hz.1 hp)
    have hpz := pv_txtZ z
    rw [← hz.1] at hpz
    have HPZ := Lib.hid hpz
    have HZ := Lib.hid hz
    have hmem : ∀ k (h : k < s.size), s[k].toNat = 45 ∨ (48 ≤ s[k].toNat ∧ s[k].toNat ≤ 57) := fun k h => by
      rcases txtZ_mem (z := z) (c := s[k]) (by rw [← hz.1]; exact List.getElem_mem (by simpa using h)) with h | h
      · exact .inl (by rw [h]; rfl)
      · exact .inr h
    have HMEM := Lib.hid hmem
    have hstep : ∀ k (h : k < s.size), pv (s.data.toList.take (k + 1)) = if s[k].toNat = 45 then pv (s.data.toList.take k) else pv (s.data.toList.take k) * 10 + (s[k].toNat - 48) := fun k h => by
      have h1 := pv_take s.data.toList k (by simpa using h)
      rw [show s.data.toList[k]'(by simpa using h) = s[k] from rfl] at h1
      rw [h1]
      by_cases h2 : s[k] = 45
      · rw [if_pos h2, if_pos (by rw [h2]; rfl)]
      · have h4 : ¬ (s[k].toNat = 45) := fun h3 => h2 (UInt8.toNat_inj.1 (by rw [h3]; rfl))
        rw [if_neg h2, if_neg h4]
    have HSTEP := Lib.hid hstep
    have HLE := Lib.hid (fun k => pv_le s.data.toList k)
    have hall : s.data.toList.take s.size = s.data.toList := List.take_of_length_le (by simp)
    have HALL := Lib.hid hall
    clear v0 hvl V hz hpz hmem hstep hall hs
    by_cases hz : z < 0
    · have h45 : ((s[0].toNat : Int) == 45) = true := by have := HF.out.2 hz; rw [this]; rfl
      have HN := Lib.hid hz
      clear hz
      go_enter Tryz.func28, Tryz.ntmps28
      go_wp2_with fail
      refine V0.out.mono ?_
      rintro e w1 ⟨rfl, rfl⟩
      go_wp2_with fail
      clear h45 V0
      go_loop [5, 6] (fun n i => ∃ k : Nat, k ≤ s.size ∧ i = .int .i64 k ∧ n = .int .i64 (-(pv (s.data.toList.take k) : Int)) ∧ pv (s.data.toList.take k) ≤ 9223372036854775808) (fun _ i => s.size - (intOf i).toNat)
      case atStart => exact ⟨0, Nat.zero_le _, rfl, rfl, Nat.zero_le _⟩
      case round =>
        obtain ⟨k, hk, rfl, rfl, hP⟩ := hrel
        by_cases hlt : k < s.size
        · have hst := HSTEP.out k hlt
          have hle := HLE.out (k + 1)
          rw [HPZ.out] at hle
          generalize pv (s.data.toList.take k) = P at *
          by_cases hc : s[k].toNat = 45
          · rw [if_pos hc] at hst
            have hci : (s[k].toNat : Int) = 45 := by omega
            have HST := Lib.hid hst
            clear hst hle hc
            go_wp2
            go_round
            case rel => exact ⟨k + 1, by omega, by go_num, by rw [HST.out], by rw [HST.out]; exact hP⟩
            case measure => simp [intOf]; omega
          · have hd := (HMEM.out k hlt).resolve_left hc
            rw [if_neg hc] at hst
            have hci : ¬ ((s[k].toNat : Int) = 45) := by omega
            have h48 : 48 ≤ (s[k].toNat : Int) := by omega
            have h57 : (s[k].toNat : Int) ≤ 57 := by omega
            have ht := tdiv_lt P s[k].toNat hd
            have HST := Lib.hid hst
            have HLE1 := Lib.hid hle
            clear hst hle hc hd
            by_cases ho : -(P : Int) < (-9223372036854775808 + ((s[k].toNat : Int) - 48)).tdiv 10
            · have HO := Lib.hid (ht.1 ho)
              clear ht
              go_wp2
              go_ret2
              have hz3 : ¬ (-9223372036854775808 ≤ z ∧ z ≤ 9223372036854775807) := by
                have h1 := HST.out; have h2 := HLE1.out; have h3 := HO.out; have h4 := HN.out
                omega
              exact .inr ⟨z, HZ.out, by rw [(int_out hz3).1, (int_out hz3).2]; rfl, Below.refl _ _⟩
            · have HO := Lib.hid (fun h => ho (ht.2 h))
              have ho' : (-9223372036854775808 + ((s[k].toNat : Int) - 48)).tdiv 10 ≤ -(P : Int) := by omega
              have hP2 : (P : Int) ≤ 922337203685477580 := by have h3 := HO.out; omega
              have hP3 : (P : Int) * 10 + ((s[k].toNat : Int) - 48) ≤ 9223372036854775808 := by have h3 := HO.out; omega
              clear ht ho
              go_wp2
              go_round
              case rel => exact ⟨k + 1, by omega, by go_num, by rw [HST.out]; go_num, by rw [HST.out]; omega⟩
              case measure => simp [intOf]; omega
        · obtain rfl : k = s.size := by omega
          rw [HALL.out, HPZ.out] at hP ⊢
          have HP := Lib.hid hP
          clear hlt hk hP
          go_wp2
          go_ret2
          have hz3 : -9223372036854775808 ≤ z ∧ z ≤ 9223372036854775807 := by have h1 := HP.out; have h2 := HN.out; omega
          have hz4 : -((z.natAbs : Nat) : Int) = z := by have h2 := HN.out; omega
          exact .inr ⟨z, HZ.out, by rw [(int_in hz3).1, (int_in hz3).2, hz4]; rfl, Below.refl _ _⟩
    · have h45 : ((s[0].toNat : Int) == 45) = false := by have h1 : ¬ (s[0].toNat = 45) := fun h => hz (HF.out.1 h); simp; omega
      have HN := Lib.hid hz
      clear hz
      go_enter Tryz.func28, Tryz.ntmps28
      go_wp2_with fail
      refine V0.out.mono ?_
      rintro e w1 ⟨rfl, rfl⟩
      go_wp2_with fail
      clear h45 V0
      go_loop [5, 6] (fun n i => ∃ k : Nat, k ≤ s.size ∧ i = .int .i64 k ∧ n = .int .i64 (-(pv (s.data.toList.take k) : Int)) ∧ pv (s.data.toList.take k) ≤ 9223372036854775808) (fun _ i => s.size - (intOf i).toNat)
      case atStart => exact ⟨0, Nat.zero_le _, rfl, rfl, Nat.zero_le _⟩
      case round =>
        obtain ⟨k, hk, rfl, rfl, hP⟩ := hrel
        by_cases hlt : k < s.size
        · have hst := HSTEP.out k hlt
          have hle := HLE.out (k + 1)
          rw [HPZ.out] at hle
          generalize pv (s.data.toList.take k) = P at *
          by_cases hc : s[k].toNat = 45
          · rw [if_pos hc] at hst
            have hci : (s[k].toNat : Int) = 45 := by omega
            have HST := Lib.hid hst
            clear hst hle hc
            go_wp2
            go_round
            case rel => exact ⟨k + 1, by omega, by go_num, by rw [HST.out], by rw [HST.out]; exact hP⟩
            case measure => simp [intOf]; omega
          · have hd := (HMEM.out k hlt).resolve_left hc
            rw [if_neg hc] at hst
            have hci : ¬ ((s[k].toNat : Int) = 45) := by omega
            have h48 : 48 ≤ (s[k].toNat : Int) := by omega
            have h57 : (s[k].toNat : Int) ≤ 57 := by omega
            have ht := tdiv_lt P s[k].toNat hd
            have HST := Lib.hid hst
            have HLE1 := Lib.hid hle
            clear hst hle hc hd
            by_cases ho : -(P : Int) < (-9223372036854775808 + ((s[k].toNat : Int) - 48)).tdiv 10
            · have HO := Lib.hid (ht.1 ho)
              clear ht
              go_wp2
              go_ret2
              have hz3 : ¬ (-9223372036854775808 ≤ z ∧ z ≤ 9223372036854775807) := by
                have h1 := HST.out; have h2 := HLE1.out; have h3 := HO.out; have h4 := HN.out
                omega
              exact .inr ⟨z, HZ.out, by rw [(int_out hz3).1, (int_out hz3).2]; rfl, Below.refl _ _⟩
            · have HO := Lib.hid (fun h => ho (ht.2 h))
              have ho' : (-9223372036854775808 + ((s[k].toNat : Int) - 48)).tdiv 10 ≤ -(P : Int) := by omega
              have hP2 : (P : Int) ≤ 922337203685477580 := by have h3 := HO.out; omega
              have hP3 : (P : Int) * 10 + ((s[k].toNat : Int) - 48) ≤ 9223372036854775808 := by have h3 := HO.out; omega
              clear ht ho
              go_wp2
              go_round
              case rel => exact ⟨k + 1, by omega, by go_num, by rw [HST.out]; go_num, by rw [HST.out]; omega⟩
              case measure => simp [intOf]; omega
        · obtain rfl : k = s.size := by omega
          rw [HALL.out, HPZ.out] at hP ⊢
          have HP := Lib.hid hP
          clear hlt hk hP
          by_cases hmax : z.natAbs = 9223372036854775808
          · have hz5 : (-((z.natAbs : Nat) : Int) == -9223372036854775808) = true := by rw [hmax]; rfl
            have HM := Lib.hid hmax
            clear hmax
            go_wp2
            go_ret2
            have hz3 : ¬ (-9223372036854775808 ≤ z ∧ z ≤ 9223372036854775807) := by have h1 := HM.out; have h2 := HN.out; omega
            exact .inr ⟨z, HZ.out, by rw [(int_out hz3).1, (int_out hz3).2]; rfl, Below.refl _ _⟩
          · have hz5 : (-((z.natAbs : Nat) : Int) == -9223372036854775808) = false := by simp; omega
            have hb1 : ((z.natAbs : Nat) : Int) ≤ 9223372036854775807 := by have h1 := HP.out; omega
            have HM := Lib.hid hmax
            clear hmax
            go_wp2
            go_ret2
            have hz3 : -9223372036854775808 ≤ z ∧ z ≤ 9223372036854775807 := by have h1 := HM.out; have h3 := HP.out; have h2 := HN.out; omega
            have hz4 : ((z.natAbs : Nat) : Int) = z := by have h2 := HN.out; omega
            exact .inr ⟨z, HZ.out, by rw [(int_in hz3).1, (int_in hz3).2]; simp [hz4], Below.refl _ _⟩
end Go.Proofs.YtifhiefdhhmdeaaGreatDoor
