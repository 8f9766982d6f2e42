/- Contract of Valid. -/
import Derived.Test.YtifhiefdhhmdeaaGreatDoorS
namespace Go.Proofs.YtifhiefdhhmdeaaGreatDoor
open Go Go.RowKit

theorem trim_unsign (l : List UInt8) : Lib.trimPrefix l [45] = unsign l := by
  unfold Lib.trimPrefix Lib.hasPrefix
  cases l with
  | nil => rfl
  | cons c m =>
    by_cases h : c = 45
    · subst h; rfl
    · rw [unsign_of_ne (by simpa using h), if_neg]
      simp [List.isPrefixOf]
      intro h2; exact h h2.symm
theorem prefix_sign (l : List UInt8) : Lib.hasPrefix l [45] = decide (l.head? = some 45) := by
  unfold Lib.hasPrefix
  cases l with
  | nil => rfl
  | cons c m =>
    rw [Bool.eq_iff_iff]
    simp [List.isPrefixOf]
    exact ⟨fun h => h.symm, fun h => h.symm⟩

theorem vld_core (l : List UInt8) (h1 : unsign l ≠ []) (h2 : (unsign l).length ≤ 400) (h3 : (unsign l).all isD = true) : vldL l = (decide ((unsign l).head? ≠ some 48) || decide (l = [48])) := by
  unfold vldL; rw [h3]; simp [h1, h2]
set_option maxRecDepth 100000 in
set_option maxHeartbeats 2000000 in
theorem t48 (s : ByteArray) (w : World) :
    Calls Tryz.prog 48 #[.string s] w fun e w' => e = .returned (.bool (vldL s.data.toList)) ∧ w = w' := by
  have c1 := Tryz.strings_CutPrefix s ⟨#[45]⟩ w
  rw [show ((⟨#[45]⟩ : ByteArray).data.toList) = [45] from rfl, trim_unsign] at c1
  obtain ⟨t, ht⟩ : ∃ t : ByteArray, t = ⟨(unsign s.data.toList).toArray⟩ := ⟨_, rfl⟩
  have htl : t.data.toList = unsign s.data.toList := by rw [ht]
  rw [← ht] at c1
  have hts : (unsign s.data.toList).length = t.size := by rw [← htl]; rfl
  have hle : t.size ≤ s.size := by
    rw [← hts]
    have h1 : (unsign s.data.toList).length ≤ s.data.toList.length := by
      unfold unsign
      split
      · rename_i h; rw [h]; simp
      · exact Nat.le_refl _
    exact h1
  have HTL := Lib.hid htl
  have HTS := Lib.hid hts
  have C1 := Lib.hid c1
  clear ht htl hts c1
  by_cases h0 : t.size = 0
  · have hr : Hid (vldL s.data.toList = false) := by
      show _ = _
      unfold vldL
      have : unsign s.data.toList = [] := List.length_eq_zero_iff.1 (by rw [HTS.out]; exact h0)
      rw [this]; simp
    have h1 : t.toList.isEmpty = true := by
      rw [ByteArray.toList_eq, List.isEmpty_iff]
      exact List.length_eq_zero_iff.1 h0
    clear h0
    go_enter Tryz.func48, Tryz.ntmps48
    go_wp2_with fail
    refine C1.out.mono ?_
    rintro e w' ⟨rfl, rfl⟩
    go_wp2_with fail
    go_ret
    exact ⟨by rw [hr.out]; rfl, rfl⟩
  · have h1 : t.toList.isEmpty = false := by
      rw [ByteArray.toList_eq]
      cases hx : t.data.toList with
      | nil => exact absurd (by show t.data.toList.length = 0; rw [hx]; rfl) h0
      | cons c m => rfl
    have h1' : (!t.toList.isEmpty) = true := by rw [h1]; rfl
    by_cases h4 : t.size ≤ 400
    · have h4i : (t.size : Int) ≤ 400 := by omega
      have hpos : 0 < t.size := by omega
      have hne : Hid (unsign s.data.toList ≠ []) := fun h => by rw [h] at HTS; have := HTS.out; simp at this; omega
      clear h0
      go_enter Tryz.func48, Tryz.ntmps48
      go_wp2_with fail
      refine C1.out.mono ?_
      rintro e w' ⟨rfl, rfl⟩
      go_wp2_with fail
      go_loop [20] (fun i => ∃ k : Nat, k ≤ t.size ∧ i = .int .i64 k ∧ Hid (((unsign s.data.toList).take k).all isD = true)) (fun i => t.size - (intOf i).toNat)
      case atStart => exact ⟨0, by omega, rfl, rfl⟩
      case round =>
        obtain ⟨k, hk, rfl, hall⟩ := hrel
        by_cases hlt : k < t.size
        · have hkl : k < (unsign s.data.toList).length := by rw [HTS.out]; exact hlt
          have hgk : Hid ((unsign s.data.toList)[k] = t[k]) := by
            show _ = t.data.toList[k]
            simp only [HTL.out]
          by_cases hd : isD t[k] = true
          · have hd2 : (48 : Int) ≤ t[k].toNat ∧ (t[k].toNat : Int) ≤ 57 := by
              unfold isD at hd; simp at hd; omega
            obtain ⟨hd3, hd4⟩ := hd2
            have hall2 : Hid (((unsign s.data.toList).take (k + 1)).all isD = true) := by
              show _ = _
              rw [List.take_succ_eq_append_getElem hkl, List.all_append, hall.out, hgk.out]
              simp [hd]
            clear hd
            go_wp2
            go_round
            case rel => exact ⟨k + 1, by omega, by go_num, hall2⟩
            case measure => first | (simp [intOf]; omega) | simp [intOf]
          · have hr : Hid (vldL s.data.toList = false) := by
              show _ = _
              unfold vldL
              have : (unsign s.data.toList).all isD = false := by
                cases hx : (unsign s.data.toList).all isD with
                | false => rfl
                | true => exact absurd (by rw [← hgk.out]; exact List.all_eq_true.1 hx _ (List.getElem_mem hkl)) hd
              rw [this]; simp
            by_cases hlow : t[k].toNat < 48
            · have hlow2 : (t[k].toNat : Int) < 48 := by omega
              clear hd hlow
              go_wp2
              go_ret
              exact ⟨by rw [hr.out]; rfl, rfl⟩
            · have hlow2 : (48 : Int) ≤ (t[k].toNat : Int) := by omega
              have hhigh : (57 : Int) < t[k].toNat := by unfold isD at hd; simp at hd; omega
              clear hd hlow
              go_wp2
              go_ret
              exact ⟨by rw [hr.out]; rfl, rfl⟩
        · obtain rfl : k = t.size := by omega
          have hall2 := hall.out
          rw [List.take_of_length_le (by rw [HTS.out]; omega)] at hall2
          have HALL := Lib.hid hall2
          clear hall2 hall
          have hv := vld_core s.data.toList hne.out (by rw [HTS.out]; exact h4) HALL.out
          have hhd : (unsign s.data.toList).head? = some t[0] := by
            rw [← HTL.out, List.head?_eq_getElem?, List.getElem?_eq_getElem (show 0 < t.data.toList.length from hpos)]
            rfl
          rw [hhd] at hv
          have HV := Lib.hid hv
          clear hv hhd
          by_cases hz : (t[0].toNat : Int) = 48
          · have hz2 : Hid (t[0] = 48) := UInt8.toNat_inj.1 (by simp; omega)
            go_wp2
            go_ret
            refine ⟨?_, rfl⟩
            rw [HV.out, hz2.out]
            have : (s.toList == [48]) = decide (s.data.toList = [48]) := by
              rw [ByteArray.toList_eq, Bool.eq_iff_iff]; simp
            simp [this]
          · have hz2 : Hid (t[0] ≠ 48) := fun h => hz (by rw [h]; rfl)
            go_wp2
            go_ret
            refine ⟨?_, rfl⟩
            rw [HV.out]
            simp [hz2.out]
    · have h4i : (400 : Int) < t.size := by omega
      have hr : Hid (vldL s.data.toList = false) := by
        show _ = _
        unfold vldL
        rw [HTS.out]
        simp [h4]
      clear h0
      go_enter Tryz.func48, Tryz.ntmps48
      go_wp2_with fail
      refine C1.out.mono ?_
      rintro e w' ⟨rfl, rfl⟩
      go_wp2_with fail
      go_ret
      exact ⟨by rw [hr.out]; rfl, rfl⟩
end Go.Proofs.YtifhiefdhhmdeaaGreatDoor
