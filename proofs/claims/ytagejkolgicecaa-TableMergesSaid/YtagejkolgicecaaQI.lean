/- The reference: Same. -/
import Derived.Test.YtagejkolgicecaaKE
import Derived.Test.YtagejkolgicecaaQH
namespace Go.Proofs.Ytagejkolgicecaa
open Go Go.RowKit Go.Maps
section
variable {F G : Nat → Prop} {r s : Nat} {R R2 : Rt}
set_option maxRecDepth 100000 in
set_option maxHeartbeats 4000000 in
theorem t36 (w : World) (h : RTab F w r R) (h2 : RTab G w s R2) (hl : R.rows.length ≤ 500) (hl2 : R2.rows.length ≤ 500) :
    Calls Try.prog 36 #[.pointer (some ⟨r, 0, none⟩), .pointer (some ⟨s, 0, none⟩)] w fun e w' => e = .returned (.bool (decide (R.prs = R2.prs))) ∧ Below w.heap.size w w' := by
  have C1 := Lib.hid (t31 w h hl)
  obtain ⟨rv, wv, hW2⟩ := h2
  have C2 := Lib.hid (fun w1 (hb : Below w.heap.size w w1) => t31 w1 ⟨rv, wv, hW2.below hb⟩ hl2)
  have HL1 : Hid (R.prs.length ≤ 500) := by show _ ≤ _; simpa [Rt.prs] using hl
  obtain ⟨l, hel⟩ : ∃ l, l = R.prs := ⟨_, rfl⟩
  obtain ⟨l', hel'⟩ : ∃ l, l = R2.prs := ⟨_, rfl⟩
  rw [← hel] at C1 HL1 ⊢
  rw [← hel'] at C2 ⊢
  clear h hW2 hel hel' hl hl2
  go_enter Try.func36, Try.ntmps36
  go_wp2_with fail
  refine C1.out.mono ?_
  rintro e w1 ⟨v, rfl, hP, hb, _⟩
  have HP := Lib.hid hP
  have HB := Lib.hid hb
  clear hP hb C1
  go_wp2_with fail
  refine (C2.out w1 HB.out).mono ?_
  rintro e w2 ⟨v2, rfl, hP2, hb2, _⟩
  obtain ⟨ao, cap, rfl, hR, _⟩ := (HP.out.below hb2).read
  obtain ⟨ao', cap', rfl, hR', _⟩ := hP2.read
  have HB2 := Lib.hid (bThen HB.out hb2)
  have HA := Lib.hid hR
  have HA' := Lib.hid hR'
  have H0 : Hid (l.take 0 = l'.take 0) := by show l.take 0 = l'.take 0; simp
  have hl5 : (l.length : Int) ≤ 500 := by have := HL1.out; omega
  clear hP2 hR hR' HP hb2 C2 HB
  by_cases hln : l.length = l'.length
  · have hln' : (l.length : Int) = l'.length := by omega
    have hbe : ((l.length : Int) == (l'.length : Int)) = true := by rw [beq_iff_eq]; omega
    have HL := Lib.hid hln
    clear hln
    go_wp2_with fail
    go_loopw [7] (fun i wr => ∃ j : Nat, j ≤ l.length ∧ i = .int .i64 j ∧ Hid (l.take j = l'.take j) ∧ Below w2.heap.size w2 wr) (fun i _ => l.length - (intOf i).toNat)
    case atStart => exact ⟨0, Nat.zero_le _, rfl, H0, Below.refl _ _⟩
    case round =>
      obtain ⟨j, hj, rfl, HE, hb⟩ := hrel
      clear H0
      by_cases hlt : j < l.length
      · obtain ⟨k, v, hg⟩ : ∃ k v, l[j]? = some (k, v) := ⟨_, _, List.getElem?_eq_getElem hlt⟩
        obtain ⟨k', v', hg'⟩ : ∃ k v, l'[j]? = some (k, v) := ⟨_, _, List.getElem?_eq_getElem (by have := HL.out; omega)⟩
        obtain ⟨rb, rfl, c0, c1⟩ := HA.out.below hb j k v hg
        obtain ⟨rb', rfl, c0', c1'⟩ := HA'.out.below hb j k' v' hg'
        have hlt' : (j : Int) < l.length := by omega
        have hlt2 : (j : Int) < l'.length := by have := HL.out; omega
        have n1 := neq42 k v k' v' wr.drew
        have n2 := guard42
        have HG := Lib.hid hg
        have HG' := Lib.hid hg'
        clear hg hg'
        by_cases he : k = k' ∧ v = v'
        · have hx : (k == k' && v == v') = true := by simp [he.1, he.2]
          rw [hx] at n1
          have HS : Hid (l.take (j + 1) = l'.take (j + 1)) := by
            show _ = _
            rw [List.take_add_one, List.take_add_one, HE.out, HG.out, HG'.out, he.1, he.2]
          clear he hx HE
          have hB := hb.drew
          go_wp2_with fail
          go_region
          all_goals go_wp2_with fail
          all_goals go_roundw
          case rel => exact ⟨j + 1, by omega, by go_num, HS, hB⟩
          case measure => simp [intOf]; omega
        · have hx : (k == k' && v == v') = false := by
            simp only [Bool.and_eq_false_iff, beq_eq_false_iff_ne]
            by_cases h1 : k = k'
            · exact .inr (fun h2 => he ⟨h1, h2⟩)
            · exact .inl h1
          rw [hx] at n1
          have HD : Hid (decide (l = l') = false) := by
            show _ = _
            refine decide_eq_false (fun e => he ?_)
            have h1 := HG.out
            rw [e, HG'.out] at h1
            simp at h1
            exact ⟨h1.1.symm, h1.2.symm⟩
          have HB := Lib.hid (bThen HB2.out hb.drew)
          clear he hx HE hb
          go_wp2_with fail
          go_region
          all_goals go_wp2
          all_goals go_ret
          all_goals exact ⟨by rw [HD.out]; rfl, HB.out⟩
      · obtain rfl : j = l.length := by omega
        have HD : Hid (decide (l = l') = true) := by
          show _ = _
          have h1 := HE.out
          rw [List.take_length, HL.out, List.take_length] at h1
          exact decide_eq_true h1
        have HB := Lib.hid (bThen HB2.out hb)
        clear hb
        go_wp2
        go_ret
        exact ⟨by rw [HD.out]; rfl, HB.out⟩
  · have hbe : ((l.length : Int) == (l'.length : Int)) = false := beq_eq_false_iff_ne.2 (by omega)
    have hne : ¬ ((l.length : Int) = (l'.length : Int)) := by omega
    have HD : Hid (decide (l = l') = false) := by
      show _ = _
      exact decide_eq_false (fun e => hln (by rw [e]))
    clear hln
    go_wp2
    go_ret
    exact ⟨by rw [HD.out]; rfl, HB2.out⟩
end
end Go.Proofs.Ytagejkolgicecaa
