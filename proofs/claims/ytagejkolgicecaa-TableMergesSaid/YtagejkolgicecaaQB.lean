/- The reference: New, No, place, walking, goes, Get, Where. -/
import Derived.Test.YtagejkolgicecaaQA
namespace Go.Proofs.Ytagejkolgicecaa
open Go Go.RowKit Go.Maps
def Rt.new : Rt := ⟨[], [], 0, false, false⟩
theorem t35 (F : Nat → Prop) (w : World) (hn : ∀ i, w.heap.size ≤ i → F i) : Calls Try.prog 35 #[] w fun e w' => ∃ r, e = .returned (.pointer (some ⟨r, 0, none⟩)) ∧ RTab F w' r Rt.new ∧ Below w.heap.size w w' ∧ w.heap.size ≤ r := by
  have HN := Lib.hid hn
  clear hn
  go_enter Try.func35, Try.ntmps35
  go_wp2
  go_ret
  exact ⟨w.heap.size, rfl, ⟨.slice none 0 0, .slice none 0 0, Blk.new w _ _, ⟨rfl, .inl ⟨rfl, rfl⟩⟩, ⟨rfl, .inl ⟨rfl, rfl⟩⟩, HN.out _ (Nat.le_refl _), fun g hg => (by cases hg), fun g hg => (by cases hg)⟩, bSelf w _, Nat.le_refl _⟩
theorem t62 (r : Nat) (w : World) (q0 : w.cell? ⟨r, 0, none⟩ = some (.bool true)) : Calls Try.prog 62 #[.pointer (some ⟨r, 0, none⟩)] w fun e w' => e = .returned (.bool false) ∧ w' = w := by
  go_enter Try.func62, Try.ntmps62
  go_wp2
  go_ret
  exact ⟨rfl, rfl⟩
section
variable {F : Nat → Prop} {r : Nat} {R : Rt} {rv wv : Value}
def Rt.PlR (R : Rt) (k : Int) (e : Ending) : Prop := ((∀ x ∈ R.rows, x.1 ≠ k) ∧ e = .returned (.int .i64 (-1))) ∨ ∃ (j : Nat) (v : Int) (t : Nat), R.rows[j]? = some (k, v, t) ∧ (∀ x ∈ R.rows.take j, x.1 ≠ k) ∧ e = .returned (.int .i64 (j : Int))
set_option maxRecDepth 100000 in
set_option maxHeartbeats 2000000 in
theorem t63 (w : World) (h : RWit F w r R rv wv) (hl : R.rows.length ≤ 1000) (k : Int) : Calls Try.prog 63 #[.pointer (some ⟨r, 0, none⟩), .int .i64 k] w fun e w' => R.PlR k e ∧ w' = w := by
  have q3 := h.blk.cell 3 rfl
  obtain ⟨ao, cap, rfl, _, _, hc⟩ := h.rows.form
  have HC := Lib.hid hc
  have hl' : (R.rows.length : Int) ≤ 1000 := by omega
  have H0 : Hid (∀ x ∈ R.rows.take 0, x.1 ≠ k) := by show ∀ x ∈ R.rows.take 0, x.1 ≠ k; simp
  clear h hc
  obtain ⟨rn, hrn⟩ : ∃ rn, rn = R.rows.length := ⟨_, rfl⟩
  have HRN := Lib.hid hrn
  rw [← hrn] at q3 hl' hl
  clear hrn
  go_enter Try.func63, Try.ntmps63
  go_wp2_with fail
  go_loopw [5] (fun i wr => ∃ j : Nat, j ≤ rn ∧ i = .int .i64 j ∧ Hid (∀ x ∈ R.rows.take j, x.1 ≠ k) ∧ wr = w) (fun i _ => rn - (intOf i).toNat)
  case atStart => exact ⟨0, Nat.zero_le _, rfl, H0, rfl⟩
  case round =>
    obtain ⟨j, hj, rfl, HD, rfl⟩ := hrel
    clear H0
    by_cases hlt : j < rn
    · obtain ⟨k', v, t, hg⟩ : ∃ k' v t, R.rows[j]? = some (k', v, t) := ⟨_, _, _, List.getElem?_eq_getElem (by rw [← HRN.out]; exact hlt)⟩
      obtain ⟨g, rfl, _, hcell, _⟩ := HC.out j _ hg
      have c0 : wr.cell? ⟨g, j * 3 + 0, none⟩ = some (.int .i64 k') := hcell 0 _ (by decide) rfl
      rw [Nat.add_zero] at c0
      have HG := Lib.hid hg
      have hlt' : (j : Int) < rn := by omega
      clear hg hcell HC
      by_cases he : k' = k
      · subst he
        go_wp2
        go_ret
        exact ⟨.inr ⟨j, v, t, HG.out, HD.out, rfl⟩, rfl⟩
      · have hb : (k' == k) = false := by simpa using he
        have HS : Hid (∀ x ∈ R.rows.take (j + 1), x.1 ≠ k) := by
          show ∀ x ∈ R.rows.take (j + 1), x.1 ≠ k
          rw [List.take_add_one, HG.out]
          intro x hx
          rcases List.mem_append.1 hx with h | h
          · exact HD.out x h
          · simp at h; subst h; exact he
        clear HD
        go_wp2_with fail
        go_roundw
        case rel => exact ⟨j + 1, by omega, by go_num, HS, trivial⟩
        case measure => simp [intOf]; omega
    · have HN : Hid (∀ x ∈ R.rows, x.1 ≠ k) := by
        have h1 := HD.out
        rw [show j = R.rows.length by rw [← HRN.out]; omega, List.take_length] at h1
        exact h1
      have hlt' : ¬ ((j : Int) < rn) := by omega
      clear HD
      go_wp2
      go_ret
      exact ⟨.inl ⟨HN.out, rfl⟩, rfl⟩
def Rt.walking (R : Rt) : Bool := R.walks.any (fun x => !x.2)
set_option maxRecDepth 100000 in
set_option maxHeartbeats 2000000 in
theorem t64 (w : World) (h : RWit F w r R rv wv) (hl : R.walks.length ≤ 1000) : Calls Try.prog 64 #[.pointer (some ⟨r, 0, none⟩)] w fun e w' => e = .returned (.bool R.walking) ∧ w' = w := by
  have q4 := h.blk.cell 4 rfl
  obtain ⟨ao, cap, rfl, _, _, hc⟩ := h.walks.form
  have HC := Lib.hid hc
  have hl' : (R.walks.length : Int) ≤ 1000 := by omega
  have H0 : Hid ((R.walks.take 0).any (fun x => !x.2) = false) := rfl
  clear h hc
  obtain ⟨rn, hrn⟩ : ∃ rn, rn = R.walks.length := ⟨_, rfl⟩
  have HRN := Lib.hid hrn
  rw [← hrn] at q4 hl' hl
  clear hrn
  go_enter Try.func64, Try.ntmps64
  go_wp2_with fail
  go_loopw [3] (fun i wr => ∃ j : Nat, j ≤ rn ∧ i = .int .i64 j ∧ Hid ((R.walks.take j).any (fun x => !x.2) = false) ∧ wr = w) (fun i _ => rn - (intOf i).toNat)
  case atStart => exact ⟨0, Nat.zero_le _, rfl, H0, rfl⟩
  case round =>
    obtain ⟨j, hj, rfl, HD, rfl⟩ := hrel
    clear H0
    by_cases hlt : j < rn
    · obtain ⟨l, o, hg⟩ : ∃ l o, R.walks[j]? = some (l, o) := ⟨_, _, List.getElem?_eq_getElem (by rw [← HRN.out]; exact hlt)⟩
      obtain ⟨g, rfl, _, hcell, _⟩ := HC.out j _ hg
      have c1 : wr.cell? ⟨g, j * 2 + 1, none⟩ = some (.bool o) := hcell 1 _ (by decide) rfl
      have HG := Lib.hid hg
      have hlt' : (j : Int) < rn := by omega
      clear hg hcell HC
      cases o with
      | false =>
        have HW : Hid (R.walking = true) := by
          show _ = _
          exact List.any_eq_true.2 ⟨_, List.mem_of_getElem? HG.out, rfl⟩
        go_wp2
        go_ret
        exact ⟨by rw [HW.out]; rfl, rfl⟩
      | true =>
        have HS : Hid ((R.walks.take (j + 1)).any (fun x => !x.2) = false) := by
          show _ = _
          rw [List.take_add_one, HG.out, List.any_append, HD.out]; rfl
        clear HD
        go_wp2_with fail
        go_roundw
        case rel => exact ⟨j + 1, by omega, by go_num, HS, trivial⟩
        case measure => simp [intOf]; omega
    · have HN : Hid (R.walking = false) := by
        have h1 := HD.out
        rw [show j = R.walks.length by rw [← HRN.out]; omega, List.take_length] at h1
        exact h1
      have hlt' : ¬ ((j : Int) < rn) := by omega
      clear HD
      go_wp2
      go_ret
      exact ⟨by rw [HN.out]; rfl, rfl⟩
end
end Go.Proofs.Ytagejkolgicecaa
