/- The reference: All. -/
import Derived.Deep.RegionLaw
import Derived.Test.YtagejkolgicecaaQB
import Derived.Test.YtagejkolgicecaaKR
namespace Go.Proofs.Ytagejkolgicecaa
open Go Go.RowKit Go.Maps
def Rt.prs (R : Rt) : List (Int × Int) := R.rows.map (fun x => (x.1, x.2.1))
section
variable {F : Nat → Prop} {r : Nat} {R : Rt}
set_option maxRecDepth 100000 in
set_option maxHeartbeats 4000000 in
theorem t31 (w : World) (h : RTab F w r R) (hl : R.rows.length ≤ 500) : Calls Try.prog 31 #[.pointer (some ⟨r, 0, none⟩)] w fun e w' => ∃ v, e = .returned v ∧ Prs w' v R.prs ∧ Below w.heap.size w w' ∧ (∀ rb, v.ownBlock = some rb → w.heap.size ≤ rb) := by
  obtain ⟨rv, wv, hW⟩ := h
  have q3 := hW.blk.cell 3 rfl
  have Q3 := Lib.hid q3
  obtain ⟨ar, cr, rfl, _, _, hc⟩ := hW.rows.form
  have HC := Lib.hid hc
  have hl' : (R.rows.length : Int) ≤ 500 := by omega
  obtain ⟨i0, hi, hz0, hz1, hz2⟩ := info_parts info42
  clear hW hc
  obtain ⟨rn, hrn⟩ : ∃ rn, rn = R.rows.length := ⟨_, rfl⟩
  have HRN := Lib.hid hrn
  rw [← hrn] at q3 Q3 hl hl'
  clear hrn
  have H0 : Hid (w.ownsRow w.heap.size 42 2 (.slice none 0 0) (R.prs.take 0).length (pcs (R.prs.take 0))) := ⟨rfl, .inl ⟨rfl, rfl⟩⟩
  go_enter Try.func31, Try.ntmps31
  go_wp2_with fail
  go_loopw [4, 3] (fun i t wr => ∃ (j : Nat) (av : Option Addr) (cv : Nat), j ≤ rn ∧ i = .int .i64 j ∧ t = .slice av j cv ∧ Hid (wr.ownsRow w.heap.size 42 2 (.slice av j cv) (R.prs.take j).length (pcs (R.prs.take j))) ∧ Below w.heap.size w wr) (fun i _ _ => rn - (intOf i).toNat)
  case atStart => exact ⟨0, none, 0, Nat.zero_le _, rfl, rfl, H0, Below.refl _ _⟩
  case round =>
    obtain ⟨j, av, cv, hj, rfl, rfl, HR, hb⟩ := hrel
    clear H0 q3
    have q3 := below_cell hb Q3.out
    by_cases hlt : j < rn
    · obtain ⟨k, v, t, hg⟩ : ∃ k v t, R.rows[j]? = some (k, v, t) := ⟨_, _, _, List.getElem?_eq_getElem (by rw [← HRN.out]; exact hlt)⟩
      obtain ⟨g, rfl, _, hcell, _⟩ := HC.out j _ hg
      have d0' : w.cell? ⟨g, j * 3 + 0, none⟩ = some (.int .i64 k) := hcell 0 _ (by decide) rfl
      rw [Nat.add_zero] at d0'
      have d0 := below_cell hb d0'
      have d1 := below_cell hb (show w.cell? ⟨g, j * 3 + 1, none⟩ = some (.int .i64 v) from hcell 1 _ (by decide) rfl)
      have hrl : r < wr.heap.size := World.block_lt_of_cell? wr _ q3
      have hgl : g < wr.heap.size := World.block_lt_of_cell? wr _ d0
      have hlt' : (j : Int) < rn := by omega
      have HS : Hid (R.prs.take (j + 1) = R.prs.take j ++ [(k, v)]) := by
        show _ = _
        rw [List.take_add_one]; congr 1; simp [Rt.prs, hg]
      have HL : Hid ((R.prs.take j).length = j) := by show _ = _; simp [Rt.prs, ← HRN.out]; omega
      have HR2 := HR.out
      rw [HL.out] at HR2
      have HR3 := Lib.hid HR2
      have hsz := hb.size
      have HB := Lib.hid hb
      clear hg hcell d0' HC HR HR2 hb
      go_wp2_with fail
      go_region_law (refine step_append_lies _ rfl _ _ 30 rfl w.heap.size 42 i0 (.agg #[.int .i64 0, .int .i64 0]) 2 16 Try.underlying30 hi hz0 hz1 hz2 rfl (by decide) (.slice av j cv) j _ rfl (ownsRow_below HR3.out ((bSelf _ _).drew)) ⟨wr.heap.size, 0, none⟩ 1 1 [.int .i64 k, .int .i64 v] rfl rfl (two_new wr _ _ 42) (by simp [Value.oneCell']) (by omega) (by unfold maxLen; omega) (by omega) (by have := HB.out.size; simp; omega) _ rfl ?_; intro g2 cap2 w3 hown3 hgrow3 hat3 hlt3)
      all_goals
        have hB3 : Below w.heap.size w w3 := by
          have h1 := (bAl HB.out (.cells #[.int .i64 k, .int .i64 v] 42)).drew
          refine h1.trans ⟨hgrow3.os, hgrow3.tape, hgrow3.output, hgrow3.size, fun i hi => hgrow3.block i (by have h2 := h1.size; omega) (fun e => ?_)⟩
          rcases HR3.out.2 with ⟨h6, _⟩ | ⟨g5, c5, cu5, h6, h7, _⟩
          · rw [h6] at e; cases e
          · rw [h6] at e
            have e2 : i = g5 := Option.some.inj e
            omega
        have HN : Hid (w3.ownsRow w.heap.size 42 2 (.slice (some ⟨g2, 0, none⟩) (j + 1) cap2) (R.prs.take (j + 1)).length (pcs (R.prs.take (j + 1)))) := by
          show World.ownsRow _ _ _ _ _ _ _
          rw [HS.out, List.length_append, HL.out, pcs_append]
          exact hown3
        clear hown3 hgrow3 hat3 hlt3 d0 d1 q3
      all_goals (
        go_wp2_with fail
        go_roundw
        case rel => exact ⟨j + 1, _, _, by omega, by go_num, rfl, HN, hB3⟩
        case measure => simp [intOf]; omega)
    · have hlt' : ¬ ((j : Int) < rn) := by omega
      have HL : Hid (R.prs.take j = R.prs) := by show _ = _; rw [List.take_of_length_le]; simp [Rt.prs, ← HRN.out]; omega
      have HLn : Hid (j = R.prs.length) := by show _ = _; simp [Rt.prs, ← HRN.out]; omega
      have HB := Lib.hid hb
      clear hb HC
      go_wp2
      go_ret
      have hr := HR.out
      rw [HL.out] at hr
      refine ⟨_, rfl, ?_, HB.out, fun rb e => ?_⟩
      · obtain ⟨h1, h2⟩ := hr
        refine ⟨h1, ?_⟩
        rcases h2 with h2 | ⟨g, c, cu, h3, _, h4⟩
        · exact .inl h2
        · exact .inr ⟨g, c, cu, h3, Nat.zero_le _, h4⟩
      · rcases hr.2 with ⟨h6, _⟩ | ⟨g5, c5, cu5, h6, h7, _⟩
        · rw [h6] at e; cases e
        · rw [h6] at e; cases e; exact h7
end
end Go.Proofs.Ytagejkolgicecaa
