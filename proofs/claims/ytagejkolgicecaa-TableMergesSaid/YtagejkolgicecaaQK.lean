/- The reference: Copy. -/
import Derived.Test.YtagejkolgicecaaQF
namespace Go.Proofs.Ytagejkolgicecaa
open Go Go.RowKit Go.Maps
theorem Seq.news {α : Type} {L : Lay α} {B : Nat} {w : World} {g n cap : Nat} {xs : List α} (h : Seq L B w (.slice (some ⟨g, 0, none⟩) n cap) xs) : ∀ j u, (xs.flatMap L.enc)[j]? = some u → w.cell? ((⟨g, 0, none⟩ : Addr).add j) = some u := by
  intro j u hu
  obtain ⟨h1, h2 | ⟨g', cap', cur, h3, hb, hh, h5, h6, h7, h8⟩⟩ := h
  · cases h2.1
  · cases h3
    have e : (⟨g, 0, none⟩ : Addr).add j = ⟨g, j, none⟩ := by unfold Addr.add; split <;> simp_all
    rw [e, cell_of_row w g _ _ L.e (0, 0) hh]
    rw [← h8, List.getElem?_take] at hu
    split at hu
    · simpa using hu
    · cases hu
theorem row_one (rs : List (Int × Int × Nat)) : ∀ u ∈ rs.flatMap rowL.enc, u.oneCell' = true := by
  intro u hu
  obtain ⟨x, _, hx⟩ := List.mem_flatMap.1 hu
  simp [rowL] at hx
  rcases hx with rfl | rfl | rfl <;> rfl
def Rt.copy (R : Rt) : Rt := { rows := R.rows, walks := [], now := R.now, st := false, fz := false }
section
variable {F : Nat → Prop} {r : Nat} {R : Rt}
set_option maxRecDepth 100000 in
set_option maxHeartbeats 4000000 in
theorem t33 (w : World) (h : RTab F w r R) (hl : R.rows.length ≤ 500) (hne : 0 < R.rows.length) :
    Calls Try.prog 33 #[.pointer (some ⟨r, 0, none⟩)] w fun e w' => ∃ c, e = .returned (.pointer (some ⟨c, 0, none⟩)) ∧ RTab (fun i => w.heap.size ≤ i) w' c R.copy ∧ Below w.heap.size w w' := by
  obtain ⟨rv, wv, hW⟩ := h
  have q0 := hW.blk.cell 0 rfl
  have q3 := hW.blk.cell 3 rfl
  have q5 := hW.blk.cell 5 rfl
  have C62 := Lib.hid (t62 r w q0)
  have HW := Lib.hid hW
  obtain ⟨ao, cr, rfl, _, _, hc⟩ := hW.rows.form
  obtain ⟨⟨k0, v0, z0⟩, hg0⟩ : ∃ x, R.rows[0]? = some x := ⟨_, List.getElem?_eq_getElem hne⟩
  obtain ⟨g, rfl, _, _, _⟩ := hc 0 _ hg0
  have HNW := Lib.hid hW.rows.news
  have n1l : (R.rows.flatMap rowL.enc).length = R.rows.length * 3 := fm_len rowL.enc 3 rowL.len R.rows
  have HNL := Lib.hid n1l
  have HON := Lib.hid (row_one R.rows)
  have hgl : g < w.heap.size := (hW.rows.lt (g := g) rfl).2.1
  have hrl : r < w.heap.size := hW.blk.lt
  have hrn : r ≠ w.heap.size := by omega
  obtain ⟨i0, hi, hz0, hz1, hz2⟩ := info_parts info83
  have HE : Hid ((w.alloc (.cells #[] 83)).ownsRow 0 83 3 (.slice (some ⟨w.heap.size, 0, none⟩) 0 0) 0 []) := by
    show World.ownsRow _ _ _ _ _ _ _
    exact ⟨rfl, .inr ⟨w.heap.size, 0, #[], rfl, Nat.zero_le _, by simpa using heap_alloc_new w (.cells #[] 83), Nat.le_refl _, Nat.zero_le _, rfl, rfl⟩⟩
  have N1 : Hid (∀ j u, (R.rows.flatMap rowL.enc)[j]? = some u → (w.alloc (.cells #[] 83)).cell? ((⟨g, 0, none⟩ : Addr).add j) = some u) := fun j u hu => by
    have h1 := HNW.out j u hu
    exact ((bSelf w (.cells #[] 83)).cell (World.block_lt_of_cell? w _ h1)).trans h1
  have HL := Lib.hid hl
  have HNE := Lib.hid hne
  clear hW hc hg0 n1l hl hne
  go_enter Try.func33, Try.ntmps33
  go_wp2_with (go_at_call 62; refine C62.out.mono ?_; rintro e w' ⟨rfl, rfl⟩)
  go_region_law (refine step_append_lies _ rfl _ _ 55 rfl 0 83 i0 (.agg #[.int .i64 0, .int .i64 0, .int .i64 0]) 3 24 Try.underlying55 hi hz0 hz1 hz2 rfl (by decide) (.slice (some ⟨w'.heap.size, 0, none⟩) 0 0) 0 [] rfl (ownsRow_below HE.out ((Below.refl _ _).drew)) ⟨g, 0, none⟩ R.rows.length cr (R.rows.flatMap rowL.enc) rfl HNL.out N1.out HON.out HNE.out (by have := HL.out; unfold maxLen; omega) (by have := HL.out; omega) (Nat.zero_le _) _ rfl ?_; intro g2 cap2 w3 hown3 hgrow3 hat3 hlt3; have B3 : Blk w3 r 58 _ := (hgrow3.block r (by simp; omega) (fun e => hrn (by cases e; rfl))).trans (HW.out.blk.alloc _); have r5 := B3.cell 5 rfl; clear B3)
  all_goals
    have hB3 : Below w'.heap.size w' w3 := by
      have h1 := (bSelf w' (.cells #[] 83)).drew
      refine h1.trans ⟨hgrow3.os, hgrow3.tape, hgrow3.output, hgrow3.size, fun i hi => hgrow3.block i (by have h2 := h1.size; omega) (fun e => by have e2 : i = w'.heap.size := Option.some.inj e; omega)⟩
    have HB := Lib.hid hB3
    have HO : Hid (Seq rowL 0 w3 (.slice (some ⟨g2, 0, none⟩) R.rows.length cap2) R.rows) := by
      rw [Nat.zero_add, List.nil_append] at hown3
      exact hown3
    have HG : Hid (w'.heap.size ≤ g2) := by
      rcases hat3 with h1 | h1
      · cases h1; exact Nat.le_refl _
      · rw [h1]; exact (bSelf w' (.cells #[] 83)).drew.size
    clear hB3 hown3 hgrow3 hat3 hlt3
  all_goals go_wp2
  all_goals go_ret
  all_goals
    exact ⟨_, rfl, ⟨_, _, Blk.new w3 _ _, HO.out.below (bSelf w3 _), ⟨rfl, .inl ⟨rfl, rfl⟩⟩, HB.out.size, fun g hg => by cases hg; exact HG.out, fun g hg => by cases hg⟩, bAl HB.out _⟩
set_option maxRecDepth 100000 in
set_option maxHeartbeats 4000000 in
theorem t33e (w : World) (h : RTab F w r R) (hne : R.rows = []) :
    Calls Try.prog 33 #[.pointer (some ⟨r, 0, none⟩)] w fun e w' => ∃ c, e = .returned (.pointer (some ⟨c, 0, none⟩)) ∧ RTab (fun i => w.heap.size ≤ i) w' c R.copy ∧ Below w.heap.size w w' := by
  obtain ⟨rv, wv, hW⟩ := h
  have q0 := hW.blk.cell 0 rfl
  have q3 := hW.blk.cell 3 rfl
  have q5 := hW.blk.cell 5 rfl
  have C62 := Lib.hid (t62 r w q0)
  have HW := Lib.hid hW
  obtain ⟨ao, cr, rfl, _, _, _⟩ := hW.rows.form
  have hrl : r < w.heap.size := hW.blk.lt
  have hrn : r ≠ w.heap.size := by omega
  have HNE := Lib.hid hne
  have hl0 : R.rows.length = 0 := by rw [hne]; rfl
  rw [hl0] at q3
  clear hW hne hl0
  go_enter Try.func33, Try.ntmps33
  go_wp2_with (go_at_call 62; refine C62.out.mono ?_; rintro e w' ⟨rfl, rfl⟩)
  rcases ao with _ | a
  all_goals
    go_region
    all_goals go_wp2
    all_goals go_ret
    all_goals
      have hB := bSelf w' (.cells #[] 83)
      have hE : Seq rowL 0 (w'.alloc (.cells #[] 83)) (.slice (some ⟨w'.heap.size, 0, none⟩) 0 0) R.rows := by
        rw [HNE.out]
        show World.ownsRow _ 0 83 3 _ _ _
        exact ⟨rfl, .inr ⟨w'.heap.size, 0, #[], rfl, Nat.zero_le _, by simpa using heap_alloc_new w' (.cells #[] 83), Nat.le_refl _, Nat.zero_le _, rfl, rfl⟩⟩
      have hS : (w'.alloc (.cells #[] 83)).heap.size = w'.heap.size + 1 := by simp
      have hK := blkDown (Blk.new (w'.alloc (.cells #[] 83)) #[.bool true, .bool false, .bool false, .slice (some ⟨w'.heap.size, 0, none⟩) 0 0, .slice none 0 0, .int .i64 (R.now : Int)] 58) ((Below.refl _ _).drew)
      rw [hS] at hK
      exact ⟨_, rfl, ⟨_, _, hK, hE.below (bSelf _ _).drew, ⟨rfl, .inl ⟨rfl, rfl⟩⟩, Nat.le_succ _, fun g hg => by cases hg; exact Nat.le_refl _, fun g hg => by cases hg⟩, (bAl hB _).drew⟩
end
end Go.Proofs.Ytagejkolgicecaa
