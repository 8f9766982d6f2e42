/- The reference: Put, Stop. -/
import Derived.Deep.Cut
import Derived.Deep.RegionLaw
import Derived.Test.YtagejkolgicecaaQC
namespace Go.Proofs.Ytagejkolgicecaa
open Go Go.RowKit Go.Maps
theorem info83 : (Try.prog.info? 83).map (fun i => (i.zero, i.size, i.bytes)) = some (some (.agg #[.int .i64 0, .int .i64 0, .int .i64 0]), 3, 24) := by kernel_rfl
theorem three_new (w : World) (x y z : Value) (e : TypeId) : ∀ j u, ([x, y, z] : List Value)[j]? = some u → (w.alloc (.cells #[x, y, z] e)).cell? ((⟨w.heap.size, 0, none⟩ : Addr).add j) = some u :=
  World.news_of_block (heap_alloc_new w (.cells #[x, y, z] e))
def Rt.PutR (R : Rt) (k v : Int) (e : Int) (R' : Rt) : Prop :=
  (R.fz = true ∧ e = 13 ∧ R' = R) ∨
  (R.fz = false ∧ ∃ (j : Nat) (v0 : Int) (t : Nat), R.rows[j]? = some (k, v0, t) ∧ (∀ x ∈ R.rows.take j, x.1 ≠ k) ∧ e = 0 ∧ R' = { R with rows := R.rows.set j (k, v, t) }) ∨
  (R.fz = false ∧ (∀ x ∈ R.rows, x.1 ≠ k) ∧ (R.st && R.walking) = true ∧ e = 8 ∧ R' = R) ∨
  (R.fz = false ∧ (∀ x ∈ R.rows, x.1 ≠ k) ∧ (R.st && R.walking) = false ∧ 500 ≤ R.rows.length ∧ e = 9 ∧ R' = R) ∨
  (R.fz = false ∧ (∀ x ∈ R.rows, x.1 ≠ k) ∧ (R.st && R.walking) = false ∧ R.rows.length < 500 ∧ e = 0 ∧ R' = { R with rows := R.rows ++ [(k, v, R.now + 1)], now := R.now + 1 })
section
variable {F : Nat → Prop} {r : Nat} {R : Rt}
theorem RWit.stores {F : Nat → Prop} {w : World} {r : Nat} {R : Rt} {rv wv : Value} (h : RWit F w r R rv wv) (i : Nat) (u : Value) :
    Seq rowL 0 (w.setCell ⟨r, i, none⟩ u) rv R.rows ∧ Seq walkL 0 (w.setCell ⟨r, i, none⟩ u) wv R.walks :=
  ⟨h.rows.turn (turnSet w r i u) (fun g hg e => h.ne.1 (by rw [hg, e])), h.walks.turn (turnSet w r i u) (fun g hg e => h.ne.2.1 (by rw [hg, e]))⟩
set_option maxRecDepth 100000 in
set_option maxHeartbeats 4000000 in
theorem t44 (w : World) (h : RTab F w r R) (hn : ∀ i, w.heap.size ≤ i → F i) (hl : R.rows.length ≤ 500) (hw : R.walks.length ≤ 1000) (hp : R.now < 4611686018427387904) (k v : Int) :
    Calls Try.prog 44 #[.pointer (some ⟨r, 0, none⟩), .int .i64 k, .int .i64 v] w fun e w' => ∃ (c : Int) (R' : Rt), e = .returned (.int .i64 c) ∧ R.PutR k v c R' ∧ RTab F w' r R' ∧ Turn F w w' := by
  obtain ⟨rv, wv, hW⟩ := h
  have q0 := hW.blk.cell 0 rfl
  have q1 := hW.blk.cell 1 rfl
  have q2 := hW.blk.cell 2 rfl
  have q3 := hW.blk.cell 3 rfl
  have q5 := hW.blk.cell 5 rfl
  have e5 := hW.blk.free 5
  have C62 := Lib.hid (t62 r w q0)
  have C63 := Lib.hid (t63 w hW (by omega) k)
  have C64 := Lib.hid (t64 w hW hw)
  have HW := Lib.hid hW
  obtain ⟨ao, cap, rfl, hc0, hc1, hc⟩ := hW.rows.form
  have HC := Lib.hid hc
  have HN := Lib.hid hn
  have HP := Lib.hid hp
  have hl' : (R.rows.length : Int) ≤ 500 := by omega
  clear hW hc hn
  cases hfz : R.fz with
  | true =>
    have HF : Hid (R.fz = true) := hfz
    rw [hfz] at q2
    clear hfz hp
    go_enter Try.func44, Try.ntmps44
    go_wp2_with (go_at_call 62; refine C62.out.mono ?_; rintro e w' ⟨rfl, rfl⟩)
    go_ret
    exact ⟨13, R, rfl, .inl ⟨HF.out, rfl, rfl⟩, ⟨_, _, HW.out⟩, Turn.refl _ _⟩
  | false =>
    have HF : Hid (R.fz = false) := hfz
    rw [hfz] at q2
    clear hfz
    go_enter Try.func44, Try.ntmps44
    go_wp2_with (go_at_call 62; refine C62.out.mono ?_; rintro e w' ⟨rfl, rfl⟩)
    refine C63.out.mono ?_
    rintro e w1 ⟨⟨h1, rfl⟩ | ⟨j, v0, t, h1, h2, rfl⟩, rfl⟩
    · have H1 := Lib.hid h1
      clear h1
      cases hst : (R.st && R.walking) with
      | true =>
        have HST := Lib.hid hst
        have hs1 : R.st = true := (Bool.and_eq_true_iff.1 hst).1
        have hs2 : R.walking = true := (Bool.and_eq_true_iff.1 hst).2
        rw [hs1] at q1
        rw [hs2] at C64
        clear hst hs1 hs2
        go_wp2_with (go_at_call 64; refine C64.out.mono ?_; rintro e w' ⟨rfl, rfl⟩)
        go_ret
        exact ⟨8, R, rfl, .inr (.inr (.inl ⟨HF.out, H1.out, HST.out, rfl, rfl⟩)), ⟨_, _, HW.out⟩, Turn.refl _ _⟩
      | false =>
        have HST := Lib.hid hst
        obtain ⟨s0, hs0⟩ : ∃ s, s = R.st := ⟨_, rfl⟩
        obtain ⟨k0, hk0⟩ : ∃ s, s = R.walking := ⟨_, rfl⟩
        rw [← hs0] at q1
        rw [← hk0] at C64
        have hsk : s0 = true → k0 = false := fun e => by rw [hs0] at e; rw [e, ← hk0] at hst; simpa using hst
        clear hst hs0 hk0
        by_cases hbig : 500 ≤ R.rows.length
        · have hbig' : (500 : Int) ≤ R.rows.length := by omega
          have H5 := Lib.hid hbig
          cases s0 with
          | true =>
            rw [hsk rfl] at C64
            clear hsk
            go_wp2_with (go_at_call 64; refine C64.out.mono ?_; rintro e w' ⟨rfl, rfl⟩)
            go_ret
            exact ⟨9, R, rfl, .inr (.inr (.inr (.inl ⟨HF.out, H1.out, HST.out, H5.out, rfl, rfl⟩))), ⟨_, _, HW.out⟩, Turn.refl _ _⟩
          | false =>
            clear hsk
            go_wp2_with fail
            go_ret
            exact ⟨9, R, rfl, .inr (.inr (.inr (.inl ⟨HF.out, H1.out, HST.out, H5.out, rfl, rfl⟩))), ⟨_, _, HW.out⟩, Turn.refl _ _⟩
        · have hbig' : (R.rows.length : Int) < 500 := by omega
          have H5 : Hid (R.rows.length < 500) := by show _ < _; omega
          obtain ⟨i0, hi, hz0, hz1, hz2⟩ := info_parts info83
          cases s0 with
          | true =>
            rw [hsk rfl] at C64
            clear hsk
            go_upto_region 14 with (go_at_call 64; refine C64.out.mono ?_; rintro e w' ⟨rfl, rfl⟩)
            have hBA := (HW.out.blk.set 5 (.int .i64 (R.now + 1)))
            have hSR := (HW.out.stores 5 (.int .i64 (R.now + 1))).1
            have hSW := (HW.out.stores 5 (.int .i64 (R.now + 1))).2
            have hT1 := turnSet w' r 5 (.int .i64 (R.now + 1))
            have HBA := Lib.hid hBA
            have HSR := Lib.hid hSR
            have HSW := Lib.hid hSW
            have HT1 := Lib.hid hT1
            generalize World.setCell w' ⟨r, 5, none⟩ (.int .i64 (R.now + 1)) = w2 at *
            clear hBA hSR hSW hT1 q0 q1 q2 q3 q5 e5
            have q3 := HBA.out.cell 3 rfl
            have q5 := HBA.out.cell 5 rfl
            have hrl := HBA.out.lt
            have hro := HSR.out
            unfold Seq at hro
            have HRO := Lib.hid hro
            clear hro
            go_region_law (refine step_append_lies _ rfl _ _ 55 rfl 0 83 i0 (.agg #[.int .i64 0, .int .i64 0, .int .i64 0]) 3 24 Try.underlying55 hi hz0 hz1 hz2 rfl (by decide) (.slice ao R.rows.length cap) R.rows.length _ rfl (ownsRow_below HRO.out ((bSelf _ _).drew)) ⟨w2.heap.size, 0, none⟩ 1 1 [.int .i64 k, .int .i64 v, .int .i64 (R.now + 1)] rfl rfl (three_new w2 _ _ _ 83) (by simp [Value.oneCell']) (by omega) (by unfold maxLen; omega) (by omega) (Nat.zero_le _) _ rfl ?_; intro g cap2 w3 hown3 hgrow3 hat3 hlt3; have B3 : Blk w3 r 58 _ := (hgrow3.block r (by simp; omega) (Ne.symm HW.out.ne.1)).trans (HBA.out.alloc _); have r3 := B3.cell 3 rfl; have f3 := B3.free 3; clear B3)
            all_goals go_wp2
            all_goals go_ret
            all_goals
              have TG : Turn F w2 _ := (Turn.of_below (bSelf w2 (.cells #[.int .i64 k, .int .i64 v, .int .i64 (R.now + 1)] 83)).drew).trans (Turn.of_grown hgrow3 (fun i hi => HW.out.fv i hi))
              have hgF : F g := by
                rcases hat3 with h1 | h1
                · exact HW.out.fv g h1
                · rw [h1]; exact HN.out _ (by have := HT1.out.size; simp; omega)
              have hB3 : Blk w3 r 58 _ := (hgrow3.block r (by simp; omega) (Ne.symm HW.out.ne.1)).trans (HBA.out.alloc _)
              have hS3 : Seq rowL 0 w3 (.slice (some ⟨g, 0, none⟩) (R.rows.length + 1) cap2) (R.rows ++ [(k, v, R.now + 1)]) := by
                show World.ownsRow _ _ _ _ _ _ _
                rw [List.length_append, List.flatMap_append]
                exact hown3
              have hX : Seq rowL 0 w3 (.slice (some ⟨g, 0, none⟩) (R.rows.length + 1) cap2) (R.rows ++ [(k, v, R.now + 1)]) := hS3
              have hgb : g ≠ r := fun e => by
                obtain ⟨_, _, cs, hcs⟩ := hS3.lt (g := g) rfl
                rw [e] at hcs
                have h1 := blk_type hB3 hcs; cases h1
              have hW3 : Seq walkL 0 w3 wv R.walks := (HSW.out.below (bSelf w2 (.cells #[.int .i64 k, .int .i64 v, .int .i64 (R.now + 1)] 83)).drew).turn (F := fun i => Value.ownBlock (.slice ao R.rows.length cap) = some i) (.of_grown hgrow3 (fun _ e => e)) (fun g' hg' e => HW.out.ne.2.2 g' e hg')
              have hT4 := turnSet w3 r 3 (.slice (some ⟨g, 0, none⟩) (R.rows.length + 1) cap2)
              refine ⟨0, _, rfl, .inr (.inr (.inr (.inr ⟨HF.out, H1.out, HST.out, H5.out, rfl, rfl⟩))), ⟨.slice (some ⟨g, 0, none⟩) (R.rows.length + 1) cap2, wv, ?_⟩, ((HT1.out.mono (fun i _ e => by rw [e]; exact HW.out.fr)).trans TG).trans (hT4.mono (fun i _ e => by rw [e]; exact HW.out.fr))⟩
              exact ⟨hB3.set 3 _, hS3.turn hT4 (fun g' hg' e => hgb (by cases hg'; exact e)), hW3.turn hT4 (fun g' hg' e => HW.out.ne.2.1 (by rw [hg', e])), HW.out.fr, fun g' hg' => by cases hg'; exact hgF, HW.out.fw⟩
          | false =>
            clear hsk
            go_upto_region 14 with fail
            have hBA := (HW.out.blk.set 5 (.int .i64 (R.now + 1)))
            have hSR := (HW.out.stores 5 (.int .i64 (R.now + 1))).1
            have hSW := (HW.out.stores 5 (.int .i64 (R.now + 1))).2
            have hT1 := turnSet w1 r 5 (.int .i64 (R.now + 1))
            have HBA := Lib.hid hBA
            have HSR := Lib.hid hSR
            have HSW := Lib.hid hSW
            have HT1 := Lib.hid hT1
            generalize World.setCell w1 ⟨r, 5, none⟩ (.int .i64 (R.now + 1)) = w2 at *
            clear hBA hSR hSW hT1 q0 q1 q2 q3 q5 e5
            have q3 := HBA.out.cell 3 rfl
            have q5 := HBA.out.cell 5 rfl
            have hrl := HBA.out.lt
            have hro := HSR.out
            unfold Seq at hro
            have HRO := Lib.hid hro
            clear hro
            go_region_law (refine step_append_lies _ rfl _ _ 55 rfl 0 83 i0 (.agg #[.int .i64 0, .int .i64 0, .int .i64 0]) 3 24 Try.underlying55 hi hz0 hz1 hz2 rfl (by decide) (.slice ao R.rows.length cap) R.rows.length _ rfl (ownsRow_below HRO.out ((bSelf _ _).drew)) ⟨w2.heap.size, 0, none⟩ 1 1 [.int .i64 k, .int .i64 v, .int .i64 (R.now + 1)] rfl rfl (three_new w2 _ _ _ 83) (by simp [Value.oneCell']) (by omega) (by unfold maxLen; omega) (by omega) (Nat.zero_le _) _ rfl ?_; intro g cap2 w3 hown3 hgrow3 hat3 hlt3; have B3 : Blk w3 r 58 _ := (hgrow3.block r (by simp; omega) (Ne.symm HW.out.ne.1)).trans (HBA.out.alloc _); have r3 := B3.cell 3 rfl; have f3 := B3.free 3; clear B3)
            all_goals go_wp2
            all_goals go_ret
            all_goals
              have TG : Turn F w2 _ := (Turn.of_below (bSelf w2 (.cells #[.int .i64 k, .int .i64 v, .int .i64 (R.now + 1)] 83)).drew).trans (Turn.of_grown hgrow3 (fun i hi => HW.out.fv i hi))
              have hgF : F g := by
                rcases hat3 with h1 | h1
                · exact HW.out.fv g h1
                · rw [h1]; exact HN.out _ (by have := HT1.out.size; simp; omega)
              have hB3 : Blk w3 r 58 _ := (hgrow3.block r (by simp; omega) (Ne.symm HW.out.ne.1)).trans (HBA.out.alloc _)
              have hS3 : Seq rowL 0 w3 (.slice (some ⟨g, 0, none⟩) (R.rows.length + 1) cap2) (R.rows ++ [(k, v, R.now + 1)]) := by
                show World.ownsRow _ _ _ _ _ _ _
                rw [List.length_append, List.flatMap_append]
                exact hown3
              have hX : Seq rowL 0 w3 (.slice (some ⟨g, 0, none⟩) (R.rows.length + 1) cap2) (R.rows ++ [(k, v, R.now + 1)]) := hS3
              have hgb : g ≠ r := fun e => by
                obtain ⟨_, _, cs, hcs⟩ := hS3.lt (g := g) rfl
                rw [e] at hcs
                have h1 := blk_type hB3 hcs; cases h1
              have hW3 : Seq walkL 0 w3 wv R.walks := (HSW.out.below (bSelf w2 (.cells #[.int .i64 k, .int .i64 v, .int .i64 (R.now + 1)] 83)).drew).turn (F := fun i => Value.ownBlock (.slice ao R.rows.length cap) = some i) (.of_grown hgrow3 (fun _ e => e)) (fun g' hg' e => HW.out.ne.2.2 g' e hg')
              have hT4 := turnSet w3 r 3 (.slice (some ⟨g, 0, none⟩) (R.rows.length + 1) cap2)
              refine ⟨0, _, rfl, .inr (.inr (.inr (.inr ⟨HF.out, H1.out, HST.out, H5.out, rfl, rfl⟩))), ⟨.slice (some ⟨g, 0, none⟩) (R.rows.length + 1) cap2, wv, ?_⟩, ((HT1.out.mono (fun i _ e => by rw [e]; exact HW.out.fr)).trans TG).trans (hT4.mono (fun i _ e => by rw [e]; exact HW.out.fr))⟩
              exact ⟨hB3.set 3 _, hS3.turn hT4 (fun g' hg' e => hgb (by cases hg'; exact e)), hW3.turn hT4 (fun g' hg' e => HW.out.ne.2.1 (by rw [hg', e])), HW.out.fr, fun g' hg' => by cases hg'; exact hgF, HW.out.fw⟩
    · obtain ⟨g, rfl, _, hcell, hfr⟩ := HC.out j _ h1
      have c1 : w1.cell? ⟨g, j * 3 + 1, none⟩ = some (.int .i64 v0) := hcell 1 _ (by decide) rfl
      have f1 := hfr (j * 3 + 1)
      have hlt : (j : Int) < R.rows.length := by have := (List.getElem?_eq_some_iff.1 h1).1; omega
      have H1 := Lib.hid h1
      have H2 := Lib.hid h2
      clear h1 h2 hcell hfr HC
      go_wp2
      go_ret
      refine ⟨0, _, rfl, .inr (.inl ⟨HF.out, j, v0, t, H1.out, H2.out, rfl, rfl⟩), ⟨.slice (some ⟨g, 0, none⟩) R.rows.length cap, wv, ?_⟩, (Turn.refl F _).set g (j * 3 + 1) (HW.out.fv g rfl) _⟩
      have hgr : g ≠ r := fun e => HW.out.ne.1 (by rw [← e]; rfl)
      have hT := turnSet w1 g (j * 3 + 1) (.int .i64 v)
      refine ⟨hT.blk HW.out.blk (fun e => hgr e.symm), HW.out.rows.set j 1 (k, v0, t) (k, v, t) (.int .i64 v) H1.out (by decide) rfl, HW.out.walks.turn hT (fun g' hg' e => HW.out.ne.2.2 g rfl (by rw [hg', e])), HW.out.fr, fun g' hg' => ?_, HW.out.fw⟩
      exact HW.out.fv g' hg'
end
end Go.Proofs.Ytagejkolgicecaa
