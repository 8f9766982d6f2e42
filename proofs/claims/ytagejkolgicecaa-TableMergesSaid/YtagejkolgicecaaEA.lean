/- New, Put. -/
import Derived.Test.YtagejkolgicecaaE
namespace Go.Proofs.Ytagejkolgicecaa
open Go Go.RowKit Go.Maps
set_option maxRecDepth 100000 in
theorem t20 (F : Nat → Prop) (w : World) (hn : ∀ i, w.heap.size ≤ i → F i) : Calls Try.prog 20 #[] w fun e w' => ∃ b, e = .returned (.pointer (some ⟨b, 0, none⟩)) ∧ Tab F w' b Tb.new ∧ Below w.heap.size w w' ∧ w.heap.size ≤ b := by
  have hmm := @run_makeMap Try.prog
  have HN := Lib.hid hn
  clear hn
  go_enter Try.func20, Try.ntmps20
  go_wp2
  go_ret
  refine ⟨_, rfl, ⟨ok_new, w.heap.size, w.heap.size + 1, .slice none 0 0, ?_⟩, (bAl (bAl (bSelf w _) _) _), by omega⟩
  have e1 : (w.alloc (.map #[] 0)).heap.size = w.heap.size + 1 := by simp
  refine ⟨?_, ?_, ?_, ⟨rfl, .inl ⟨rfl, rfl⟩⟩, HN.out _ (by omega), HN.out _ (Nat.le_refl _), HN.out _ (by omega), fun g hg => (by cases hg), by omega⟩
  · have := Blk.new ((w.alloc (.map #[] 0)).alloc (.map #[] 0)) #[.map (some w.heap.size), .slice none 0 0, .int .i64 0, .map (some (w.heap.size + 1)), .int .i64 0, .bool false, .bool false] 69
    simpa [Tb.new] using this
  · exact ((IMap.made w rowK).alloc _).alloc _
  · have := (IMap.made (w.alloc (.map #[] 0)) numK).alloc (.cells #[.map (some w.heap.size), .slice none 0 0, .int .i64 0, .map (some (w.heap.size + 1)), .int .i64 0, .bool false, .bool false] 69)
    rw [e1] at this; exact this
set_option maxRecDepth 100000 in
theorem t21 (F : Nat → Prop) (b : Nat) (S : Tb) (w : World) (h : Tab F w b S) (hn : ∀ i, w.heap.size ≤ i → F i) {k : Int} (hk : WF k) (v : Int) (hp : S.pt < 4611686018427386904) :
    Calls Try.prog 21 #[.pointer (some ⟨b, 0, none⟩), .int .i64 k, .int .i64 v] w fun e w' => e = .returned (.int .i64 (S.allE [(k, v)])) ∧ Tab F w' b (S.all [(k, v)]) ∧ Turn F w w' := by
  obtain ⟨hO, m0, m1, kv, hW⟩ := h
  have hB := bSelf w (.cells #[.int .i64 k, .int .i64 v] 42)
  have hW1 : Wit (fun i => F i ∧ i ≠ w.heap.size) (w.alloc (.cells #[.int .i64 k, .int .i64 v] 42)) b S m0 m1 kv := by
    have h1 := (hW.mono (G := fun i => F i ∧ i ≠ w.heap.size) (fun i hi hf => ⟨hf, by omega⟩)).below hB
    exact h1
  have hR : RowsAt (w.alloc (.cells #[.int .i64 k, .int .i64 v] 42)) (some ⟨w.heap.size, 0, none⟩) [(k, v)] := fun j k' v' hj => by
    have h0 : j = 0 := by
      have := (List.getElem?_eq_some_iff.1 hj).1; simp at this; exact this
    subst h0
    simp at hj; obtain ⟨rfl, rfl⟩ := hj
    have hb := Blk.new w #[.int .i64 k, .int .i64 v] 42
    exact ⟨_, rfl, hb.cell 0 rfl, hb.cell 1 rfl⟩
  have C := Lib.hid (t65 _ hO hW1 (fun i hi => ⟨hn i (by simp at hi; omega), by simp at hi; omega⟩) [(k, v)] _ 1 hR (fun rb e => by cases e; simp) (fun r hr => by simp at hr; subst hr; exact hk) (by simp) (by simp) hp)
  have HB := Lib.hid hB
  clear hW hW1 hR hB hO
  go_enter Try.func21, Try.ntmps21
  go_wp2_with fail
  refine C.out.mono ?_
  rintro e w1 ⟨rfl, ⟨kv', h1⟩, h2, h3⟩
  have H1 := Lib.hid h1
  have H2 := Lib.hid h2
  have H3 := Lib.hid h3
  clear h1 h2 h3
  go_wp2
  go_ret
  exact ⟨rfl, ⟨H2.out, m0, m1, kv', H1.out.mono (fun _ _ hf => hf.1)⟩, (Turn.of_below HB.out).trans (H3.out.mono (fun _ _ hf => hf.1))⟩
theorem pt_sets (S : Tb) (rs : List (Int × Int)) : (S.sets rs).pt ≤ S.pt + rs.length := by
  unfold Tb.sets
  induction rs generalizing S with
  | nil => simp
  | cons r rs ih => have h1 := ih (S.set r.1 r.2); have h2 := pt_set S r.1 r.2; simp only [List.foldl_cons, List.length_cons]; omega
theorem pt_all (S : Tb) (rs : List (Int × Int)) : (S.all rs).pt ≤ S.pt + rs.length := by
  unfold Tb.all; split
  · exact pt_sets S rs
  · omega
end Go.Proofs.Ytagejkolgicecaa
