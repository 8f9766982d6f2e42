/- Contract of codes. -/
import Derived.Test.YtjdnpgknamhnlaaDoorF
namespace Go.Proofs.YtjdnpgknamhnlaaDoor
open Go Go.RowKit Go.Shelf
attribute [local go_sem] Oper.semAt_some

def CodesPost (B : Nat) (ps : List (ByteArray × Int)) (e : Ending) (W' : World) : Prop :=
  ((∀ p ∈ ps, p.2 ≠ -1) ∧ ∃ v, e = .returned (.tuple #[v, .bool true]) ∧ W'.ownsRow B 3 1 v ps.length (ps.map fun p => Value.int .i64 p.2)) ∨
  ((∃ p ∈ ps, p.2 = -1) ∧ e = .returned (.tuple #[.slice none 0 0, .bool false]))

theorem cells_grown {W w1 : World} {b : Nat} {cs : Array Value} {t e : TypeId} {fr : Nat × Nat} {tmp : Obj} {base size k : Nat} {v : Value} {xs : List Value} (hC : W.heap[b]? = some (.cells cs t fr)) (hte : t ≠ e)
    (hrow : W.ownsRow base e size v k xs) (hg : (W.alloc tmp).grownBy w1 v.ownBlock) : w1.heap[b]? = some (.cells cs t fr) := by
  have hlt : b < W.heap.size := (Array.getElem?_eq_some_iff.1 hC).1
  refine (hg.block b (by simp; omega) (fun e => ?_)).trans ((Below.heap_alloc W tmp b hlt).trans hC)
  rcases hrow.2 with ⟨rfl, _⟩ | ⟨g, cap, cur, rfl, _, hgb, _⟩
  · simp [Value.ownBlock] at e
  · obtain rfl : b = g := by simpa [Value.ownBlock] using e
    rw [hC] at hgb; simp at hgb; exact hte hgb.2.1
theorem row_slice {W : World} {base : Nat} {e : TypeId} {size k : Nat} {v : Value} {xs : List Value} (h : W.ownsRow base e size v k xs) : ∃ ao cap, v = .slice ao k cap := by
  rcases h.2 with ⟨hv, h0⟩ | ⟨g, cap, cur, hv, _⟩
  · exact ⟨none, 0, by rw [hv, h0]⟩
  · exact ⟨_, _, hv⟩

set_option maxRecDepth 100000 in
set_option maxHeartbeats 2000000 in
theorem c51 {w0 : World} {nx : ByteArray → Nat × Int} {kn : Nat} {lb : Array Value} (hN : NextOk w0 nx kn lb) (c1 c3 : Value) (s : ByteArray) (hs : s.size ≤ 100000) (w : World) (hb0 : Below w0.heap.size w0 w) (hw0 : w0.heap.size ≤ w.heap.size) :
    Calls Tryd.prog 51 #[.agg #[c1, .func (.func kn) #[] lb, c3], .string s] w fun e W' => CodesPost w.heap.size (parts nx s) e W' ∧ Below w.heap.size w W' := by
  have hpl := parts_length hN.toNxOk s.size s rfl
  obtain ⟨i0, hi, hz0, hz1, hz2⟩ := info_parts infoInt
  refine (callsIn_wide (n := 9)).1 ?_
  refine callsIn_of_wp_marks Tryd.func51 rfl trivial ?_ rfl
  simp only [Tryd.ntmps51, List.size_toArray, List.length_cons, List.length_nil, Nat.reduceAdd, Nat.reduceSub, Array.replicate_succ, Array.replicate_zero, List.push_toArray, List.append_toArray, List.nil_append, List.cons_append]
  gi_wp2_with (refine ⟨trivial, ?_⟩; gi_at_call 60; refine (c60in _ _ _ _ _).mono ?_; rintro e w' ⟨rfl, rfl⟩)
  obtain ⟨W0, hW0⟩ : ∃ W0, ((((((w.alloc (.cells #[c1, .func (.func kn) #[] lb, c3] 64)).alloc (.cells #[.slice none 0 0] 26)).alloc (.cells #[.bool false] 4)).alloc (.cells #[.slice none 0 0] 26)).alloc (.cells #[c1, .func (.func kn) #[] lb, c3] 64)).alloc (.cells #[.string s] 9)) = W0 := ⟨_, rfl⟩
  have hB0 : Below w.heap.size w W0 := by rw [← hW0]; go_grown
  have hsz : W0.heap.size = w.heap.size + 6 := by rw [← hW0]; simp
  have bR : Boxed W0 (w.heap.size + 1) 26 (.slice none 0 0) := by rw [← hW0]; simp only [Boxed, alloc_heap, Array.getElem?_push, Array.size_push]; (repeat (first | rw [if_neg (by omega)] | rw [if_pos (by omega)])); simp only [if_true]
  have bO : Boxed W0 (w.heap.size + 2) 4 (.bool false) := by rw [← hW0]; simp only [Boxed, alloc_heap, Array.getElem?_push, Array.size_push]; (repeat (first | rw [if_neg (by omega)] | rw [if_pos (by omega)])); simp only [if_true]
  have bV : Boxed W0 (w.heap.size + 3) 26 (.slice none 0 0) := by rw [← hW0]; simp only [Boxed, alloc_heap, Array.getElem?_push, Array.size_push]; (repeat (first | rw [if_neg (by omega)] | rw [if_pos (by omega)])); simp only [if_true]
  have bS : Boxed W0 (w.heap.size + 5) 9 (.string s) := by rw [← hW0]; simp only [Boxed, alloc_heap, Array.getElem?_push, Array.size_push]; (repeat (first | rw [if_neg (by omega)] | rw [if_pos (by omega)])); simp only [if_true]
  have bC : W0.heap[w.heap.size + 4]? = some (.cells #[c1, .func (.func kn) #[] lb, c3] 64 (0, 0)) := by rw [← hW0]; simp only [alloc_heap, Array.getElem?_push, Array.size_push]; (repeat (first | rw [if_neg (by omega)] | rw [if_pos (by omega)])); simp only [if_true]
  rw [hW0]
  refine wpIn_rangeFunc_ownG rfl (by omega) (gf := 78) (lb := #[.pointer (some ⟨w.heap.size + 1 + 1 + 1 + 1 + 1, 0, none⟩), .pointer (some ⟨w.heap.size + 1 + 1 + 1 + 1, 0, none⟩)]) rfl trivial (enters_of Tryd.func78 (by kernel_rfl) rfl)
    (walk_stops hN 8 (by omega) (w.heap.size + 5) (w.heap.size + 4) w.heap.size s (by omega) W0 hw0 (hb0.trans (hB0.mono hw0)) (by omega) (by omega) (by omega) bS.cell (by simp [World.cell?, bC]))
    KpB.trans (kpB_b (by omega) (by omega)) (Below.refl _ _) (fun _ => rfl)
    (fun pre W => (∃ v, Boxed W (w.heap.size + 3) 26 v ∧ W.ownsRow w.heap.size 3 1 v pre.length (pre.map fun p => Value.int .i64 p.2) ∧ True) ∧ Boxed W (w.heap.size + 1) 26 (.slice none 0 0) ∧ Boxed W (w.heap.size + 2) 4 (.bool false) ∧ W.heap[w.heap.size + 4]? = some (.cells #[c1, .func (.func kn) #[] lb, c3] 64 (0, 0)) ∧ Below w.heap.size w W ∧ (∀ p ∈ pre, p.2 ≠ -1))
    (fun c pre W => (c = .ret ∧ ∃ p ∈ pre, p.2 = -1) ∧ Boxed W (w.heap.size + 1) 26 (.slice none 0 0) ∧ Boxed W (w.heap.size + 2) 4 (.bool false) ∧ Below w.heap.size w W)
    (OwnFrom.and (Own.from (holdsRow_own w.heap.size (w.heap.size + 3) 26 3 1 (fun pre : List (ByteArray × Int) => pre.length) (fun pre => pre.map fun p => Value.int .i64 p.2) (fun _ _ => True)) _) (OwnFrom.and (Own.from (boxed_own _ 26 (fun _ => .slice none 0 0)) _) (OwnFrom.and (Own.from (boxed_own _ 4 (fun _ => .bool false)) _) (OwnFrom.and (Own.from (cells_own (w.heap.size + 4) _ _ _) _) (OwnFrom.and (ownFrom_below (Nat.le_refl _) (by omega)) (ownFrom_pure _ _))))))
    (fun c => OwnFrom.and (ownFrom_pure _ _) (OwnFrom.and (Own.from (boxed_own _ 26 (fun _ => .slice none 0 0)) _) (OwnFrom.and (Own.from (boxed_own _ 4 (fun _ => .bool false)) _) (ownFrom_below (Nat.le_refl _) (by omega)))))
    ⟨⟨_, bV, World.ownsRow_nil _ _ _ _, trivial⟩, bR, bO, bC, hB0, by simp⟩
    (fun x => { tmps := #[.agg #[c1, .func (.func kn) #[] lb, c3], .string s, .pointer (some ⟨w.heap.size, 0, none⟩), undef, .pointer (some ⟨w.heap.size + 1, 0, none⟩), .pointer (some ⟨w.heap.size + 1 + 1, 0, none⟩), .pointer (some ⟨w.heap.size + 1 + 1 + 1, 0, none⟩), undef, .int .i64 x.2, .agg #[c1, .func (.func kn) #[] lb, c3], .string s, .func (.func 78) #[] #[.pointer (some ⟨w.heap.size + 1 + 1 + 1 + 1 + 1, 0, none⟩), .pointer (some ⟨w.heap.size + 1 + 1 + 1 + 1, 0, none⟩)], .string x.1, .int .i64 x.2, undef, undef, undef, undef, undef, undef, undef], defers := [] }) ?assign ?body ?done ?stop
  case assign =>
    intro l x W K hK
    gi_wp2
    exact hK
  case body =>
    rintro l pre x W ⟨⟨v, hv, hrow, _⟩, hR, hO, hC, hB, hall⟩ hlt
    have hall' := Lib.hid hall
    clear hall
    have hc := hv.cell
    have hcR := hR.cell
    have hfR := hR.frozen
    have hcO := hO.cell
    have hfO := hO.frozen
    have hsW := hB.size
    by_cases hx : x.2 = -1
    · have hx1 : (x.2 == -1) = true := by rw [hx]; rfl
      have hR2 := hR.set (.slice none 0 0)
      have hR3 := hR2.other (B' := w.heap.size + 2) (by omega) (.bool false)
      have hO2 := (hO.other (B' := w.heap.size + 1) (by omega) (.slice none 0 0)).set (.bool false)
      have Hx := Lib.hid hx
      clear hx
      gi_wp2
      refine ⟨((KeepsOthers.setCell W ⟨w.heap.size + 1, 0, none⟩ (.slice none 0 0)).trans (KeepsOthers.setCell _ ⟨w.heap.size + 2, 0, none⟩ (.bool false))).from _, ⟨⟨rfl, x, by simp, Hx.out⟩, hR3, hO2, (hB.setCell (p := ⟨w.heap.size + 1, 0, none⟩) (by simp) _).setCell (p := ⟨w.heap.size + 2, 0, none⟩) (by simp) _⟩⟩
    · have hx1 : (x.2 == -1) = false := by rw [beq_eq_false_iff_ne]; exact hx
      have Hx := Lib.hid hx
      clear hx
      gi_wp2_with (gi_at_builtin; refine wpListIn_append_own _ rfl _ _ 26 rfl w.heap.size 3 i0 (.int .i64 0) 1 8 Tryd.underlying26 hi hz0 hz1 hz2 rfl (by decide) _ _ _ rfl (hrow.alloc _) ⟨W.heap.size, 0, none⟩ 1 1 [.int .i64 x.2] rfl rfl (cell_one_new _ _ _) (by simp [Value.oneCell']) (by unfold maxLen; omega) (by omega) (by simp; omega) ?_; intro v' w1 hown' hgrow _; replace hgrow : World.grownBy (W.alloc (.cells #[.int .i64 x.2] 3)) w1 v.ownBlock := hgrow; obtain ⟨g', cap', rfl⟩ := ownsRow_succ hown'; obtain ⟨hv1, hv2, hr2, hk2, hb2⟩ := hv.appended (by decide) hrow hB.size (by omega) hown' hgrow; have hc1 := hv1.cell; have hf1 := hv1.frozen)
      have hC1 := cells_grown hC (by decide) hrow hgrow
      have hC2 : (w1.setCell ⟨w.heap.size + 3, 0, none⟩ (.slice (some ⟨g', 0, none⟩) (pre.length + 1) cap')).heap[w.heap.size + 4]? = some (.cells #[c1, .func (.func kn) #[] lb, c3] 64 (0, 0)) := by
        rw [Below.heap_setCell _ _ _ _ (by simp)]; exact hC1
      have hR2 := (((hR.alloc (.cells #[.int .i64 x.2] 3)).kept hgrow (hR.not_row (by decide) hrow)).other (B' := w.heap.size + 3) (by omega) (.slice (some ⟨g', 0, none⟩) (pre.length + 1) cap'))
      have hO2 := (((hO.alloc (.cells #[.int .i64 x.2] 3)).kept hgrow (hO.not_row (by decide) hrow)).other (B' := w.heap.size + 3) (by omega) (.slice (some ⟨g', 0, none⟩) (pre.length + 1) cap'))
      refine ⟨hk2.from _, ⟨hb2, hC2.trans hC.symm⟩, ⟨_, hv2, by simpa using hr2, trivial⟩, hR2, hO2, hC2, hB.trans hb2, ?_⟩
      intro p hp
      rcases List.mem_append.1 hp with h | h
      · exact hall'.out p h
      · simp at h; subst h; exact Hx.out
  case done =>
    rintro D ys W hD rfl ⟨⟨v, hv, hrow, _⟩, hR, hO, hC, hB, hall⟩ hK
    obtain ⟨ao, cap, rfl⟩ := row_slice hrow
    have hall' := Lib.hid hall
    clear hall
    have hc := hv.cell
    have hcR := hR.cell
    have hfR := hR.frozen
    have hcO := hO.cell
    have hfO := hO.frozen
    have hR2 := hR.set (.slice ao (parts nx s).length cap)
    have hR3 := hR2.other (B' := w.heap.size + 2) (by omega) (.bool true)
    have hO2 := (hO.other (B' := w.heap.size + 1) (by omega) (.slice ao (parts nx s).length cap)).set (.bool true)
    have hrow2 := (hrow.kept (grownBy_setCell' W (w.heap.size + 1) (.slice ao (parts nx s).length cap)) (.inr (hR.not_row (by decide) hrow).symm))
    have hrow3 := (hrow2.kept (grownBy_setCell' _ (w.heap.size + 2) (.bool true)) (.inr ((hO.other (B' := w.heap.size + 1) (by omega) (.slice ao (parts nx s).length cap)).not_row (by decide) hrow2).symm))
    have hBB := (hB.setCell (p := ⟨w.heap.size + 1, 0, none⟩) (by simp) (.slice ao (parts nx s).length cap)).setCell (p := ⟨w.heap.size + 2, 0, none⟩) (by simp) (.bool true)
    have hK' := ((KeepsOthers.setCell W ⟨w.heap.size + 1, 0, none⟩ (.slice ao (parts nx s).length cap)).trans (KeepsOthers.setCell _ ⟨w.heap.size + 2, 0, none⟩ (.bool true))).same D _ hK rfl
    have hc5 := cell_kept hR3.cell (grownBy_putObj' _ D (.deferred none)) (fun r e => by cases e; exact ⟨_, hK', rfl⟩)
    have hc6 := cell_kept hO2.cell (grownBy_putObj' _ D (.deferred none)) (fun r e => by cases e; exact ⟨_, hK', rfl⟩)
    gi_wp2
    refine ⟨by simp, .inl ⟨_, _, rfl, run_takeDeferred hK', ?_⟩⟩
    refine ⟨.tuple #[.slice ao (parts nx s).length cap, .bool true], by simp [results, Tryd.f51, go_sem, hc5, hc6], ⟨.inl ⟨hall'.out, _, rfl, ownsRow_putObj hrow3 _ hK' rfl⟩, ?_⟩⟩
    exact hBB.trans (belowK_b (w := w) (Nat.le_refl _) _ D _ _ (by omega) hK' rfl rfl)
  case stop =>
    rintro D c pre W hD hSp ⟨⟨rfl, hex⟩, hR, hO, hB⟩ hK
    have hc5 := cell_kept hR.cell (grownBy_putObj' _ D (.deferred none)) (fun r e => by cases e; exact ⟨_, hK, rfl⟩)
    have hc6 := cell_kept hO.cell (grownBy_putObj' _ D (.deferred none)) (fun r e => by cases e; exact ⟨_, hK, rfl⟩)
    have hex' : Go.RowKit.Hid (∃ p ∈ parts nx s, p.2 = -1) := by
      obtain ⟨p, hp, h1⟩ := hex
      exact ⟨p, hSp.subset hp, h1⟩
    clear hex
    gi_wp2
    refine ⟨by simp, .inl ⟨_, _, rfl, run_takeDeferred hK, ?_⟩⟩
    refine ⟨.tuple #[.slice none 0 0, .bool false], by simp [results, Tryd.f51, go_sem, hc5, hc6], ⟨.inr ⟨hex'.out, rfl⟩, ?_⟩⟩
    exact hB.trans (belowK_b (w := w) (Nat.le_refl _) _ D _ _ (by omega) hK rfl rfl)
end Go.Proofs.YtjdnpgknamhnlaaDoor
