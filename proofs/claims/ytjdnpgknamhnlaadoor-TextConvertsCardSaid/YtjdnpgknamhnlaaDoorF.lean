/- Contracts of bounds and codes. -/
import Derived.Test.YtjdnpgknamhnlaaDoorE
namespace Go.Proofs.YtjdnpgknamhnlaaDoor
open Go Go.RowKit Go.Shelf
attribute [local go_sem] Oper.semAt_some

theorem infoInt : (Tryd.prog.info? 3).map (fun i => (i.zero, i.size, i.bytes)) = some (some (.int .i64 0), 1, 8) := by kernel_rfl

theorem alloc_heap (w : World) (o : Obj) : (w.alloc o).heap = w.heap.push o := rfl

/-- The place behind some characters, as the program adds it up. -/
def offW (pre : List (ByteArray × Int)) : Int := pre.foldl (fun a p => wrap64 (a + p.1.size)) 0
def offsW : List (ByteArray × Int) → List Int := fun pre => (List.range (pre.length + 1)).map fun k => offW (pre.take k)
theorem offW_snoc (pre : List (ByteArray × Int)) (x : ByteArray × Int) : offW (pre ++ [x]) = wrap64 (offW pre + x.1.size) := by simp [offW]
theorem offsW_snoc (pre : List (ByteArray × Int)) (x : ByteArray × Int) : offsW (pre ++ [x]) = offsW pre ++ [offW (pre ++ [x])] := by
  unfold offsW
  rw [List.length_append, List.length_singleton, List.range_succ, List.map_append]
  congr 1
  · apply List.map_congr_left
    intro k hk
    rw [List.take_append_of_le_length (by simp at hk; omega)]
  · simp [List.take_of_length_le]

theorem c60in {n : Nat} (c1 c2 c3 : Value) (s : ByteArray) (w : World) :
    CallsIn Fence.wide n Tryd.prog 60 #[.agg #[c1, c2, c3], .string s] w fun e w' => e = .returned (.func (.func 78) #[] #[.pointer (some ⟨w.heap.size + 1, 0, none⟩), .pointer (some ⟨w.heap.size, 0, none⟩)]) ∧ w' = (w.alloc (.cells #[c1, c2, c3] 64)).alloc (.cells #[.string s] 9) := callsIn_wide.2 (c60 c1 c2 c3 s w)

theorem cells_own {β : Type} (B : Nat) (cs : Array Value) (t : TypeId) (fr : Nat × Nat) : Own (fun (_ : β) W => W.heap[B]? = some (.cells cs t fr)) := fun s X Y row hs hg hrow =>
  (hg.block B (Array.getElem?_eq_some_iff.1 hs).1 (fun e' => by obtain ⟨o, ho, hc⟩ := hrow B e'.symm; rw [hs] at ho; cases ho; cases hc)).trans hs

theorem boxed_not_row2 {W : World} {B : Nat} {t e : TypeId} {u : Value} (h : Boxed W B t u) {base k : Nat} {v : Value} {xs : List Value} (hr : W.ownsRow base e 1 v k xs) (hk : 2 ≤ k) : v.ownBlock ≠ some B := by
  rcases hr.2 with ⟨rfl, _⟩ | ⟨g, cap, cur, rfl, _, hgb, hcap, _, hcur, _⟩
  · simp [Value.ownBlock]
  · intro e'
    obtain rfl : g = B := by simpa [Value.ownBlock] using e'
    have := (show W.heap[g]? = _ from h).symm.trans hgb
    simp at this
    obtain ⟨rfl, _⟩ := this
    simp at hcur
    omega

set_option maxRecDepth 100000 in
set_option maxHeartbeats 2000000 in
theorem c52 {w0 : World} {nx : ByteArray → Nat × Int} {kn : Nat} {lb : Array Value} (hN : NextOk w0 nx kn lb) (c1 c3 : Value) (s : ByteArray) (hs : s.size ≤ 100000) (w : World) (hb0 : Below w0.heap.size w0 w) (hw0 : w0.heap.size ≤ w.heap.size) :
    Calls Tryd.prog 52 #[.agg #[c1, .func (.func kn) #[] lb, c3], .string s] w fun e W' => ∃ v, e = .returned v ∧ W'.ownsRow w.heap.size 3 1 v ((parts nx s).length + 1) ((offsW (parts nx s)).map (Value.int .i64)) ∧ Below w.heap.size w W' := by
  have hpl := parts_length hN.toNxOk s.size s rfl
  obtain ⟨i0, hi, hz0, hz1, hz2⟩ := info_parts infoInt
  refine (callsIn_wide (n := 9)).1 ?_
  refine callsIn_of_wp_marks Tryd.func52 rfl trivial ?_ rfl
  simp only [Tryd.ntmps52, List.size_toArray, List.length_cons, List.length_nil, Nat.reduceAdd, Nat.reduceSub, Array.replicate_succ, Array.replicate_zero, List.push_toArray, List.append_toArray, List.nil_append, List.cons_append]
  gi_wp2_with (refine ⟨trivial, ?_⟩; gi_at_call 60; refine (c60in _ _ _ _ _).mono ?_; rintro e w' ⟨rfl, rfl⟩)
  obtain ⟨W0, hW0⟩ : ∃ W0, ((((((w.alloc (.cells #[c1, .func (.func kn) #[] lb, c3] 64)).alloc (.cells #[.int .i64 0] 3)).alloc (.cells #[.slice (some ⟨w.heap.size + 1, 0, none⟩) 1 1] 26)).alloc (.cells #[.int .i64 0] 3)).alloc (.cells #[c1, .func (.func kn) #[] lb, c3] 64)).alloc (.cells #[.string s] 9)) = W0 := ⟨_, rfl⟩
  have hB0 : Below w.heap.size w W0 := by rw [← hW0]; go_grown
  have hsz : W0.heap.size = w.heap.size + 6 := by rw [← hW0]; simp
  have bV : Boxed W0 (w.heap.size + 2) 26 (.slice (some ⟨w.heap.size + 1, 0, none⟩) 1 1) := by rw [← hW0]; simp only [Boxed, alloc_heap, Array.getElem?_push, Array.size_push]; (repeat (first | rw [if_neg (by omega)] | rw [if_pos (by omega)])); simp only [if_true]
  have bE : Boxed W0 (w.heap.size + 3) 3 (.int .i64 0) := by rw [← hW0]; simp only [Boxed, alloc_heap, Array.getElem?_push, Array.size_push]; (repeat (first | rw [if_neg (by omega)] | rw [if_pos (by omega)])); simp only [if_true]
  have bS : Boxed W0 (w.heap.size + 5) 9 (.string s) := by rw [← hW0]; simp only [Boxed, alloc_heap, Array.getElem?_push, Array.size_push]; (repeat (first | rw [if_neg (by omega)] | rw [if_pos (by omega)])); simp only [if_true]
  have bC : W0.heap[w.heap.size + 4]? = some (.cells #[c1, .func (.func kn) #[] lb, c3] 64 (0, 0)) := by rw [← hW0]; simp only [alloc_heap, Array.getElem?_push, Array.size_push]; (repeat (first | rw [if_neg (by omega)] | rw [if_pos (by omega)])); simp only [if_true]
  have hR0 : W0.ownsRow w.heap.size 3 1 (.slice (some ⟨w.heap.size + 1, 0, none⟩) 1 1) 1 [.int .i64 0] := by
    refine ⟨rfl, .inr ⟨w.heap.size + 1, 1, #[.int .i64 0], rfl, by omega, ?_, Nat.le_refl _, by decide, rfl, rfl⟩⟩
    rw [← hW0]; simp only [alloc_heap, Array.getElem?_push, Array.size_push]; (repeat (first | rw [if_neg (by omega)] | rw [if_pos (by omega)])); simp only [if_true]
  rw [hW0]
  refine wpIn_rangeFunc_ownG rfl (by omega) (gf := 78) (lb := #[.pointer (some ⟨w.heap.size + 1 + 1 + 1 + 1 + 1, 0, none⟩), .pointer (some ⟨w.heap.size + 1 + 1 + 1 + 1, 0, none⟩)]) rfl trivial (enters_of Tryd.func78 (by kernel_rfl) rfl)
    (walk_stops hN 8 (by omega) (w.heap.size + 5) (w.heap.size + 4) w.heap.size s (by omega) W0 hw0 (hb0.trans (hB0.mono hw0)) (by omega) (by omega) (by omega) bS.cell (by simp [World.cell?, bC]))
    KpB.trans (kpB_b (by omega) (by omega)) (Below.refl _ _) (fun _ => rfl)
    (fun pre W => (∃ v, Boxed W (w.heap.size + 2) 26 v ∧ W.ownsRow w.heap.size 3 1 v (pre.length + 1) ((offsW pre).map (Value.int .i64)) ∧ v.ownBlock ≠ some (w.heap.size + 3)) ∧ Boxed W (w.heap.size + 3) 3 (.int .i64 (offW pre)) ∧ W.heap[w.heap.size + 4]? = some (.cells #[c1, .func (.func kn) #[] lb, c3] 64 (0, 0)) ∧ Below w.heap.size w W)
    (fun _ _ _ => False)
    (OwnFrom.and (Own.from (holdsRow_own w.heap.size (w.heap.size + 2) 26 3 1 (fun pre => pre.length + 1) (fun pre => (offsW pre).map (Value.int .i64)) (fun _ v => v.ownBlock ≠ some (w.heap.size + 3))) _) (OwnFrom.and (Own.from (boxed_own (w.heap.size + 3) 3 (fun pre => .int .i64 (offW pre))) _) (OwnFrom.and (Own.from (cells_own (w.heap.size + 4) _ _ _) _) (ownFrom_below (Nat.le_refl _) (by omega)))))
    (fun _ _ _ _ _ hs _ _ => hs)
    ⟨⟨_, bV, hR0, by simp [Value.ownBlock]⟩, bE, bC, hB0⟩
    (fun x => { tmps := #[.agg #[c1, .func (.func kn) #[] lb, c3], .string s, .pointer (some ⟨w.heap.size, 0, none⟩), undef, .slice none 0 0, .pointer (some ⟨w.heap.size + 1 + 1, 0, none⟩), .pointer (some ⟨w.heap.size + 1 + 1 + 1, 0, none⟩), .string x.1, .slice (some ⟨w.heap.size + 1, 0, none⟩) 1 1, .agg #[c1, .func (.func kn) #[] lb, c3], .string s, .func (.func 78) #[] #[.pointer (some ⟨w.heap.size + 1 + 1 + 1 + 1 + 1, 0, none⟩), .pointer (some ⟨w.heap.size + 1 + 1 + 1 + 1, 0, none⟩)], .string x.1, .int .i64 x.2, undef, undef, undef, undef, undef, undef, undef, undef, undef], defers := [] }) ?assign ?body ?done ?stop
  case assign =>
    intro l x W K hK
    gi_wp2
    exact hK
  case body =>
    rintro l pre x W ⟨⟨v, hv, hrow, hne⟩, hE, hC, hB⟩ hlt
    have hc := hv.cell
    have hcE := hE.cell
    have hfE := hE.frozen
    have hsW := hB.size
    have hv1' := hv.other (B' := w.heap.size + 3) (by omega) (.int .i64 (wrap64 (offW pre + x.1.size)))
    have hrow1 := hrow.kept (grownBy_setCell' W (w.heap.size + 3) (.int .i64 (wrap64 (offW pre + x.1.size)))) (.inr hne)
    have hszW1 : (W.setCell ⟨w.heap.size + 3, 0, none⟩ (.int .i64 (wrap64 (offW pre + x.1.size)))).heap.size = W.heap.size := by simp
    gi_wp2_with (gi_at_builtin; refine wpListIn_append_own _ rfl _ _ 26 rfl w.heap.size 3 i0 (.int .i64 0) 1 8 Tryd.underlying26 hi hz0 hz1 hz2 rfl (by decide) _ _ _ rfl (hrow1.alloc _) ⟨W.heap.size, 0, none⟩ 1 1 [.int .i64 (wrap64 (offW pre + x.1.size))] rfl rfl ?h1 ?h2 ?h3 ?h4 ?h5 ?_)
    case h1 => have := cell_one_new (W.setCell ⟨w.heap.size + 3, 0, none⟩ (.int .i64 (wrap64 (offW pre + x.1.size)))) (.int .i64 (wrap64 (offW pre + x.1.size))) 3; rw [hszW1] at this; exact this
    case h2 => simp [Value.oneCell']
    case h3 => unfold maxLen; omega
    case h4 => omega
    case h5 => simp; omega
    intro v' w1 hown' hgrow _
    obtain ⟨g', cap', rfl⟩ := ownsRow_succ hown'
    obtain ⟨hv1, hv2, hr2, hk2, hb2⟩ := hv1'.appended (by decide) hrow1 (by omega) (by omega) hown' hgrow
    have hc1 := hv1.cell
    have hf1 := hv1.frozen
    have hE1 : Boxed w1 (w.heap.size + 3) 3 (.int .i64 (wrap64 (offW pre + x.1.size))) := ((hE.set _).alloc _).kept hgrow (fun e => hne e.symm)
    have hE2 := hE1.other (B' := w.heap.size + 2) (by omega) (.slice (some ⟨g', 0, none⟩) (pre.length + 1 + 1) cap')
    have hne' := boxed_not_row2 hE1 hown' (by omega)
    have hC1 : w1.heap[w.heap.size + 4]? = some (.cells #[c1, .func (.func kn) #[] lb, c3] 64 (0, 0)) := by
      have hlt4 : w.heap.size + 4 < W.heap.size := (Array.getElem?_eq_some_iff.1 hC).1
      have e1 : ((W.setCell ⟨w.heap.size + 3, 0, none⟩ (.int .i64 (wrap64 (offW pre + x.1.size)))).alloc (.cells #[.int .i64 (wrap64 (offW pre + x.1.size))] 3)).heap[w.heap.size + 4]? = some (.cells #[c1, .func (.func kn) #[] lb, c3] 64 (0, 0)) := by
        rw [Below.heap_alloc _ _ _ (by simp; omega), Below.heap_setCell _ _ _ _ (by simp)]; exact hC
      refine (hgrow.block _ (by simp; omega) (fun e => ?_)).trans e1
      rcases hrow.2 with ⟨rfl, _⟩ | ⟨g, cap, cur, rfl, _, hgb, _⟩
      · simp [Value.ownBlock] at e
      · obtain rfl : w.heap.size + 4 = g := by simpa [Value.ownBlock] using e
        rw [hC] at hgb; simp at hgb
    have hC2 : (w1.setCell ⟨w.heap.size + 1 + 1, 0, none⟩ (.slice (some ⟨g', 0, none⟩) (pre.length + 1 + 1) cap')).heap[w.heap.size + 4]? = some (.cells #[c1, .func (.func kn) #[] lb, c3] 64 (0, 0)) := by
      rw [Below.heap_setCell _ _ _ _ (by simp)]; exact hC1
    have hbb : Below w.heap.size W (w1.setCell ⟨w.heap.size + 2, 0, none⟩ (.slice (some ⟨g', 0, none⟩) (pre.length + 1 + 1) cap')) := ((Below.refl _ W).setCell (p := ⟨w.heap.size + 3, 0, none⟩) (by simp) _).trans hb2
    have hkk := ((KeepsOthers.setCell W ⟨w.heap.size + 3, 0, none⟩ (.int .i64 (wrap64 (offW pre + x.1.size)))).trans hk2).from W0.heap.size
    gi_wp2
    refine ⟨hkk, ⟨hbb, hC2.trans hC.symm⟩, ⟨_, hv2, ?_, hne'⟩, ?_, hC2, hB.trans hbb⟩
    · rw [offsW_snoc, offW_snoc]; simpa using hr2
    · rw [offW_snoc]; exact hE2
  case done =>
    rintro D ys W hD rfl ⟨⟨v, hv, hrow, _⟩, hE, hC, hB⟩ hK
    have hc := hv.cell
    gi_wp2
    refine ⟨by simp, .inl ⟨_, _, rfl, run_takeDeferred hK, ?_⟩⟩
    exact ⟨_, results_tmp rfl _ _ _, v, rfl, ownsRow_putObj hrow _ hK rfl, hB.trans (belowK_b (w := w) (Nat.le_refl _) W D _ _ (by omega) hK rfl rfl)⟩
  case stop =>
    rintro D c pre W _ _ h _
    exact h.elim
end Go.Proofs.YtjdnpgknamhnlaaDoor
