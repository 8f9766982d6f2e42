/- Contract of text.Lossy. -/
import Derived.Test.YtjdnpgknamhnlaaDoorL
namespace Go.Proofs.YtjdnpgknamhnlaaDoor
open Go Go.RowKit Go.Shelf
attribute [local go_sem] Oper.semAt_some

theorem infoStr : (Tryd.prog.info? 9).map (fun i => (i.zero, i.size, i.bytes)) = some (some (.string ⟨#[]⟩), 1, 16) := by kernel_rfl
/-- What Lossy writes for some characters. -/
def pcs (e : Int) (by' : ByteArray) (ps : List (ByteArray × Int)) : List ByteArray := ps.map fun p => (chrOf e p.2).getD by'
theorem encode_size (c : Int) : (Utf8.encode c).size ≤ 4 := by
  unfold Utf8.encode
  dsimp only
  repeat' split
  all_goals exact Nat.le_of_ble_eq_true rfl
theorem chr_size (e c : Int) (x : ByteArray) (h : chrOf e c = some x) : x.size ≤ 4 := by
  unfold chrOf at h
  split at h
  · split at h
    · cases h; exact encode_size c
    · cases h
  · split at h
    · cases h; simp [ByteArray.size]
    · cases h
theorem cat_cons (p : ByteArray) (ps : List ByteArray) : cat (p :: ps) = p.data.toList ++ cat ps := by simp [cat]
theorem sumS_le (ps : List ByteArray) (m : Nat) (h : ∀ p ∈ ps, p.size ≤ m) : sumS ps ≤ ps.length * m := by
  induction ps with
  | nil => simp [sumS, cat]
  | cons p ps ih =>
    have h1 := h p (by simp)
    have h2 := ih (fun q hq => h q (by simp [hq]))
    unfold sumS at *
    rw [cat_cons, List.length_append, List.length_cons, Nat.add_mul]
    have : p.data.toList.length = p.size := rfl
    omega
theorem pcs_sum (e : Int) (by' : ByteArray) (hb : by'.size ≤ 100000) (ps : List (ByteArray × Int)) (hl : ps.length ≤ 100000) : sumS (pcs e by' ps) ≤ 140737488355328 := by
  have := sumS_le (pcs e by' ps) 100004 (fun p hp => by
    obtain ⟨q, _, rfl⟩ := List.mem_map.1 hp
    cases hc : chrOf e q.2 with
    | none => show by'.size ≤ _; omega
    | some x => have := chr_size e q.2 x hc; show x.size ≤ _; omega)
  have hlen : (pcs e by' ps).length = ps.length := by simp [pcs]
  rw [hlen] at this
  have h2 : ps.length * 100004 ≤ 100000 * 100004 := Nat.mul_le_mul_right _ hl
  omega

theorem ownsRow_below {W W' : World} {base : Nat} {e : TypeId} {size k : Nat} {v : Value} {xs : List Value} (h : W.ownsRow base e size v k xs) (hb : Below W.heap.size W W') : W'.ownsRow base e size v k xs := by
  refine h.kept (row := none) ⟨hb.os, hb.tape, hb.output, hb.size, fun k hk _ => hb.block k hk⟩ ?_
  rcases h.2 with ⟨rfl, _⟩ | ⟨g, cap, cur, rfl, _⟩
  · exact .inl rfl
  · exact .inr (by simp [Value.ownBlock])
theorem keepsOthers_below {W W' : World} (hb : Below W.heap.size W W') : KeepsOthers W W' :=
  KeepsOthers.of_grownBy (row := none) ⟨hb.os, hb.tape, hb.output, hb.size, fun k hk _ => hb.block k hk⟩ (fun j o e => by cases e)

set_option maxRecDepth 100000 in
set_option maxHeartbeats 2000000 in
theorem t33 (s by' : ByteArray) (e f : Int) (w : World) (hT : Lib.Utf8Tabs 0 1 w) (hs : s.size ≤ 100000) (hby : by'.size ≤ 100000) (he : isEnc e = true) (hf : isEnc f = true) :
    Calls Tryd.prog 33 #[.string s, .int .i64 e, .int .i64 f, .string by'] w fun e' w' => e' = .returned (.tuple #[.string ⟨(cat (pcs f by' (parts (nxOf e) s))).toArray⟩, .int .i64 0]) ∧ Below w.heap.size w w' := by
  have cc := c47 e (w.alloc (.cells #[.string by'] 9)) (Utf8Tabs_below hT (by go_grown)) he
  have cf : ∀ W, Below w.heap.size w W → Calls Tryd.prog 47 #[.int .i64 f] W _ := fun W hb => c47 f W (Utf8Tabs_below hT hb) hf
  have CF := Lib.hid cf
  have hsm : Go.RowKit.Hid ((decide (100000 < s.size) || decide (100000 < by'.size)) = false) := by
    show _ = _
    rw [decide_eq_false (by omega), decide_eq_false (by omega)]; rfl
  clear he hf cf
  have hpl := parts_length (nxOf_ok e) s.size s rfl
  have hsum := pcs_sum f by' hby (parts (nxOf e) s) (by omega)
  obtain ⟨i0, hi, hz0, hz1, hz2⟩ := info_parts infoStr
  refine (callsIn_wide (n := 9)).1 ?_
  refine callsIn_of_wp_marks Tryd.func33 rfl trivial ?_ rfl
  simp only [Tryd.ntmps33, List.size_toArray, List.length_cons, List.length_nil, Nat.reduceAdd, Nat.reduceSub, Array.replicate_succ, Array.replicate_zero, List.push_toArray, List.append_toArray, List.nil_append, List.cons_append]
  gi_wp2_with fail
  refine ⟨trivial, ?_⟩
  refine (callsIn_wide.2 cc).mono ?_
  rintro e' w1 ⟨⟨c, rfl, kv, kn, kc, lb, rfl, hcod⟩, hb1⟩
  rw [World.size_alloc] at hb1
  have hB1 : Below w.heap.size w w1 := ((Below.refl _ w).alloc (Nat.le_refl _) _).trans (hb1.mono (by omega))
  gi_wp2_with fail
  refine ⟨trivial, ?_⟩
  refine (callsIn_wide.2 (CF.out _ (hB1.alloc hB1.size _))).mono ?_
  rintro e' w2 ⟨⟨c', rfl, kv', kn', kc', lb', rfl, hcod'⟩, hb2⟩
  rw [World.size_alloc] at hb2
  have hB2 : Below w.heap.size w w2 := (hB1.alloc hB1.size _).trans (hb2.mono (by have := hB1.size; omega))
  have hs1 := hb1.size
  rw [World.size_alloc] at hs1
  have hs2 := hb2.size
  rw [World.size_alloc] at hs2
  have bBy : Boxed w2 w.heap.size 9 (.string by') := ((hb2.block w.heap.size (by omega)).trans (Below.heap_alloc _ _ _ (by omega))).trans ((hb1.block w.heap.size (by omega)).trans (World.alloc_heap_new w _))
  have cBy := bBy.cell
  have bSrc : w2.heap[w1.heap.size]? = some (.cells #[.func (.func kv) #[] #[], .func (.func kn) #[] lb, .func (.func kc) #[] lb] 64 (0, 0)) := (hb2.block w1.heap.size (by omega)).trans (World.alloc_heap_new w1 _)
  have s0 : w2.cell? ⟨w1.heap.size, 0, none⟩ = some (.func (.func kv) #[] #[]) := by rw [Lib.cell_of_heap bSrc]; rfl
  have s1 : w2.cell? ⟨w1.heap.size, 1, none⟩ = some (.func (.func kn) #[] lb) := by rw [Lib.cell_of_heap bSrc]; rfl
  have s2 : w2.cell? ⟨w1.heap.size, 2, none⟩ = some (.func (.func kc) #[] lb) := by rw [Lib.cell_of_heap bSrc]; rfl
  have hlt0 : w.heap.size < w2.heap.size := by omega
  have hlt1 : w1.heap.size < w2.heap.size := by omega
  have hlt2 : w1.heap.size < w2.heap.size + 1 := by omega
  have hlt3 : w1.heap.size < w2.heap.size + 1 + 1 := by omega
  gi_wp2_with fail
  refine ⟨trivial, ?_⟩
  refine (callsIn_wide.2 (c48_2 s by' false hsm.out _ _ (by omega) (by omega) (by simp) (by simp) (by simp))).mono ?_
  rintro e' w3 ⟨rfl, rfl⟩
  gi_wp2_with (refine ⟨trivial, ?_⟩; gi_at_call 60; refine (c60in _ _ _ _ _).mono ?_; rintro e w' ⟨rfl, rfl⟩)
  obtain ⟨W0, hW0⟩ : ∃ W0, (((((w2.alloc (.cells #[.func (.func kv') #[] #[], .func (.func kn') #[] lb', .func (.func kc') #[] lb'] 64)).alloc (.cells #[.string s, .string by'] 9)).alloc (.cells #[.slice none 0 0] 76)).alloc (.cells #[.func (.func kv) #[] #[], .func (.func kn) #[] lb, .func (.func kc) #[] lb] 64)).alloc (.cells #[.string s] 9)) = W0 := ⟨_, rfl⟩
  have hB0 : Below w2.heap.size w2 W0 := by rw [← hW0]; go_grown
  have hsz : W0.heap.size = w2.heap.size + 5 := by rw [← hW0]; simp
  have bT : W0.heap[w2.heap.size]? = some (.cells #[.func (.func kv') #[] #[], .func (.func kn') #[] lb', .func (.func kc') #[] lb'] 64 (0, 0)) := by rw [← hW0]; simp only [alloc_heap, Array.getElem?_push, Array.size_push]; (repeat (first | rw [if_neg (by omega)] | rw [if_pos (by omega)])); simp only [if_true]
  have bV : Boxed W0 (w2.heap.size + 2) 76 (.slice none 0 0) := by rw [← hW0]; simp only [Boxed, alloc_heap, Array.getElem?_push, Array.size_push]; (repeat (first | rw [if_neg (by omega)] | rw [if_pos (by omega)])); simp only [if_true]
  have bC : W0.heap[w2.heap.size + 3]? = some (.cells #[.func (.func kv) #[] #[], .func (.func kn) #[] lb, .func (.func kc) #[] lb] 64 (0, 0)) := by rw [← hW0]; simp only [alloc_heap, Array.getElem?_push, Array.size_push]; (repeat (first | rw [if_neg (by omega)] | rw [if_pos (by omega)])); simp only [if_true]
  have bS : Boxed W0 (w2.heap.size + 4) 9 (.string s) := by rw [← hW0]; simp only [Boxed, alloc_heap, Array.getElem?_push, Array.size_push]; (repeat (first | rw [if_neg (by omega)] | rw [if_pos (by omega)])); simp only [if_true]
  rw [hW0]
  have HW0 := Lib.hid hW0
  clear hW0 s0 s1 s2 cBy
  have hw10 : Below w1.heap.size w1 W0 := ((Below.refl _ w1).alloc (Nat.le_refl _) _).trans ((hb2.mono (by omega)).trans (hB0.mono (by omega)))
  refine wpIn_rangeFunc_ownG rfl (by omega) (gf := 78) (lb := #[.pointer (some ⟨w2.heap.size + 1 + 1 + 1 + 1, 0, none⟩), .pointer (some ⟨w2.heap.size + 1 + 1 + 1, 0, none⟩)]) rfl trivial (enters_of Tryd.func78 (by kernel_rfl) rfl)
    (walk_stops hcod.toNextOk 8 (by omega) (w2.heap.size + 4) (w2.heap.size + 3) (w2.heap.size + 2) s (by omega) W0 (by omega) hw10 (by omega) (by omega) (by omega) bS.cell (by simp [World.cell?, bC]))
    KpB.trans (kpB_b (by omega) (by omega)) (Below.refl _ _) (fun _ => rfl)
    (fun pre W => (∃ v, Boxed W (w2.heap.size + 2) 76 v ∧ W.ownsRow (w2.heap.size + 2) 9 1 v pre.length ((pcs f by' pre).map Value.string) ∧ True) ∧ W.heap[w2.heap.size + 3]? = some (.cells #[.func (.func kv) #[] #[], .func (.func kn) #[] lb, .func (.func kc) #[] lb] 64 (0, 0)) ∧ Below (w2.heap.size + 2) W0 W)
    (fun _ _ _ => False)
    (OwnFrom.and (Own.from (holdsRow_own (w2.heap.size + 2) (w2.heap.size + 2) 76 9 1 (fun pre : List (ByteArray × Int) => pre.length) (fun pre => (pcs f by' pre).map Value.string) (fun _ _ => True)) _) (OwnFrom.and (Own.from (cells_own (w2.heap.size + 3) _ _ _) _) (ownFrom_below (by omega) (by omega))))
    (fun _ _ _ _ _ hs _ _ => hs)
    ⟨⟨_, bV, World.ownsRow_nil _ _ _ _, trivial⟩, bC, Below.refl _ _⟩
    (fun x => { tmps := #[Value.string s, Value.int IntKind.i64 e, Value.int IntKind.i64 f, Value.string by', undef, undef, undef, Value.pointer (some { block := w.heap.size, off := 0 }), Value.string { data := #[] }, Value.int IntKind.i64 0, Value.pointer (some { block := w1.heap.size, off := 0 }), Value.bool true, Value.pointer (some { block := w2.heap.size, off := 0 }), Value.bool true, Value.pointer (some { block := w2.heap.size + 1 + 1, off := 0 }), undef, .int .i64 x.2, undef, undef, Value.tuple #[Value.agg #[Value.func (Fn.func kv) #[] #[], Value.func (Fn.func kn) #[] lb, Value.func (Fn.func kc) #[] lb], Value.bool true], Value.int IntKind.i64 e, Value.tuple #[Value.agg #[Value.func (Fn.func kv) #[] #[], Value.func (Fn.func kn) #[] lb, Value.func (Fn.func kc) #[] lb], Value.bool true], Value.agg #[Value.func (Fn.func kv) #[] #[], Value.func (Fn.func kn) #[] lb, Value.func (Fn.func kc) #[] lb], Value.bool true, Value.tuple #[Value.agg #[Value.func (Fn.func kv') #[] #[], Value.func (Fn.func kn') #[] lb', Value.func (Fn.func kc') #[] lb'], Value.bool true], Value.int IntKind.i64 f, Value.tuple #[Value.agg #[Value.func (Fn.func kv') #[] #[], Value.func (Fn.func kn') #[] lb', Value.func (Fn.func kc') #[] lb'], Value.bool true], Value.agg #[Value.func (Fn.func kv') #[] #[], Value.func (Fn.func kn') #[] lb', Value.func (Fn.func kc') #[] lb'], Value.bool true, Value.bool true, Value.bool false, Value.bool false, Value.bool true, Value.bool false, Value.bool false, Value.bool false, Value.string s, Value.string by', Value.slice (some { block := w2.heap.size + 1, off := 0 }) 2 2, Value.bool false, Value.bool false, Value.agg #[Value.func (Fn.func kv) #[] #[], Value.func (Fn.func kn) #[] lb, Value.func (Fn.func kc) #[] lb], Value.string s, Value.func (Fn.func 78) #[] #[Value.pointer (some { block := w2.heap.size + 1 + 1 + 1 + 1, off := 0 }), Value.pointer (some { block := w2.heap.size + 1 + 1 + 1, off := 0 })], .string x.1, .int .i64 x.2, undef, undef, undef, undef, undef, undef, undef, undef, undef, undef, undef, undef, undef, undef, undef, undef], defers := [] }) ?assign ?body ?done ?stop
  case assign =>
    intro l x W K hK
    gi_wp2
    exact hK
  case body =>
    rintro l pre x W ⟨⟨v, hv, hrow, _⟩, hC, hBW⟩ hlt
    have hsW := hBW.size
    have hbt : W.heap[w2.heap.size]? = some (.cells #[.func (.func kv') #[] #[], .func (.func kn') #[] lb', .func (.func kc') #[] lb'] 64 (0, 0)) := (hBW.block w2.heap.size (by omega)).trans bT
    have hct : W.cell? ⟨w2.heap.size, 2, none⟩ = some (.func (.func kc') #[] lb') := by rw [Lib.cell_of_heap hbt]; rfl
    have hchar := hcod'.char W x.2 (hB0.trans (hBW.mono (by omega)))
    have hent := hcod'.entersC
    cases ho : chrOf f x.2 with
    | none =>
      rw [ho] at hchar
      simp only [Option.getD_none, Option.isSome_none] at hchar
      have Ho := Lib.hid ho
      clear ho
      gi_wp2_with fail
      refine ⟨trivial, ?_⟩
      refine (CallsIn.inRound l (callsIn_wide.2 hchar)).mono ?_
      rintro e1 W' ⟨rfl, hbW⟩
      have hsW' := hbW.size
      have hv' : Boxed W' (w2.heap.size + 2) 76 v := (hbW.block _ hv.lt).trans hv
      have hrow' := ownsRow_below hrow hbW
      have hC' := (hbW.block _ (Array.getElem?_eq_some_iff.1 hC).1).trans hC
      have hcv := hv'.cell
      have cBy : W'.cell? ⟨w.heap.size, 0, none⟩ = some (.string by') := (hbW.cell (p := ⟨w.heap.size, 0, none⟩) (by show w.heap.size < _; omega)).trans ((hBW.cell (p := ⟨w.heap.size, 0, none⟩) (by show w.heap.size < _; omega)).trans ((hB0.cell (p := ⟨w.heap.size, 0, none⟩) (by show w.heap.size < _; omega)).trans bBy.cell))
      gi_wp2_with (gi_at_builtin; refine wpListIn_append_own _ rfl _ _ 76 rfl (w2.heap.size + 2) 9 i0 (.string ⟨#[]⟩) 1 16 Tryd.underlying76 hi hz0 hz1 hz2 rfl (by decide) _ _ _ rfl (hrow'.alloc _) ⟨W'.heap.size, 0, none⟩ 1 1 [.string by'] rfl rfl (cell_one_new _ _ _) (by simp [Value.oneCell']) (by unfold maxLen; omega) (by omega) (by simp; omega) ?_; intro v' w4 hown' hgrow _; replace hgrow : World.grownBy (W'.alloc (.cells #[.string by'] 9)) w4 v.ownBlock := hgrow; obtain ⟨g', cap', rfl⟩ := ownsRow_succ hown'; obtain ⟨hv1, hv2, hr2, hk2, hb2'⟩ := hv'.appended (by decide) hrow' (by omega) (by omega) hown' hgrow; have hc1 := hv1.cell; have hf1 := hv1.frozen)
      have hC1 := cells_grown hC' (by decide) hrow' hgrow
      have hC2 : (w4.setCell ⟨w2.heap.size + 2, 0, none⟩ (.slice (some ⟨g', 0, none⟩) (pre.length + 1) cap')).heap[w2.heap.size + 3]? = some (.cells #[.func (.func kv) #[] #[], .func (.func kn) #[] lb, .func (.func kc) #[] lb] 64 (0, 0)) := by
        rw [Below.heap_setCell _ _ _ _ (by simp)]; exact hC1
      have hbb := (hbW.mono (by omega : w2.heap.size + 2 ≤ W.heap.size)).trans hb2'
      refine ⟨((keepsOthers_below hbW).trans hk2).from _, ⟨hbb, hC2.trans hC.symm⟩, ⟨_, hv2, ?_, trivial⟩, hC2, hBW.trans hbb⟩
      have hp : pcs f by' (pre ++ [x]) = pcs f by' pre ++ [by'] := by unfold pcs; rw [List.map_append, List.map_singleton, Ho.out]; rfl
      rw [hp, List.map_append, List.length_append]
      exact hr2
    | some y =>
      rw [ho] at hchar
      simp only [Option.getD_some, Option.isSome_some] at hchar
      have Ho := Lib.hid ho
      clear ho
      gi_wp2_with fail
      refine ⟨trivial, ?_⟩
      refine (CallsIn.inRound l (callsIn_wide.2 hchar)).mono ?_
      rintro e1 W' ⟨rfl, hbW⟩
      have hsW' := hbW.size
      have hv' : Boxed W' (w2.heap.size + 2) 76 v := (hbW.block _ hv.lt).trans hv
      have hrow' := ownsRow_below hrow hbW
      have hC' := (hbW.block _ (Array.getElem?_eq_some_iff.1 hC).1).trans hC
      have hcv := hv'.cell
      gi_wp2_with (gi_at_builtin; refine wpListIn_append_own _ rfl _ _ 76 rfl (w2.heap.size + 2) 9 i0 (.string ⟨#[]⟩) 1 16 Tryd.underlying76 hi hz0 hz1 hz2 rfl (by decide) _ _ _ rfl (hrow'.alloc _) ⟨W'.heap.size, 0, none⟩ 1 1 [.string y] rfl rfl (cell_one_new _ _ _) (by simp [Value.oneCell']) (by unfold maxLen; omega) (by omega) (by simp; omega) ?_; intro v' w4 hown' hgrow _; replace hgrow : World.grownBy (W'.alloc (.cells #[.string y] 9)) w4 v.ownBlock := hgrow; obtain ⟨g', cap', rfl⟩ := ownsRow_succ hown'; obtain ⟨hv1, hv2, hr2, hk2, hb2'⟩ := hv'.appended (by decide) hrow' (by omega) (by omega) hown' hgrow; have hc1 := hv1.cell; have hf1 := hv1.frozen)
      have hC1 := cells_grown hC' (by decide) hrow' hgrow
      have hC2 : (w4.setCell ⟨w2.heap.size + 2, 0, none⟩ (.slice (some ⟨g', 0, none⟩) (pre.length + 1) cap')).heap[w2.heap.size + 3]? = some (.cells #[.func (.func kv) #[] #[], .func (.func kn) #[] lb, .func (.func kc) #[] lb] 64 (0, 0)) := by
        rw [Below.heap_setCell _ _ _ _ (by simp)]; exact hC1
      have hbb := (hbW.mono (by omega : w2.heap.size + 2 ≤ W.heap.size)).trans hb2'
      refine ⟨((keepsOthers_below hbW).trans hk2).from _, ⟨hbb, hC2.trans hC.symm⟩, ⟨_, hv2, ?_, trivial⟩, hC2, hBW.trans hbb⟩
      have hp : pcs f by' (pre ++ [x]) = pcs f by' pre ++ [y] := by unfold pcs; rw [List.map_append, List.map_singleton, Ho.out]; rfl
      rw [hp, List.map_append, List.length_append]
      exact hr2
  case done =>
    rintro D ys W hD rfl ⟨⟨v, hv, hrow, _⟩, hC, hBW⟩ hK
    have hc := hv.cell
    have hlen : (pcs f by' (parts (nxOf e) s)).length = (parts (nxOf e) s).length := by simp [pcs]
    have c5 := c54 (pcs f by' (parts (nxOf e) s)) v W (joinRead_of_row (by rw [hlen]; exact hrow)) hsum (by omega)
    gi_wp2_with fail
    refine ⟨trivial, ?_⟩
    refine (callsIn_wide.2 c5).mono ?_
    rintro e1 W' ⟨rfl, hbW⟩
    have hK' := (hbW.block _ (Array.getElem?_eq_some_iff.1 hK).1).trans hK
    gi_wp2
    refine ⟨by simp, .inl ⟨_, _, rfl, run_takeDeferred hK', ?_⟩⟩
    have hsW := hBW.size
    have hBB : Below w.heap.size w W' := hB2.trans ((hB0.mono (by omega)).trans ((hBW.mono (by omega)).trans (hbW.mono (by omega))))
    refine ⟨.tuple #[.string ⟨(cat (pcs f by' (parts (nxOf e) s))).toArray⟩, .int .i64 0], by simp [results, Tryd.f33, go_sem], rfl, ?_⟩
    exact hBB.trans (belowK_b (w := w) (Nat.le_refl _) _ D _ _ (by omega) hK' rfl rfl)
  case stop =>
    rintro D c pre W _ _ h _
    exact h.elim
end Go.Proofs.YtjdnpgknamhnlaaDoor
