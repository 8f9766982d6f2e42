/- Contract of the program's shifted. -/
import Derived.Test.YtjdnpgknamhnlaaDoorZN
import Derived.Lib.QuietBelowIn
namespace Go.Proofs.YtjdnpgknamhnlaaDoor
open Go Go.RowKit Go.Shelf
attribute [local go_sem] Oper.semAt_some

/-! A region that draws its order, inside a round of a loop over a function: as outside. -/
theorem oper_toRound {F : Fence} {n : Nat} {P : Program} {o : Oper} {a : Act} {w : World} {K : Act → World → Prop} {Q : Exit → Act → World → Prop} (l : Nat) (hd : ∀ c, o.op ≠ .defer c) (h : o.wpIn F n P a w K Q) : o.wpIn (F.inRound l) n P a w K Q := by
  unfold Oper.wpIn at *
  rw [Oper.semAt_eq _ _ _ hd] at h ⊢
  exact h
theorem wpAnyIn_toRound {F : Fence} {n : Nat} {P : Program} {ops : Array Oper} {Q : Exit → Act → World → Prop} {md : Region.Mode} (l : Nat) (hd : ∀ (i : Nat) (o : Oper), ops[i]? = some o → ∀ c, o.op ≠ .defer c) :
    ∀ (fuel : Nat) (listed : Array Bool) (a : Act) (w : World), wpAnyIn F n P md ops Q fuel listed a w → wpAnyIn (F.inRound l) n P md ops Q fuel listed a w
  | 0, _, _, _, h => h
  | fuel + 1, listed, a, w, h => ⟨h.1, fun i hi => by
      have h2 := h.2 i hi
      unfold wpOpIn at h2 ⊢
      cases ho : ops[i]? with
      | none =>
        simp only [ho] at h2
        exact wpAnyIn_toRound l hd fuel _ _ _ h2
      | some o =>
        simp only [ho] at h2 ⊢
        split
        · rename_i hw
          simp only [hw, if_true] at h2
          exact oper_toRound l (hd i o ho) (Oper.wpIn_mono (fun a w => wpAnyIn_toRound l hd fuel _ a w) h2)
        · rename_i hw
          rw [if_neg hw] at h2
          exact ⟨h2.1, wpAnyIn_toRound l hd fuel _ _ _ h2.2⟩⟩
def isDefer (o : Oper) : Bool := match o.op with | .defer _ => true | _ => false
theorem region_toRound {F : Fence} {n : Nat} {P : Program} {id : Nat} {Q : Exit → Act → World → Prop} {a : Act} {w : World} {lst : List Oper} (l : Nat) (hro : F.round = none) (hm : P.follows .mixedOrders = true) (hB : Region.lexB .any lst.toArray = true) (hd : (lst.all fun o => !isDefer o) = true)
    (h : wpQuietIn F n P lst.toArray (fun w' => ∃ p : Regrown, w' = Go.Sort.grow (redrawn w p.d) p.os) (fun a' => ∀ w', (∃ p : Regrown, w' = Go.Sort.grow (redrawn w p.d) p.os) → Q .normal a' w') lst a) : (Code.region id lst.toArray true).wpIn (F.inRound l) n P Q a w := by
  simp only [Region.lexB, Bool.and_eq_true] at hB
  refine wpIn_region_any hm (wpAnyIn_toRound l (fun i o hi c hc => ?_) _ _ _ _ (wpAnyIn_of_quiet (C := fun w' => ∃ p : Regrown, w' = Go.Sort.grow (redrawn w p.d) p.os) (Q := fun a' => ∀ w', (∃ p : Regrown, w' = Go.Sort.grow (redrawn w p.d) p.os) → Q .normal a' w') hro (fun _ w' hw' h => h w' hw') _ _ _ _ ⟨⟨w.drawn + 1, #[]⟩, by rw [Go.Sort.grow_empty]; rfl⟩ ?_))
  · have hm : o ∈ lst := by simpa using Array.mem_of_getElem? hi
    have := List.all_eq_true.1 hd o hm
    simp [isDefer, hc] at this
  · have := wpAnyQIn_lex (F := F) (n := n) (C := fun w' => ∃ p : Regrown, w' = Go.Sort.grow (redrawn w p.d) p.os) (md := .any) hB.1 lst 0 (Array.replicate lst.toArray.size false) a (by simp) (by simpa using hB.2) h
    simpa using this

set_option maxRecDepth 100000 in
set_option maxHeartbeats 2000000 in
theorem t61 (fn : Nat) (g : Int → Int) (ok : CaseOk g) (hent : ∀ args w, (callFunc fn args).run Tryd.prog w = .ok (.enter fn args) w)
    (hfn : ∀ (c : Int) (W : World), Calls Tryd.prog fn #[.int .i64 c] W fun e' w' => e' = .returned (.int .i64 (g c)) ∧ W = w')
    (s : ByteArray) (e : Int) (w : World) (hT : Lib.Utf8Tabs 0 1 w) (hs : s.size ≤ 100000) (he : isEnc e = true) :
    Calls Tryd.prog 61 #[.string s, .int .i64 e, .func (.func fn) #[] #[]] w fun e' w' => e' = .returned (.tuple #[.string (caseS e g s), .int .i64 0]) ∧ Below w.heap.size w w' := by
  have cc := c47 e (w.alloc (.cells #[.func (.func fn) #[] #[]] 90)) (Utf8Tabs_below hT (by go_grown)) he
  have hsm := Lib.hid (decide_eq_false (show ¬ 100000 < s.size by omega))
  have hpl := parts_length (nxOf_ok e) s.size s rfl
  have hsum : sumS ((parts (nxOf e) s).map (caseT e g)) ≤ 140737488355328 := by
    have h := (case_parts ok e s).2
    have h2 : sumS ((parts (nxOf e) s).map (caseT e g)) = (caseS e g s).size := rfl
    omega
  have HFn := Lib.hid hfn
  clear he hfn
  obtain ⟨i0, hi, hz0, hz1, hz2⟩ := info_parts infoStr
  refine (callsIn_wide (n := 9)).1 ?_
  refine callsIn_of_wp_marks Tryd.func61 rfl trivial ?_ rfl
  simp only [Tryd.ntmps61, List.size_toArray, List.length_cons, List.length_nil, Nat.reduceAdd, Nat.reduceSub, Array.replicate_succ, Array.replicate_zero, List.push_toArray, List.append_toArray, List.nil_append, List.cons_append]
  gi_wp2_with fail
  refine ⟨trivial, ?_⟩
  refine (callsIn_wide.2 cc).mono ?_
  rintro e' w1 ⟨⟨c, rfl, kv, kn, kc, lb, rfl, hcod⟩, hb1⟩
  rw [World.size_alloc] at hb1
  have hB1 : Below w.heap.size w w1 := ((Below.refl _ w).alloc (Nat.le_refl _) _).trans (hb1.mono (by omega))
  have hs1 := hb1.size
  rw [World.size_alloc] at hs1
  have bFn : Boxed w1 w.heap.size 90 (.func (.func fn) #[] #[]) := (hb1.block w.heap.size (by omega)).trans (World.alloc_heap_new w _)
  have hlt0 : w.heap.size < w1.heap.size := by omega
  gi_wp2_with fail
  refine ⟨trivial, ?_⟩
  refine (callsIn_wide.2 (c48_1 s false hsm.out _ _ (by omega) (by simp) (by simp))).mono ?_
  rintro e' w3 ⟨rfl, rfl⟩
  gi_wp2_with (refine ⟨trivial, ?_⟩; gi_at_call 60; refine (c60in _ _ _ _ _).mono ?_; rintro e w' ⟨rfl, rfl⟩)
  obtain ⟨W0, hW0⟩ : ∃ W0, (((((w1.alloc (.cells #[.func (.func kv) #[] #[], .func (.func kn) #[] lb, .func (.func kc) #[] lb] 64)).alloc (.cells #[.string s] 9)).alloc (.cells #[.slice none 0 0] 76)).alloc (.cells #[.func (.func kv) #[] #[], .func (.func kn) #[] lb, .func (.func kc) #[] lb] 64)).alloc (.cells #[.string s] 9)) = W0 := ⟨_, rfl⟩
  have hB0 : Below w1.heap.size w1 W0 := by rw [← hW0]; go_grown
  have hsz : W0.heap.size = w1.heap.size + 5 := by rw [← hW0]; simp
  have bA : W0.heap[w1.heap.size]? = some (.cells #[.func (.func kv) #[] #[], .func (.func kn) #[] lb, .func (.func kc) #[] lb] 64 (0, 0)) := by rw [← hW0]; simp only [alloc_heap, Array.getElem?_push, Array.size_push]; (repeat (first | rw [if_neg (by omega)] | rw [if_pos (by omega)])); simp only [if_true]
  have bV : Boxed W0 (w1.heap.size + 2) 76 (.slice none 0 0) := by rw [← hW0]; simp only [Boxed, alloc_heap, Array.getElem?_push, Array.size_push]; (repeat (first | rw [if_neg (by omega)] | rw [if_pos (by omega)])); simp only [if_true]
  have bC : W0.heap[w1.heap.size + 3]? = some (.cells #[.func (.func kv) #[] #[], .func (.func kn) #[] lb, .func (.func kc) #[] lb] 64 (0, 0)) := by rw [← hW0]; simp only [alloc_heap, Array.getElem?_push, Array.size_push]; (repeat (first | rw [if_neg (by omega)] | rw [if_pos (by omega)])); simp only [if_true]
  have bS : Boxed W0 (w1.heap.size + 4) 9 (.string s) := by rw [← hW0]; simp only [Boxed, alloc_heap, Array.getElem?_push, Array.size_push]; (repeat (first | rw [if_neg (by omega)] | rw [if_pos (by omega)])); simp only [if_true]
  rw [hW0]
  have HW0 := Lib.hid hW0
  clear hW0
  have hw10 : Below w1.heap.size w1 W0 := hB0
  refine wpIn_rangeFunc_ownG rfl (by omega) (gf := 78) (lb := #[.pointer (some ⟨w1.heap.size + 1 + 1 + 1 + 1, 0, none⟩), .pointer (some ⟨w1.heap.size + 1 + 1 + 1, 0, none⟩)]) rfl trivial (enters_of Tryd.func78 (by kernel_rfl) rfl)
    (walk_stops hcod.toNextOk 8 (by omega) (w1.heap.size + 4) (w1.heap.size + 3) (w1.heap.size + 2) s (by omega) W0 (by omega) hw10 (by omega) (by omega) (by omega) bS.cell (by simp [World.cell?, bC]))
    KpB.trans (kpB_b (by omega) (by omega)) (Below.refl _ _) (fun _ => rfl)
    (fun pre W => (∃ v, Boxed W (w1.heap.size + 2) 76 v ∧ W.ownsRow (w1.heap.size + 2) 9 1 v pre.length ((pre.map (caseT e g)).map Value.string) ∧ True) ∧ W.heap[w1.heap.size + 3]? = some (.cells #[.func (.func kv) #[] #[], .func (.func kn) #[] lb, .func (.func kc) #[] lb] 64 (0, 0)) ∧ Below (w1.heap.size + 2) W0 W)
    (fun _ _ _ => False)
    (OwnFrom.and (Own.from (holdsRow_own (w1.heap.size + 2) (w1.heap.size + 2) 76 9 1 (fun pre : List (ByteArray × Int) => pre.length) (fun pre => (pre.map (caseT e g)).map Value.string) (fun _ _ => True)) _) (OwnFrom.and (Own.from (cells_own (w1.heap.size + 3) _ _ _) _) (ownFrom_below (by omega) (by omega))))
    (fun _ _ _ _ _ hs _ _ => hs)
    ⟨⟨_, bV, World.ownsRow_nil _ _ _ _, trivial⟩, bC, Below.refl _ _⟩
    (fun x => { tmps := #[Value.string s, Value.int IntKind.i64 e, Value.func (Fn.func fn) #[] #[], undef, undef, Value.pointer (some { block := w.heap.size, off := 0 }), Value.string { data := #[] }, Value.int IntKind.i64 0, Value.pointer (some { block := w1.heap.size, off := 0 }), Value.bool true, Value.pointer (some { block := w1.heap.size + 1 + 1, off := 0 }), .string x.1, .int .i64 x.2, undef, undef, Value.tuple #[Value.agg #[Value.func (Fn.func kv) #[] #[], Value.func (Fn.func kn) #[] lb, Value.func (Fn.func kc) #[] lb], Value.bool true], Value.int IntKind.i64 e, Value.tuple #[Value.agg #[Value.func (Fn.func kv) #[] #[], Value.func (Fn.func kn) #[] lb, Value.func (Fn.func kc) #[] lb], Value.bool true], Value.agg #[Value.func (Fn.func kv) #[] #[], Value.func (Fn.func kn) #[] lb, Value.func (Fn.func kc) #[] lb], Value.bool true, Value.bool true, Value.bool false, Value.bool false, Value.string s, Value.slice (some { block := w1.heap.size + 1, off := 0 }) 1 1, Value.bool false, Value.bool false, Value.agg #[Value.func (Fn.func kv) #[] #[], Value.func (Fn.func kn) #[] lb, Value.func (Fn.func kc) #[] lb], Value.string s, Value.func (Fn.func 78) #[] #[Value.pointer (some { block := w1.heap.size + 1 + 1 + 1 + 1, off := 0 }), Value.pointer (some { block := w1.heap.size + 1 + 1 + 1, off := 0 })], .string x.1, .int .i64 x.2, undef, undef, undef, undef, undef, undef, undef, undef, undef, undef, undef, undef, undef, undef, undef, undef, undef, undef], defers := [] }) ?assign ?body ?done ?stop
  case assign =>
    intro l x W K hK
    gi_wp2
    exact hK
  case body =>
    rintro l pre x W ⟨⟨v, hv, hrow, _⟩, hC, hBW⟩ hlt
    have hsW := hBW.size
    have hbt : W.heap[w1.heap.size]? = some (.cells #[.func (.func kv) #[] #[], .func (.func kn) #[] lb, .func (.func kc) #[] lb] 64 (0, 0)) := (hBW.block w1.heap.size (by omega)).trans bA
    have k0 : W.cell? ⟨w1.heap.size, 2, none⟩ = some (.func (.func kc) #[] lb) := by rw [Lib.cell_of_heap hbt]; rfl
    have k1 : W.cell? ⟨w.heap.size, 0, none⟩ = some (.func (.func fn) #[] #[]) := (hBW.cell (p := ⟨w.heap.size, 0, none⟩) (by show w.heap.size < _; omega)).trans ((hB0.cell (p := ⟨w.heap.size, 0, none⟩) hlt0).trans bFn.cell)
    have hBd : Below w1.heap.size w1 W := hB0.trans (hBW.mono (by omega : w1.heap.size ≤ w1.heap.size + 2))
    have hchar : ∀ n d os, CallsIn Fence.wide n Tryd.prog kc (#[.int .i64 (g x.2)] ++ lb) (Go.Sort.grow (redrawn W d) os) fun e' w'' => e' = .returned (.tuple #[.string ((chrOf e (g x.2)).getD ⟨#[]⟩), .bool (chrOf e (g x.2)).isSome]) ∧ ∃ p : Regrown, w'' = Go.Sort.grow (redrawn W p.d) p.os := fun n d os =>
      CallsIn.regrown_of (callsIn_wide.2 (hcod.char _ (g x.2) (hBd.trans ((below_regrown W d os).mono hBd.size))))
    have cF : ∀ n d os, CallsIn Fence.wide n Tryd.prog fn #[.int .i64 x.2] (Go.Sort.grow (redrawn W d) os) fun e' w'' => e' = .returned (.int .i64 (g x.2)) ∧ ∃ p : Regrown, w'' = Go.Sort.grow (redrawn W p.d) p.os := fun n d os =>
      CallsIn.regrown_of (callsIn_wide.2 ((HFn.out x.2 _).mono fun _ _ ⟨h1, h2⟩ => ⟨h1, by rw [← h2]; exact Below.refl _ _⟩))
    have hent2 := hcod.entersC
    have k0 := cell_regrown k0
    have k1 := cell_regrown k1
    clear hbt hBd
    cases ho : chrOf e (g x.2) with
    | none =>
      rw [ho] at hchar
      simp only [Option.getD_none, Option.isSome_none] at hchar
      have Ho := Lib.hid ho
      have HCh := Lib.hid hchar
      clear ho hchar
      gi_wp2_with fail
      refine region_toRound l rfl (by kernel_rfl) (by kernel_rfl) (by kernel_rfl) ?_
      repeat
        refine wpQuietIn_step (fun _ _ _ _ => trivial) (fun K hK => ?_)
        go_simp
        first
          | (refine hK _ ?_; clear hK K)
          | (apply Exists.intro
             refine ⟨fun _ => ?_, hK _ ?_⟩
             (first | exact cF _ _ _ | exact ⟨trivial, cF _ _ _⟩ | exact HCh.out _ _ _ | exact ⟨trivial, HCh.out _ _ _⟩)
             clear hK K)
      refine wpQuietIn_nil ?_
      intro W' hw'
      have hbW : Below W.heap.size W W' := by
        obtain ⟨⟨dq, osq⟩, rfl⟩ := hw'
        exact below_regrown W dq osq
      clear hw' k0 k1
      have hsW' := hbW.size
      have hv' : Boxed W' (w1.heap.size + 2) 76 v := (hbW.block _ hv.lt).trans hv
      have hrow' := ownsRow_below hrow hbW
      have hC' := (hbW.block _ (Array.getElem?_eq_some_iff.1 hC).1).trans hC
      have hcv := hv'.cell
      gi_wp2_with (gi_at_builtin; refine wpListIn_append_own _ rfl _ _ 76 rfl (w1.heap.size + 2) 9 i0 (.string ⟨#[]⟩) 1 16 Tryd.underlying76 hi hz0 hz1 hz2 rfl (by decide) _ _ _ rfl (hrow'.alloc _) ⟨W'.heap.size, 0, none⟩ 1 1 [.string x.1] rfl rfl (cell_one_new _ _ _) (by simp [Value.oneCell']) (by unfold maxLen; omega) (by omega) (by simp; omega) ?_; intro v' w4 hown' hgrow _; replace hgrow : World.grownBy (W'.alloc (.cells #[.string x.1] 9)) w4 v.ownBlock := hgrow; obtain ⟨g', cap', rfl⟩ := ownsRow_succ hown'; obtain ⟨hv1, hv2, hr2, hk2, hb2'⟩ := hv'.appended (by decide) hrow' (by omega) (by omega) hown' hgrow; have hc1 := hv1.cell; have hf1 := hv1.frozen)
      have hC1 := cells_grown hC' (by decide) hrow' hgrow
      have hC2 : (w4.setCell ⟨w1.heap.size + 2, 0, none⟩ (.slice (some ⟨g', 0, none⟩) (pre.length + 1) cap')).heap[w1.heap.size + 3]? = some (.cells #[.func (.func kv) #[] #[], .func (.func kn) #[] lb, .func (.func kc) #[] lb] 64 (0, 0)) := by
        rw [Below.heap_setCell _ _ _ _ (by simp)]; exact hC1
      have hbb := (hbW.mono (by omega : w1.heap.size + 2 ≤ W.heap.size)).trans hb2'
      refine ⟨((keepsOthers_below hbW).trans hk2).from _, ⟨hbb, hC2.trans hC.symm⟩, ⟨_, hv2, ?_, trivial⟩, hC2, hBW.trans hbb⟩
      have hp : (pre ++ [x]).map (caseT e g) = pre.map (caseT e g) ++ [x.1] := by rw [List.map_append, List.map_singleton]; unfold caseT; rw [Ho.out]; rfl
      rw [hp, List.map_append, List.length_append]
      exact hr2
    | some y =>
      rw [ho] at hchar
      simp only [Option.getD_some, Option.isSome_some] at hchar
      have Ho := Lib.hid ho
      have HCh := Lib.hid hchar
      clear ho hchar
      gi_wp2_with fail
      refine region_toRound l rfl (by kernel_rfl) (by kernel_rfl) (by kernel_rfl) ?_
      repeat
        refine wpQuietIn_step (fun _ _ _ _ => trivial) (fun K hK => ?_)
        go_simp
        first
          | (refine hK _ ?_; clear hK K)
          | (apply Exists.intro
             refine ⟨fun _ => ?_, hK _ ?_⟩
             (first | exact cF _ _ _ | exact ⟨trivial, cF _ _ _⟩ | exact HCh.out _ _ _ | exact ⟨trivial, HCh.out _ _ _⟩)
             clear hK K)
      refine wpQuietIn_nil ?_
      intro W' hw'
      have hbW : Below W.heap.size W W' := by
        obtain ⟨⟨dq, osq⟩, rfl⟩ := hw'
        exact below_regrown W dq osq
      clear hw' k0 k1
      have hsW' := hbW.size
      have hv' : Boxed W' (w1.heap.size + 2) 76 v := (hbW.block _ hv.lt).trans hv
      have hrow' := ownsRow_below hrow hbW
      have hC' := (hbW.block _ (Array.getElem?_eq_some_iff.1 hC).1).trans hC
      have hcv := hv'.cell
      gi_wp2_with (gi_at_builtin; refine wpListIn_append_own _ rfl _ _ 76 rfl (w1.heap.size + 2) 9 i0 (.string ⟨#[]⟩) 1 16 Tryd.underlying76 hi hz0 hz1 hz2 rfl (by decide) _ _ _ rfl (hrow'.alloc _) ⟨W'.heap.size, 0, none⟩ 1 1 [.string y] rfl rfl (cell_one_new _ _ _) (by simp [Value.oneCell']) (by unfold maxLen; omega) (by omega) (by simp; omega) ?_; intro v' w4 hown' hgrow _; replace hgrow : World.grownBy (W'.alloc (.cells #[.string y] 9)) w4 v.ownBlock := hgrow; obtain ⟨g', cap', rfl⟩ := ownsRow_succ hown'; obtain ⟨hv1, hv2, hr2, hk2, hb2'⟩ := hv'.appended (by decide) hrow' (by omega) (by omega) hown' hgrow; have hc1 := hv1.cell; have hf1 := hv1.frozen)
      have hC1 := cells_grown hC' (by decide) hrow' hgrow
      have hC2 : (w4.setCell ⟨w1.heap.size + 2, 0, none⟩ (.slice (some ⟨g', 0, none⟩) (pre.length + 1) cap')).heap[w1.heap.size + 3]? = some (.cells #[.func (.func kv) #[] #[], .func (.func kn) #[] lb, .func (.func kc) #[] lb] 64 (0, 0)) := by
        rw [Below.heap_setCell _ _ _ _ (by simp)]; exact hC1
      have hbb := (hbW.mono (by omega : w1.heap.size + 2 ≤ W.heap.size)).trans hb2'
      refine ⟨((keepsOthers_below hbW).trans hk2).from _, ⟨hbb, hC2.trans hC.symm⟩, ⟨_, hv2, ?_, trivial⟩, hC2, hBW.trans hbb⟩
      have hp : (pre ++ [x]).map (caseT e g) = pre.map (caseT e g) ++ [y] := by rw [List.map_append, List.map_singleton]; unfold caseT; rw [Ho.out]; rfl
      rw [hp, List.map_append, List.length_append]
      exact hr2
  case done =>
    rintro D ys W hD rfl ⟨⟨v, hv, hrow, _⟩, hC, hBW⟩ hK
    have hc := hv.cell
    have hlen : ((parts (nxOf e) s).map (caseT e g)).length = (parts (nxOf e) s).length := by simp
    have c5 := c54 ((parts (nxOf e) s).map (caseT e g)) v W (joinRead_of_row (by rw [hlen]; exact hrow)) hsum (by omega)
    gi_wp2_with fail
    refine ⟨trivial, ?_⟩
    refine (callsIn_wide.2 c5).mono ?_
    rintro e1 W' ⟨rfl, hbW⟩
    have hK' := (hbW.block _ (Array.getElem?_eq_some_iff.1 hK).1).trans hK
    gi_wp2
    refine ⟨by simp, .inl ⟨_, _, rfl, run_takeDeferred hK', ?_⟩⟩
    have hsW := hBW.size
    have hBB : Below w.heap.size w W' := hB1.trans ((hB0.mono (by omega)).trans ((hBW.mono (by omega)).trans (hbW.mono (by omega))))
    refine ⟨.tuple #[.string (caseS e g s), .int .i64 0], by simp [results, Tryd.f61, go_sem]; rfl, rfl, ?_⟩
    exact hBB.trans (belowK_b (w := w) (Nat.le_refl _) _ D _ _ (by omega) hK' rfl rfl)
  case stop =>
    rintro D c pre W _ _ h _
    exact h.elim
end Go.Proofs.YtjdnpgknamhnlaaDoor
