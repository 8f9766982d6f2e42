/- Zones: the periods. -/
import Derived.Test.YtojkkgmfccchbaaG
import Derived.OwnWalk
import Derived.Deep.Cut
namespace Go.Proofs.Ytojkkgmfccchbaa
open Go Go.RowKit Go.Sort

abbrev pcs (p : Per) : List Value := [.int .i64 p.first, .int .i64 p.last, .int .i64 p.before, .int .i64 p.off]
def pcells (ps : List Per) : List Value := ps.flatMap pcs
theorem pcells_snoc (ps : List Per) (p : Per) : pcells (ps ++ [p]) = pcells ps ++ pcs p := by simp [pcells]
theorem pcells_length (ps : List Per) : (pcells ps).length = ps.length * 4 := by
  induction ps with
  | nil => rfl
  | cons p ps ih => simp only [pcells, List.flatMap_cons, List.length_append, List.length_cons] at ih ⊢; rw [ih]; simp; omega
theorem pcells_get : ∀ (ps : List Per) (k : Nat) (p : Per), ps[k]? = some p → ∀ j x, (pcs p)[j]? = some x → (pcells ps)[k * 4 + j]? = some x := by
  intro ps
  induction ps with
  | nil => intro k p h; simp at h
  | cons q ps ih =>
    intro k p h j x hx
    cases k with
    | zero =>
      have e : q = p := by simpa using h
      subst e
      have hj : j < 4 := by
        rcases Nat.lt_or_ge j 4 with h4 | h4
        · exact h4
        · rw [List.getElem?_eq_none (by simpa using h4)] at hx; cases hx
      show ((pcs q) ++ pcells ps)[0 * 4 + j]? = some x
      rw [Nat.zero_mul, Nat.zero_add, List.getElem?_append_left (by simpa using hj)]
      exact hx
    | succ k =>
      have h2 : ps[k]? = some p := by simpa using h
      show ((pcs q) ++ pcells ps)[(k + 1) * 4 + j]? = some x
      rw [List.getElem?_append_right (by simp; omega)]
      have e : (k + 1) * 4 + j - (pcs q).length = k * 4 + j := by simp; omega
      rw [e]
      exact ih k p h2 j x hx
/-- periods in a row of the call's own -/
def Pr (w : World) (B cap : Nat) (ps : List Per) : Prop := w.ownsRow B 96 4 (.slice (some ⟨B, 0, none⟩) ps.length cap) ps.length (pcells ps)
theorem Pr.read {w : World} {B cap : Nat} {ps : List Per} (h : Pr w B cap ps) : ps.length ≤ cap ∧ cap ≤ maxLen ∧ B < w.heap.size ∧ ∀ k p, ps[k]? = some p →
    w.cell? ⟨B, k * 4, none⟩ = some (.int .i64 p.first) ∧ w.cell? ⟨B, k * 4 + 1, none⟩ = some (.int .i64 p.last) ∧ w.cell? ⟨B, k * 4 + 2, none⟩ = some (.int .i64 p.before) ∧ w.cell? ⟨B, k * 4 + 3, none⟩ = some (.int .i64 p.off) := by
  obtain ⟨h1, h2 | ⟨g, cap', cur, hv, hg, hh, hn, hm, hs, ht⟩⟩ := h
  · exact absurd h2.1 (by simp)
  · simp only [Value.slice.injEq, Option.some.injEq, Addr.mk.injEq] at hv
    obtain ⟨⟨rfl, _⟩, _, rfl⟩ := hv
    refine ⟨hn, hm, lt_of_block hh, fun k p hp => ?_⟩
    have key : ∀ j x, (pcs p)[j]? = some x → w.cell? ⟨B, k * 4 + j, none⟩ = some x := by
      intro j x hx
      have h3 := pcells_get ps k p hp j x hx
      rw [← ht] at h3
      rw [List.getElem?_take] at h3
      split at h3
      · rw [cell_of_row w B _ cur 96 (0, 0) hh]
        simpa using h3
      · cases h3
    exact ⟨key 0 _ rfl, key 1 _ rfl, key 2 _ rfl, key 3 _ rfl⟩
theorem Pr.below {w w' : World} {B cap : Nat} {ps : List Per} (h : Pr w B cap ps) (hb : Below w.heap.size w w') : Pr w' B cap ps := ownsRow_below h hb
theorem Pr.setOther {w : World} {B cap : Nat} {ps : List Per} (h : Pr w B cap ps) (a : Addr) (u : Value) (hne : B ≠ a.block) : Pr (w.setCell a u) B cap ps := by
  obtain ⟨h1, h2 | ⟨g, cap', cur, hv, hg, hh, r⟩⟩ := h
  · exact ⟨h1, .inl h2⟩
  · have e : g = B := by
      simp only [Value.slice.injEq, Option.some.injEq, Addr.mk.injEq] at hv
      exact hv.1.1.symm
    subst e
    exact ⟨h1, .inr ⟨g, cap', cur, hv, hg, (Below.heap_setCell w a u g hne).trans hh, r⟩⟩
theorem Blk.grown {w w' : World} {g B : Nat} {e : TypeId} {cs : List Value} (h : Blk w g e cs) (hg : w.grownBy w' (some B)) (hne : g ≠ B) : Blk w' g e cs :=
  (hg.block g h.lt (fun h2 => hne (Option.some.inj h2))).trans h
theorem set4 {w : World} {g : Nat} {t : TypeId} {o0 o1 o2 o3 v0 v1 v2 v3 : Value} (h : Blk w g t [o0, o1, o2, o3]) :
    Blk ((((w.setCell ⟨g, 0, none⟩ v0).setCell ⟨g, 1, none⟩ v1).setCell ⟨g, 2, none⟩ v2).setCell ⟨g, 3, none⟩ v3) g t [v0, v1, v2, v3] := (((h.set 0 v0).set 1 v1).set 2 v2).set 3 v3
theorem other4 {w : World} {g g' : Nat} {t : TypeId} {cs : List Value} (h : Blk w g t cs) (hne : g ≠ g') (v0 v1 v2 v3 : Value) :
    Blk ((((w.setCell ⟨g', 0, none⟩ v0).setCell ⟨g', 1, none⟩ v1).setCell ⟨g', 2, none⟩ v2).setCell ⟨g', 3, none⟩ v3) g t cs := (((h.setOther _ v0 hne).setOther _ v1 hne).setOther _ v2 hne).setOther _ v3 hne
theorem Pr.other4 {w : World} {g' : Nat} {B cap : Nat} {ps : List Per} (h : Pr w B cap ps) (hne : B ≠ g') (v0 v1 v2 v3 : Value) :
    Pr ((((w.setCell ⟨g', 0, none⟩ v0).setCell ⟨g', 1, none⟩ v1).setCell ⟨g', 2, none⟩ v2).setCell ⟨g', 3, none⟩ v3) B cap ps := (((h.setOther _ v0 hne).setOther _ v1 hne).setOther _ v2 hne).setOther _ v3 hne
theorem info96 : Try.prog.info? 96 = some (Try.prog.info? 96).get! := by kernel_rfl
theorem app96 {w : World} {ops : Array Oper} {rest : List Oper} {o : Oper} {a : Act} {Q : Exit → Act → World → Prop} (hgd : o.guard = none) (s x : Operand)
    (ho : o.op = .call { callee := .builtin .append, args := #[s, x], argTypes := #[93, 93] }) (B cap : Nat) (ps : List Per) (n : Nat) (hnl : n = ps.length) (hs : a.eval s = .slice (some ⟨B, 0, none⟩) n cap) (hown : Pr w B cap ps)
    (g c : Nat) (p : Per) (hx : a.eval x = .slice (some ⟨g, 0, none⟩) 1 c) (hc : Blk w g 96 (pcs p)) (b1 : ps.length + 1 ≤ cap)
    (h : ∀ w', Hid (Pr w' B cap (ps ++ [p])) → Hid (w.grownBy w' (some B)) → wpList Try.prog ops Q rest (a.put o.dst (.slice (some ⟨B, 0, none⟩) (n + 1) cap)) w') :
    wpList Try.prog ops Q (o :: rest) a w := by
  subst hnl
  refine wpList_append_fits w hgd s x 93 ho B 96 _ 4 Try.underlying93 info96 (by kernel_rfl) B ps.length cap (pcells ps) hs hown ⟨g, 0, none⟩ 1 c (pcs p) hx rfl ?_ ?_ b1 (fun w' h1 h2 => h w' ?_ h2)
  · intro j u hu
    rw [show (⟨g, 0, none⟩ : Addr).add j = ⟨g, j, none⟩ by simp [Addr.add]; intro h; exact h.symm]
    exact hc.cell j hu
  · intro u hu
    simp only [pcs, List.mem_cons, List.mem_nil_iff, or_false] at hu
    rcases hu with rfl | rfl | rfl | rfl <;> rfl
  · show World.ownsRow _ _ _ _ _ _ _
    rw [pcells_snoc, List.length_append]
    exact h1
theorem mk93 (w : World) {ops : Array Oper} {rest : List Oper} {o : Oper} {a : Act} {Q : Exit → Act → World → Prop}
    (hg : o.guard = none) (l c : Operand) (hop : o.op = Op.makeSlice 93 l c) (C : Int) (n : Nat) (hl : a.eval l = .int .i64 0) (hc : a.eval c = .int .i64 C) (hC : C = (n : Int)) (hn : n ≤ 1000)
    (hK : ∀ w', Hid (Pr w' w.heap.size n []) → Below w.heap.size w w' → wpList Try.prog ops Q rest (a.put o.dst (.slice (some ⟨w.heap.size, 0, none⟩) 0 n)) w') :
    wpList Try.prog ops Q (o :: rest) a w := by
  have hb : (Try.prog.info? 96).get!.bytes = 32 := by kernel_rfl
  refine wpList_make_own w hg l c 93 hop w.heap.size 96 _ _ 4 Try.underlying93 info96 (show (Try.prog.info? 96).get!.zero = some (.agg #[.int .i64 0, .int .i64 0, .int .i64 0, .int .i64 0]) by kernel_rfl) (by kernel_rfl) .i64 .i64 C n hl hc hC (by rw [hb]; omega) (by unfold maxLen; omega) (Nat.le_refl _) (fun w' h1 h2 => hK w' h1 ⟨h2.os, h2.tape, h2.output, h2.size, fun k hk => h2.block k hk (by simp)⟩)
theorem ordB_all : ∀ (l : List Ch) (f : Int), ordB f l = true → -100000000000 ≤ f → ∀ x ∈ l, (-100000000000 ≤ x.1 ∧ x.1 ≤ 100000000000) ∧ (-86400 ≤ x.2 ∧ x.2 ≤ 86400) := by
  intro l
  induction l with
  | nil => intro f _ _ x hx; cases hx
  | cons c l ih =>
    obtain ⟨a, o⟩ := c
    intro f h hf x hx
    obtain ⟨h1, h2, h3⟩ := ordB_cons.1 h
    rcases List.mem_cons.1 hx with rfl | hx
    · exact ⟨⟨by omega, h1.2⟩, h2⟩
    · exact ih (a + 1) h3 (by omega) x hx
set_option maxRecDepth 100000 in
set_option maxHeartbeats 4000000 in
theorem t60 (off : Int) (v : Value) (l : List Ch) (w : World) (hz : ZR w v l) (hok : zOk off l = true) :
    Calls Try.prog 60 #[ZV off v] w fun e w' => ∃ B, e = .returned (.slice (some ⟨B, 0, none⟩) (l.length + 1) (l.length + 1)) ∧ Pr w' B (l.length + 1) (pers off l) ∧ Below w.heap.size w w' := by
  obtain ⟨hA, hO⟩ := Bool.and_eq_true_iff.1 hok
  obtain ⟨hF, hL⟩ := Bool.and_eq_true_iff.1 hA
  have h40 : l.length ≤ 40 := of_decide_eq_true hL
  have hall := ordB_all l _ hO (Int.le_refl _)
  have HALL := Lib.hid hall
  obtain ⟨a, cap, rfl, hlen, hz⟩ := hz
  have HZ := Lib.hid hz
  have h40' : (l.length : Int) ≤ 40 := by omega
  have hoff : -86400 ≤ off ∧ off ≤ 86400 := inB_iff.1 hF
  have HP0 : Hid (pers off l = [] ++ per (-100000000000) off off (l.drop 0)) := by show _ = _; rw [List.drop_zero, List.nil_append]; rfl
  clear hz hall hA hO hF hL hok
  go_enter Try.func60, Try.ntmps60
  go_upto_region 1 with (fail)
  have hb0 := bSelf w (.cells #[.int .i64 off, .slice a l.length cap] 52)
  have K0 := Lib.hid (Blk.new w #[.int .i64 off, .slice a l.length cap] 52)
  generalize w.alloc (.cells #[.int .i64 off, .slice a l.length cap] 52) = w1 at *
  have hl1 : w.heap.size < w1.heap.size := K0.out.lt
  have q0 := K0.out.cell 0 rfl
  have q1 := K0.out.cell 1 rfl
  go_wp2_with (at_make; refine mk93 _ rfl _ _ rfl _ (l.length + 1) rfl rfl (by simp) (by omega) ?_; intro w2 hPr hb2; have q0 := (blkDown K0.out hb2).cell 0 rfl; have q1 := (blkDown K0.out hb2).cell 1 rfl; have hl2 := (blkDown K0.out hb2).lt; have hBl := hPr.out.read.2.2.1)
  have hB3 := bThen hb0 hb2
  have K3 := Lib.hid ((blkDown K0.out hb2).alloc (.cells #[.int .i64 (-100000000000), .int .i64 0, .int .i64 off, .int .i64 off] 96))
  have P3 := Lib.hid (hPr.out.below (bSelf w2 (.cells #[.int .i64 (-100000000000), .int .i64 0, .int .i64 off, .int .i64 off] 96)))
  have N3 := Lib.hid (Blk.new w2 #[.int .i64 (-100000000000), .int .i64 0, .int .i64 off, .int .i64 off] 96)
  have hB3' := bAl hB3 (.cells #[.int .i64 (-100000000000), .int .i64 0, .int .i64 off, .int .i64 off] 96)
  generalize w2.alloc (.cells #[.int .i64 (-100000000000), .int .i64 0, .int .i64 off, .int .i64 off] 96) = w3 at *
  generalize hgn : w2.heap.size = gn at *
  generalize hgB : w1.heap.size = B at *
  have hs3 := hB3.size
  clear hgn hgB hb2 hPr q0 q1 K0 hB3
  go_loopw [20, 3] (fun i t wr => ∃ (k : Nat) (f b o : Int) (ps : List Per), k ≤ l.length ∧ i = .int .i64 k ∧ t = .slice (some ⟨B, 0, none⟩) k (l.length + 1) ∧ Hid (ps.length = k) ∧ (-86400 ≤ o ∧ o ≤ 86400) ∧ Hid (pers off l = ps ++ per f b o (l.drop k)) ∧ Hid (Blk wr gn 96 [.int .i64 f, .int .i64 0, .int .i64 b, .int .i64 o]) ∧ Hid (Pr wr B (l.length + 1) ps) ∧ Hid (Blk wr w.heap.size 52 [.int .i64 off, .slice a l.length cap]) ∧ Below w.heap.size w wr) (fun i _ _ => l.length - (intOf i).toNat)
  case atStart => exact ⟨0, _, _, _, [], Nat.zero_le _, rfl, rfl, rfl, by assumption, HP0, N3, P3, K3, hB3'⟩
  case round =>
    obtain ⟨k, f, b, o, ps, hk, rfl, rfl, HL, ho, HP, N, P, K, hb⟩ := hrel
    have n0 := N.out.cell 0 rfl
    have n1 := N.out.cell 1 rfl
    have n2 := N.out.cell 2 rfl
    have n3 := N.out.cell 3 rfl
    have m0 := N.out.free 0
    have m1 := N.out.free 1
    have m2 := N.out.free 2
    have m3 := N.out.free 3
    have nl := N.out.lt
    by_cases hlt : k < l.length
    · have hg : l[k]? = some l[k] := List.getElem?_eq_getElem hlt
      obtain ⟨g, oo, rfl, hgl, c1, c2⟩ := HZ.out k _ hg
      obtain ⟨⟨a1, a2⟩, a3⟩ := HALL.out l[k] (List.getElem_mem hlt)
      have c1' : wr.cell? ⟨g, oo + k * 2, none⟩ = some (.int .i64 l[k].1) := (hb.cell (p := ⟨g, oo + k * 2, none⟩) hgl).trans c1
      have c2' : wr.cell? ⟨g, oo + k * 2 + 1, none⟩ = some (.int .i64 l[k].2) := (hb.cell (p := ⟨g, oo + k * 2 + 1, none⟩) hgl).trans c2
      have HS : Hid (pers off l = (ps ++ [⟨f, l[k].1 - 1, b, o⟩]) ++ per l[k].1 o l[k].2 (l.drop (k + 1))) := by
        show _ = _
        rw [HP.out, List.drop_eq_getElem_cons hlt, List.append_assoc]
        rfl
      have hlt' : (k : Int) < l.length := by omega
      have hgw : g < wr.heap.size := Nat.lt_of_lt_of_le hgl hb.size
      have hgn : g ≠ gn := by omega
      clear c1 c2 hg HP
      generalize l[k].1 = xa at *
      generalize l[k].2 = xo at *
      have PW := Lib.hid (((P.out.setOther ⟨gn, 1, none⟩ (.int .i64 (xa - 1)) (by show B ≠ gn; omega)).below (bSelf _ (.cells #[.int .i64 xa, .int .i64 xo] 69))).below (bSelf _ (.cells #[.int .i64 f, .int .i64 (xa - 1), .int .i64 b, .int .i64 o] 96)))
      have NW := Lib.hid (((N.out.set 1 (.int .i64 (xa - 1))).alloc (.cells #[.int .i64 xa, .int .i64 xo] 69)).alloc (.cells #[.int .i64 f, .int .i64 (xa - 1), .int .i64 b, .int .i64 o] 96))
      have KW := Lib.hid (((K.out.setOther ⟨gn, 1, none⟩ (.int .i64 (xa - 1)) (by show w.heap.size ≠ gn; omega)).alloc (.cells #[.int .i64 xa, .int .i64 xo] 69)).alloc (.cells #[.int .i64 f, .int .i64 (xa - 1), .int .i64 b, .int .i64 o] 96))
      have TW := Lib.hid ((newAt (wr.setCell ⟨gn, 1, none⟩ (.int .i64 (xa - 1))) #[.int .i64 xa, .int .i64 xo] 69 wr.heap.size _ (by simp) rfl).alloc (.cells #[.int .i64 f, .int .i64 (xa - 1), .int .i64 b, .int .i64 o] 96))
      have EW := Lib.hid (newAt ((wr.setCell ⟨gn, 1, none⟩ (.int .i64 (xa - 1))).alloc (.cells #[.int .i64 xa, .int .i64 xo] 69)) #[.int .i64 f, .int .i64 (xa - 1), .int .i64 b, .int .i64 o] 96 (wr.heap.size + 1) _ (by simp) rfl)
      have hbW := bAl (bAl (bSet hb gn 1 (by omega) (.int .i64 (xa - 1))) (.cells #[.int .i64 xa, .int .i64 xo] 69)) (.cells #[.int .i64 f, .int .i64 (xa - 1), .int .i64 b, .int .i64 o] 96)
      have hkl : ps.length + 1 ≤ l.length + 1 := by have := HL.out; omega
      have HKL := Lib.hid hkl
      clear hkl
      go_wp2_with (at_builtin; refine app96 rfl _ _ rfl B (l.length + 1) ps k HL.out.symm rfl PW.out (wr.heap.size + 1) 1 ⟨f, xa - 1, b, o⟩ rfl EW.out HKL.out ?_; intro w5 hP5 hg5; have N5 := Lib.hid (NW.out.grown hg5.out (by omega)); have T5 := Lib.hid (TW.out.grown hg5.out (by omega)); have e0 := N5.out.cell 0 rfl; have e1 := N5.out.cell 1 rfl; have e2 := N5.out.cell 2 rfl; have e3 := N5.out.cell 3 rfl; have j0 := N5.out.free 0; have j1 := N5.out.free 1; have j2 := N5.out.free 2; have j3 := N5.out.free 3; have i0 := T5.out.cell 0 rfl; have i1 := T5.out.cell 1 rfl; have nl5 := N5.out.lt; have tl5 := T5.out.lt)
      have hb5 := hbW.grown hg5.out hbW.size (fun j hj => by cases hj; omega)
      have K5 := KW.out.grown hg5.out (by omega)
      go_roundw
      case rel => exact ⟨k + 1, xa, o, xo, ps ++ [⟨f, xa - 1, b, o⟩], by omega, by go_num, rfl, by show _ = _; rw [List.length_append, HL.out]; rfl, a3, HS, set4 N5.out, Lib.hid (Pr.other4 (g' := gn) hP5.out (by omega) _ _ _ _), Lib.hid (other4 (g' := gn) K5 (by omega) _ _ _ _), bSet (bSet (bSet (bSet hb5 gn 0 (by omega) _) gn 1 (by omega) _) gn 2 (by omega) _) gn 3 (by omega) _⟩
      case measure => simp [intOf]; omega
    · have he : l.drop k = [] := List.drop_eq_nil_of_le (by omega)
      have hke : k = l.length := by omega
      have HE : Hid (pers off l = ps ++ [⟨f, 100000000000, b, o⟩]) := by show _ = _; rw [HP.out, he]; rfl
      have PW := Lib.hid ((P.out.setOther ⟨gn, 1, none⟩ (.int .i64 100000000000) (by show B ≠ gn; omega)).below (bSelf _ (.cells #[.int .i64 f, .int .i64 100000000000, .int .i64 b, .int .i64 o] 96)))
      have EW := Lib.hid (newAt (wr.setCell ⟨gn, 1, none⟩ (.int .i64 100000000000)) #[.int .i64 f, .int .i64 100000000000, .int .i64 b, .int .i64 o] 96 wr.heap.size _ (by simp) rfl)
      have hbW := bAl (bSet hb gn 1 (by omega) (.int .i64 100000000000)) (.cells #[.int .i64 f, .int .i64 100000000000, .int .i64 b, .int .i64 o] 96)
      have hkl : ps.length + 1 ≤ l.length + 1 := by have := HL.out; omega
      have HKL := Lib.hid hkl
      have HKE := Lib.hid hke
      clear hkl he hke
      go_wp2_with (at_builtin; refine app96 rfl _ _ rfl B (l.length + 1) ps k HL.out.symm rfl PW.out wr.heap.size 1 ⟨f, 100000000000, b, o⟩ rfl EW.out HKL.out ?_; intro w5 hP5 hg5)
      go_ret
      refine ⟨B, ?_, ?_, hbW.grown hg5.out hbW.size (fun j hj => by cases hj; omega)⟩
      · show Ending.returned (.slice (some ⟨B, 0, none⟩) (k + 1) (l.length + 1)) = _
        rw [HKE.out]
      · rw [HE.out]; exact hP5.out
end Go.Proofs.Ytojkkgmfccchbaa
