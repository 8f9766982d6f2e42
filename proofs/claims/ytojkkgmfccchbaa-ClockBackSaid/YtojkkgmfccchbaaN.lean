/- Zones: Moments. -/
import Derived.Test.YtojkkgmfccchbaaM
namespace Go.Proofs.Ytojkkgmfccchbaa
open Go Go.RowKit Go.Sort

abbrev ci (l : List Int) : List Value := l.map fun n => Value.int .i64 n
/-- ints in a row of the call's own -/
def IR (w : World) (base : Nat) (v : Value) (l : List Int) : Prop := w.ownsRow base 3 1 v l.length (ci l)
theorem IR.below {w w' : World} {base : Nat} {v : Value} {l : List Int} (h : IR w base v l) (hb : Below w.heap.size w w') : IR w' base v l := ownsRow_below h hb
theorem info3 : Try.prog.info? 3 = some (Try.prog.info? 3).get! := by kernel_rfl
theorem add_addr (g j k : Nat) : (⟨g, j, none⟩ : Addr).add k = ⟨g, j + k, none⟩ := by simp [Addr.add]
theorem app22 {w : World} {ops : Array Oper} {rest : List Oper} {o : Oper} {a : Act} {Q : Exit → Act → World → Prop} (hgd : o.guard = none) (s x : Operand)
    (ho : o.op = .call { callee := .builtin .append, args := #[s, x], argTypes := #[22, 22] }) (base : Nat) (v : Value) (ys : List Int) (hs : a.eval s = v) (hown : IR w base v ys)
    (g c : Nat) (C : Int) (hx : a.eval x = .slice (some ⟨g, 0, none⟩) 1 c) (hc : w.cell? ⟨g, 0, none⟩ = some (.int .i64 C)) (hn : ys.length ≤ 1000000) (hbase : base ≤ w.heap.size)
    (h : ∀ v' w', Hid (IR w' base v' (ys ++ [C])) → Hid (w.grownBy w' v.ownBlock) → wpList Try.prog ops Q rest (a.put o.dst v') w') :
    wpList Try.prog ops Q (o :: rest) a w := by
  refine wpList_append_own w hgd s x 22 ho base 3 _ (.int .i64 0) 1 8 Try.underlying22 info3 (by kernel_rfl) (by kernel_rfl) (by kernel_rfl) rfl (by decide) v ys.length (ci ys) hs hown ⟨g, 0, none⟩ 1 c [.int .i64 C] hx rfl ?_ (by simp [Value.oneCell']) (by unfold maxLen; omega) (by omega) hbase (fun v' w' h1 h2 _ => h v' w' ?_ h2)
  · intro j u hu
    rw [add_addr, Nat.zero_add]
    cases j with
    | zero => simp at hu; rw [← hu]; exact hc
    | succ j => simp at hu
  · show World.ownsRow _ _ _ _ _ _ _
    rw [ci, List.map_append, List.length_append]
    exact h1
/-- Moments' list -/
def mosN (off : Int) (l : List Ch) (x : Dt) : List Int := if zOk off l = true ∧ x.ok = true then moms x.sec (pers off l) else []
def mosE (off : Int) (l : List Ch) (x : Dt) : Int := if zOk off l = true ∧ x.ok = true then 0 else 1
def MosR (L : List Int) (er : Int) (w : World) (e : Ending) (w' : World) : Prop := ∃ v, e = .returned (.tuple #[v, .int .i64 er]) ∧ IR w' w.heap.size v L ∧ Below w.heap.size w w'
theorem moms_cons (s : Int) (p : Per) (r : List Per) : moms s (p :: r) = if p.shows s = true then (s - p.off) :: moms s r else moms s r := by
  unfold moms
  rw [List.filter_cons]
  split <;> rfl
theorem row_own {w : World} {base : Nat} {v : Value} {l : List Int} (h : IR w base v l) {g : Nat} (hg : v.ownBlock = some g) : base ≤ g := by
  obtain ⟨_, h2 | ⟨g', cap, cur, hv, hb, _⟩⟩ := h
  · rw [h2.1] at hg; cases hg
  · rw [hv] at hg
    have : g' = g := Option.some.inj hg
    omega
theorem IR.mono {w : World} {B B' : Nat} {v : Value} {l : List Int} (h : IR w B v l) (hB : B' ≤ B) : IR w B' v l := ownsRow_mono h hB
theorem IR.nil (w : World) (B : Nat) : IR w B (.slice none 0 0) [] := ⟨rfl, .inl ⟨rfl, rfl⟩⟩
theorem Blk.grownV {w w' : World} {g base : Nat} {v : Value} {l : List Int} {e : TypeId} {cs : List Value} (h : Blk w g e cs) (hr : IR w base v l) (hg : w.grownBy w' v.ownBlock) (hlt : g < base) : Blk w' g e cs :=
  (hg.block g h.lt (fun h2 => by have := row_own hr h2.symm; omega)).trans h
theorem Pr.grownV {w w' : World} {B cap base : Nat} {ps : List Per} {v : Value} {l : List Int} (h : Pr w B cap ps) (hr : IR w base v l) (hg : w.grownBy w' v.ownBlock) (hlt : B < base) : Pr w' B cap ps := by
  have hl := h.read.2.2.1
  obtain ⟨h1, h2 | ⟨g, cap', cur, hv, hgb, hh, r⟩⟩ := h
  · exact ⟨h1, .inl h2⟩
  · have e : g = B := by
      simp only [Value.slice.injEq, Option.some.injEq, Addr.mk.injEq] at hv
      exact hv.1.1.symm
    subst e
    exact ⟨h1, .inr ⟨g, cap', cur, hv, hgb, (hg.block g hl (fun h2 => by have := row_own hr h2.symm; omega)).trans hh, r⟩⟩
set_option maxRecDepth 100000 in
set_option maxHeartbeats 4000000 in
theorem t28_ok (off : Int) (v : Value) (l : List Ch) (x : Dt) (w : World) (hz : ZR w v l) (h : zOk off l = true) (hx : x.ok = true) : Calls Try.prog 28 #[ZV off v, x.v] w (MosR (moms x.sec (pers off l)) 0 w) := by
  have hb0 : Below w.heap.size w ((w.alloc (.cells #[.int .i64 off, v] 52)).alloc (.cells #[.int .i64 x.y, .int .i64 x.m, .int .i64 x.d, .int .i64 x.h, .int .i64 x.mi, .int .i64 x.s] 24)) := bAl (bSelf w _) _
  have HZ := Lib.hid (fun W (hb : Below w.heap.size w W) => hz.below hb)
  have KZ : Hid (Blk ((w.alloc (.cells #[.int .i64 off, v] 52)).alloc (.cells #[.int .i64 x.y, .int .i64 x.m, .int .i64 x.d, .int .i64 x.h, .int .i64 x.mi, .int .i64 x.s] 24)) w.heap.size 52 [.int .i64 off, v]) := (Blk.new w _ _).alloc _
  have KX : Hid (Blk ((w.alloc (.cells #[.int .i64 off, v] 52)).alloc (.cells #[.int .i64 x.y, .int .i64 x.m, .int .i64 x.d, .int .i64 x.h, .int .i64 x.mi, .int .i64 x.s] 24)) (w.heap.size + 1) 24 [.int .i64 x.y, .int .i64 x.m, .int .i64 x.d, .int .i64 x.h, .int .i64 x.mi, .int .i64 x.s]) := newAt _ _ _ _ _ (by simp) rfl
  have C59 := Lib.hid (fun W hz => t59_b (v := v) h W hz)
  have C37 := Lib.hid (t37_b hx)
  have C38 := Lib.hid (t38_b hx)
  have C60 := Lib.hid (fun W hz => t60 off v l W hz h)
  have hs := ok_sec hx
  have hpk := Lib.hid (pers_ok h)
  have h40 := (zOk_parts h).2.1
  have HPL := Lib.hid (pers_len off l)
  clear hz h hx
  generalize pers off l = ps at *
  generalize x.sec = S at *
  obtain ⟨y, m, d, hh, i, s⟩ := x
  dsimp only at *
  have HM0 : Hid (moms S ps = [] ++ moms S (ps.drop 0)) := by show _ = _; rw [List.drop_zero, List.nil_append]
  go_enter Try.func28, Try.ntmps28
  go_wp2_with fail
  generalize (w.alloc (.cells #[.int .i64 off, v] 52)).alloc (.cells #[.int .i64 y, .int .i64 m, .int .i64 d, .int .i64 hh, .int .i64 i, .int .i64 s] 24) = w1 at *
  refine (C59.out _ (HZ.out _ hb0)).mono ?_
  rintro e w2 ⟨rfl, hb2⟩
  have hB2 := bThen hb0 hb2
  have Z2 := Lib.hid (blkDown KZ.out hb2)
  have X2 := Lib.hid (blkDown KX.out hb2)
  obtain ⟨x0, x1, x2, x3, x4, x5⟩ := cells6 (w1 := w2) (fun _ _ _ => rfl) X2.out
  clear hb2 KZ KX hb0
  go_wp2_with fail
  refine (C37.out _).mono ?_
  rintro e w3 ⟨rfl, hb3⟩
  have hB3 := bThen hB2 hb3
  have Z3 := Lib.hid (blkDown Z2.out hb3)
  have X3 := Lib.hid (blkDown X2.out hb3)
  clear x0 x1 x2 x3 x4 x5 hb3 hB2 Z2 X2
  obtain ⟨x0, x1, x2, x3, x4, x5⟩ := cells6 (w1 := w3) (fun _ _ _ => rfl) X3.out
  go_wp2_with fail
  clear x0 x1 x2 x3 x4 x5
  refine (C38.out _).mono ?_
  rintro e w4 ⟨rfl, hb4⟩
  have hB4 := bThen hB3 hb4
  have Z4 := Lib.hid (blkDown Z3.out hb4)
  have q0 := Z4.out.cell 0 rfl
  have q1 := Z4.out.cell 1 rfl
  clear hb4 hB3 Z3 X3
  go_wp2_with fail
  clear q0 q1
  refine (C60.out _ (HZ.out _ hB4)).mono ?_
  rintro e w5 ⟨B, rfl, hP, hb5⟩
  have hB5 := bThen hB4 hb5
  have P5 := Lib.hid hP
  have hBl := hP.read.2.2.1
  clear hb5 hB4 hP Z4
  go_wp2_with fail
  have hs5 := hB5.size
  go_loopw [23, 7] (fun i t wr => ∃ (k : Nat) (v : Value) (ms : List Int), k ≤ ps.length ∧ i = .int .i64 k ∧ t = v ∧ Hid (ms.length ≤ k) ∧ Hid (moms S ps = ms ++ moms S (ps.drop k)) ∧ Hid (IR wr w5.heap.size v ms) ∧ Hid (Pr wr B (l.length + 1) ps) ∧ w5.heap.size ≤ wr.heap.size ∧ Below w.heap.size w wr) (fun i _ _ => ps.length - (intOf i).toNat)
  case atStart => exact ⟨0, _, [], Nat.zero_le _, rfl, rfl, Nat.zero_le _, HM0, Lib.hid (IR.nil _ _), P5, Nat.le_refl _, hB5⟩
  case round =>
    obtain ⟨k, tv, ms, hk, rfl, rfl, HML, HM, R, P, hsz, hb⟩ := hrel
    by_cases hlt : k < ps.length
    · have hg : ps[k]? = some ps[k] := List.getElem?_eq_getElem hlt
      obtain ⟨c0, c1, c2, c3⟩ := P.out.read.2.2.2 k _ hg
      have hpo := hpk.out ps[k] (List.getElem_mem hlt)
      have HMS : Hid (moms S ps = ms ++ (if ps[k].shows S = true then (S - ps[k].off) :: moms S (ps.drop (k + 1)) else moms S (ps.drop (k + 1)))) := by
        show _ = _
        rw [HM.out, List.drop_eq_getElem_cons hlt, moms_cons]
      have C61 := Lib.hid (fun W => t61 ps[k] S W hpo (by omega) (by omega))
      have hlt2 : k < l.length + 1 := by have := HPL.out; omega
      have hlt' : (k : Int) < (l.length : Int) + 1 := by omega
      obtain ⟨_, _, _, po4⟩ := hpo
      have h1000 : ms.length ≤ 1000000 := by have := HML.out; omega
      have HTH := Lib.hid h1000
      clear hg HM h1000
      generalize ps[k] = p at *
      cases hq : p.shows S
      · have HM2 : Hid (moms S ps = ms ++ moms S (ps.drop (k + 1))) := by show _ = _; rw [HMS.out, hq]; rfl
        have C := C61.out
        rw [hq] at C
        have CG := Lib.hid C
        clear C C61 hq HMS
        obtain ⟨pf, pl, pb, po⟩ := p
        dsimp only at *
        go_wp2_with fail
        have hb6 := bSelf wr (.cells #[.int .i64 pf, .int .i64 pl, .int .i64 pb, .int .i64 po] 96)
        refine (CG.out _).mono ?_
        rintro e w7 ⟨rfl, hb7⟩
        have hb67 := bThen hb6 hb7
        go_wp2_with fail
        go_roundw
        case rel => exact ⟨k + 1, _, ms, by omega, by go_num, rfl, by have := HML.out; show _ ≤ _; omega, HM2, Lib.hid (R.out.below hb67), Lib.hid (P.out.below hb67), Nat.le_trans hsz hb67.size, bThen hb hb67⟩
        case measure => simp [intOf]; omega
      · have HM2 : Hid (moms S ps = (ms ++ [S - p.off]) ++ moms S (ps.drop (k + 1))) := by show _ = _; rw [HMS.out, hq, List.append_assoc]; rfl
        have C := C61.out
        rw [hq] at C
        have CG := Lib.hid C
        clear C C61 hq HMS
        obtain ⟨pf, pl, pb, po⟩ := p
        dsimp only at *
        go_wp2_with fail
        have hb6 := bSelf wr (.cells #[.int .i64 pf, .int .i64 pl, .int .i64 pb, .int .i64 po] 96)
        have N6 := Blk.new wr #[.int .i64 pf, .int .i64 pl, .int .i64 pb, .int .i64 po] 96
        refine (CG.out _).mono ?_
        rintro e w7 ⟨rfl, hb7⟩
        have hb67 := bThen hb6 hb7
        have N7 := blkDown N6 hb7
        have e3 := N7.cell 3 rfl
        have hs7 := hb67.size
        have R7 := Lib.hid (R.out.below (bThen hb67 (bSelf w7 (.cells #[.int .i64 (S - po)] 3))))
        have P7 := Lib.hid (P.out.below (bThen hb67 (bSelf w7 (.cells #[.int .i64 (S - po)] 3))))
        have E7 := Lib.hid ((Blk.new w7 #[.int .i64 (S - po)] 3).cell 0 rfl)
        have hb8 := bAl (bThen hb hb67) (.cells #[.int .i64 (S - po)] 3)
        have hsz8 : w5.heap.size ≤ (w7.alloc (.cells #[.int .i64 (S - po)] 3)).heap.size := by simp; omega
        have HSZ8 := Lib.hid hsz8
        clear N6 N7 hb6 hb7 R P hsz8
        go_wp2_with (at_builtin; refine app22 rfl _ _ rfl w5.heap.size _ ms rfl R7.out w7.heap.size 1 (S - po) rfl E7.out HTH.out HSZ8.out ?_; intro v9 w9 R9 G9)
        go_roundw
        case rel => exact ⟨k + 1, v9, ms ++ [S - po], by omega, by go_num, rfl, by have := HML.out; show _ ≤ _; rw [List.length_append]; simp; omega, HM2, R9, Lib.hid (P7.out.grownV R7.out G9.out hBl), Nat.le_trans HSZ8.out G9.out.size, hb8.grown G9.out hb8.size (fun j hj => by have := row_own R7.out hj; omega)⟩
        case measure => simp [intOf]; omega
    · have he : ps.drop k = [] := List.drop_eq_nil_of_le (by omega)
      have HE : Hid (moms S ps = ms) := by show _ = _; rw [HM.out, he]; simp [moms]
      have hk2 : ¬ (k : Int) < (l.length : Int) + 1 := by have := HPL.out; omega
      clear he
      go_wp2
      go_ret2
      exact ⟨_, rfl, by rw [HE.out]; exact R.out.mono hs5, hb⟩
end Go.Proofs.Ytojkkgmfccchbaa
