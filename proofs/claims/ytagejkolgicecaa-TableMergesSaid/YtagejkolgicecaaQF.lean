/- The reference: out. -/
import Derived.Deep.Cut
import Derived.Deep.RegionLaw
import Derived.Test.YtagejkolgicecaaQD
namespace Go.Proofs.Ytagejkolgicecaa
open Go Go.RowKit Go.Maps
/-- append, of nothing too, as a step of a region that draws -/
theorem step_append_at {P : Program} (w : World) {ops : Array Oper} {o : Oper} {a : Act} {K : Act → World → Prop} {Q : Exit → Act → World → Prop} {E : Prop} (hgd : o.guard = none) (s x : Operand) (t : TypeId)
    (ho : o.op = .call { callee := .builtin .append, args := #[s, x], argTypes := #[t, t] })
    (base : Nat) (e : TypeId) (i : TypeInfo) (z : Value) (size bytes : Nat) (ht : P.underlying t = some (.slice e)) (hi : P.info? e = some i) (hz : i.zero = some z)
    (hsize : i.size = size) (hby : i.bytes = bytes) (hzs : z.cells.size = size) (hsz : 0 < size)
    (v : Value) (n : Nat) (xs : List Value) (hs : a.eval s = v) (hown : w.ownsRow base e size v n xs)
    (ad : Addr) (m c : Nat) (news : List Value) (hx : a.eval x = .slice (some ad) m c) (hl : news.length = m * size) (hnews : ∀ j u, news[j]? = some u → w.cell? (ad.add j) = some u) (h1 : ∀ u ∈ news, u.oneCell' = true)
    (h63 : n + m ≤ maxLen) (hbytes : (n + m) * bytes ≤ 140737488355328) (hbase : base ≤ w.heap.size)
    (h : ∀ ao cap w', w'.ownsRow base e size (.slice ao (n + m) cap) (n + m) (xs ++ news) → w.grownBy w' v.ownBlock → ((Value.slice ao (n + m) cap).ownBlock = v.ownBlock ∨ (Value.slice ao (n + m) cap).ownBlock = some w.heap.size) → K (a.put o.dst (.slice ao (n + m) cap)) w') :
    if Region.wanted o (yielded ops a.tmps) = true then Oper.wp P o a w K Q else E := by
  have hw : Region.wanted o (yielded ops a.tmps) = true := by simp [Region.wanted, hgd]
  rw [if_pos hw]
  obtain ⟨v', w', hr, h2, h3, _, h5⟩ := run_append_own_at (P := P) w base t o.type e i z size bytes ht hi hz hsize hby hzs hsz v n xs hown ad m c news hl hnews h1 h63 hbytes hbase
  have hf : ∃ ao cap, v' = .slice ao (n + m) cap := by
    rcases h2.2 with ⟨rfl, h0⟩ | ⟨g, cap, cur, rfl, _⟩
    · exact ⟨none, 0, by rw [h0]⟩
    · exact ⟨_, _, rfl⟩
  obtain ⟨ao, cap, rfl⟩ := hf
  unfold Oper.wp execOp
  simp only [ho, resolve, invoke, builtin, Sem.run_bind, Sem.run_pure, Result.andThen_ok, List.map_toArray, List.map_cons, List.map_nil, hs, hx, hr]
  exact h ao cap w' h2 h3 h5
theorem fm_take {α : Type} (enc : α → List Value) (sz : Nat) (hs : ∀ x, (enc x).length = sz) : ∀ (xs : List α) (i : Nat), (xs.flatMap enc).take (i * sz) = (xs.take i).flatMap enc
  | [], i => by simp
  | x :: xs, 0 => by simp
  | x :: xs, i + 1 => by
    rw [List.flatMap_cons, List.take_append, hs, List.take_of_length_le (by rw [hs, Nat.succ_mul]; omega), show (i + 1) * sz - sz = i * sz by rw [Nat.succ_mul]; omega, fm_take enc sz hs xs i, List.take_succ_cons, List.flatMap_cons]
theorem fm_drop {α : Type} (enc : α → List Value) (sz : Nat) (hs : ∀ x, (enc x).length = sz) : ∀ (xs : List α) (i : Nat), (xs.flatMap enc).drop (i * sz) = (xs.drop i).flatMap enc
  | [], i => by simp
  | x :: xs, 0 => by simp
  | x :: xs, i + 1 => by
    rw [List.flatMap_cons, List.drop_append, hs, List.drop_of_length_le (by rw [hs, Nat.succ_mul]; omega), show (i + 1) * sz - sz = i * sz by rw [Nat.succ_mul]; omega, fm_drop enc sz hs xs i, List.drop_succ_cons, List.nil_append]
def Rt.out (R : Rt) (i : Nat) : Rt := { R with rows := R.rows.eraseIdx i }
section
variable {F : Nat → Prop} {r : Nat} {R : Rt}
set_option maxRecDepth 100000 in
set_option maxHeartbeats 4000000 in
theorem t71 (w : World) (h : RTab F w r R) (hn : ∀ i, w.heap.size ≤ i → F i) (hl : R.rows.length ≤ 500) (i : Nat) (k v : Int) (t : Nat) (hi : R.rows[i]? = some (k, v, t)) :
    Calls Try.prog 71 #[.pointer (some ⟨r, 0, none⟩), .int .i64 i] w fun e w' => e = .returned (.agg #[.int .i64 k, .int .i64 v, .int .i64 (t : Int)]) ∧ RTab F w' r (R.out i) ∧ Turn F w w' := by
  obtain ⟨rv, wv, hW⟩ := h
  have q3 := hW.blk.cell 3 rfl
  have HW := Lib.hid hW
  have HN := Lib.hid hn
  obtain ⟨ar, cr, rfl, hc0, hc1, hc⟩ := hW.rows.form
  obtain ⟨g, rfl, _, hcell, _⟩ := hc i _ hi
  have d0 : w.cell? ⟨g, i * 3 + 0, none⟩ = some (.int .i64 k) := hcell 0 _ (by decide) rfl
  rw [Nat.add_zero] at d0
  have d1 : w.cell? ⟨g, i * 3 + 1, none⟩ = some (.int .i64 v) := hcell 1 _ (by decide) rfl
  have d2 : w.cell? ⟨g, i * 3 + 2, none⟩ = some (.int .i64 (t : Int)) := hcell 2 _ (by decide) rfl
  have hrl := hW.blk.lt
  have hgl : g < w.heap.size := World.block_lt_of_cell? w _ d0
  have hlt : i < R.rows.length := (List.getElem?_eq_some_iff.1 hi).1
  have hlt' : (i : Int) < R.rows.length := by omega
  have HI := Lib.hid hi
  have hl' : (R.rows.length : Int) ≤ 500 := by omega
  have hic : i ≤ cr := by omega
  have hic2 : i + 1 ≤ cr := by omega
  obtain ⟨i0, hi0, hz0, hz1, hz2⟩ := info_parts info83
  clear hW hn hc hcell hi
  obtain ⟨rn, hrn⟩ : ∃ rn, rn = R.rows.length := ⟨_, rfl⟩
  have HRN := Lib.hid hrn
  rw [← hrn] at q3 hlt hlt' hl' hl hc0
  clear hrn
  go_enter Try.func71, Try.ntmps71
  go_upto_region 2 with fail
  have hb1 := bAl (bSelf w (.cells #[.int .i64 0, .int .i64 0, .int .i64 0] 83)) (.cells #[.int .i64 k, .int .i64 v, .int .i64 (t : Int)] 83)
  have H1 := Lib.hid (HW.out.below hb1)
  have HB1 := Lib.hid hb1
  have z4 : Blk ((w.alloc (.cells #[.int .i64 0, .int .i64 0, .int .i64 0] 83)).alloc (.cells #[.int .i64 k, .int .i64 v, .int .i64 (t : Int)] 83)) w.heap.size 83 _ := (Blk.new w #[.int .i64 0, .int .i64 0, .int .i64 0] 83).alloc _
  have z5 : Blk ((w.alloc (.cells #[.int .i64 0, .int .i64 0, .int .i64 0] 83)).alloc (.cells #[.int .i64 k, .int .i64 v, .int .i64 (t : Int)] 83)) (w.heap.size + 1) 83 [.int .i64 k, .int .i64 v, .int .i64 (t : Int)] := by
    have h1 := Blk.new (w.alloc (.cells #[.int .i64 0, .int .i64 0, .int .i64 0] 83)) #[.int .i64 k, .int .i64 v, .int .i64 (t : Int)] 83
    simpa using h1
  have Z4 := Lib.hid z4
  have Z5 := Lib.hid z5
  generalize (w.alloc (.cells #[.int .i64 0, .int .i64 0, .int .i64 0] 83)).alloc (.cells #[.int .i64 k, .int .i64 v, .int .i64 (t : Int)] 83) = w1 at *
  clear z4 z5 hb1 q3 d0 d1 d2
  have q3 : w1.cell? ⟨r, 3, none⟩ = some (.slice (some ⟨g, 0, none⟩) rn cr) := by rw [HRN.out]; exact H1.out.blk.cell 3 rfl
  have f3 := H1.out.blk.free 3
  have hrl1 : r < w1.heap.size := H1.out.blk.lt
  obtain ⟨cs, hcs, hct, hcl⟩ : ∃ cs, Blk w1 g 83 cs ∧ cs.take (rn * 3) = R.rows.flatMap rowL.enc ∧ cs.length = cr * 3 := by
    rcases H1.out.rows.2 with ⟨h2, _⟩ | ⟨g', c', cu, h3, _, h5, _, _, h6, h7⟩
    · cases h2
    · cases h3
      exact ⟨cu.toList, by simpa [Blk, rowL] using h5, by rw [HRN.out]; exact h7, by simpa [rowL] using h6⟩
  have HCS := Lib.hid hcs
  have hfl : (R.rows.flatMap rowL.enc).length = rn * 3 := by rw [fm_len rowL.enc 3 rowL.len, ← HRN.out]
  have hone : ∀ u ∈ R.rows.flatMap rowL.enc, u.oneCell' = true := by
    intro u hu
    obtain ⟨x, _, hx⟩ := List.mem_flatMap.1 hu
    simp only [rowL, List.mem_cons, List.mem_nil_iff, or_false] at hx
    rcases hx with rfl | rfl | rfl <;> rfl
  have hget : ∀ j u, (R.rows.flatMap rowL.enc)[j]? = some u → w1.cell? ⟨g, j, none⟩ = some u := fun j u hu => by
    refine hcs.cell j ?_
    rw [← hct, List.getElem?_take] at hu
    split at hu
    · exact hu
    · cases hu
  obtain ⟨fl, hfle⟩ : ∃ fl, fl = R.rows.flatMap rowL.enc := ⟨_, rfl⟩
  rw [← hfle] at hfl hone hget
  have n1l : (fl.take (i * 3)).length = i * 3 := by rw [List.length_take]; omega
  have n1g : Hid (∀ j u, (fl.take (i * 3))[j]? = some u → w1.cell? ((⟨g, 0, none⟩ : Addr).add j) = some u) := fun j u hu => by
    rw [show (⟨g, 0, none⟩ : Addr).add j = ⟨g, j, none⟩ by unfold Addr.add; split <;> simp_all]
    rw [List.getElem?_take] at hu
    split at hu
    · exact hget j u hu
    · cases hu
  have n1o : Hid (∀ u ∈ fl.take (i * 3), u.oneCell' = true) := fun u hu => hone u (List.mem_of_mem_take hu)
  have n2l : (fl.drop ((i + 1) * 3)).length = (rn - (i + 1)) * 3 := by rw [List.length_drop, hfl]; omega
  obtain ⟨A, hA, hAc⟩ : ∃ A : Addr, (if cr = i + 1 then (some ⟨g, 0, none⟩ : Option Addr) else some ⟨g, (i + 1) * 3, none⟩) = some A ∧ Hid (∀ j u, (fl.drop ((i + 1) * 3))[j]? = some u → w1.cell? (A.add j) = some u ∧ A.block = g ∧ (A.add j).block = g) := by
    by_cases h : cr = i + 1
    · refine ⟨⟨g, 0, none⟩, by rw [if_pos h], fun j u hu => ?_⟩
      have h0 : (fl.drop ((i + 1) * 3)).length = 0 := by rw [n2l]; omega
      rw [List.length_eq_zero_iff.1 h0] at hu
      simp at hu
    · refine ⟨⟨g, (i + 1) * 3, none⟩, by rw [if_neg h], fun j u hu => ?_⟩
      have e : (⟨g, (i + 1) * 3, none⟩ : Addr).add j = ⟨g, (i + 1) * 3 + j, none⟩ := by unfold Addr.add; split <;> simp_all
      rw [e]
      rw [List.getElem?_drop] at hu
      exact ⟨hget _ _ hu, rfl, rfl⟩
  have n2o : Hid (∀ u ∈ fl.drop ((i + 1) * 3), u.oneCell' = true) := fun u hu => hone u (List.mem_of_mem_drop hu)
  have HFLE := Lib.hid hfle
  have HFL := Lib.hid hfl
  have HG1 := Lib.hid hget
  clear hcs hct hcl hone hget hfle
  have HE : Hid ((w1.alloc (.cells #[] 83)).ownsRow 0 83 3 (.slice (some ⟨w1.heap.size, 0, none⟩) 0 0) 0 []) := by
    show World.ownsRow _ _ _ _ _ _ _
    exact ⟨rfl, .inr ⟨w1.heap.size, 0, #[], rfl, Nat.zero_le _, by simpa using heap_alloc_new w1 (.cells #[] 83), Nat.le_refl _, Nat.zero_le _, rfl, rfl⟩⟩
  have N1 : Hid (∀ j u, (fl.take (i * 3))[j]? = some u → (w1.alloc (.cells #[] 83)).cell? ((⟨g, 0, none⟩ : Addr).add j) = some u) := fun j u hu => by
    have h1 := n1g.out j u hu
    exact ((bSelf w1 (.cells #[] 83)).cell (World.block_lt_of_cell? w1 _ h1)).trans h1
  have hgl1 : g < w1.heap.size := HCS.out.lt
  have hgr1 : r ≠ w1.heap.size := by omega
  have y1 : IntKind.i64.wrap ((i : Int) + 1) = (i : Int) + 1 := by rw [IntKind.wrap_i64]; omega
  have y2 : (0 : Int) ≤ (i : Int) + 1 := by omega
  have y3 : (i : Int) + 1 ≤ (rn : Int) := by omega
  have y4 : ((i : Int) + 1).toNat = i + 1 := by omega
  have HN2 : Hid (∀ w3, (w1.alloc (.cells #[] 83)).drew.grownBy w3 (some w1.heap.size) → Hid (∀ j u, (fl.drop ((i + 1) * 3))[j]? = some u → w3.cell? (A.add j) = some u)) := fun w3 hg j u hu => by
    obtain ⟨h1, h2, h3⟩ := hAc.out j u hu
    have h4 := ((bSelf w1 (.cells #[] 83)).drew.cell (p := A.add j) (by rw [h3]; exact hgl1)).trans h1
    have h5 : (A.add j).block < (w1.alloc (.cells #[] 83)).drew.heap.size := by
      have h6 := (bSelf w1 (.cells #[] 83)).drew.size
      rw [h3]; omega
    exact (World.cell?_of_block (a := A.add j) (hg.block (A.add j).block h5 (by rw [h3]; intro e; cases e; omega))).trans h4
  have HR4 : Hid (∀ w3 w4 a1 c1, (w1.alloc (.cells #[] 83)).drew.grownBy w3 (some w1.heap.size) → ((Value.slice a1 i c1).ownBlock = some w1.heap.size ∨ (Value.slice a1 i c1).ownBlock = some (w1.alloc (.cells #[] 83)).drew.heap.size) → w3.ownsRow 0 83 3 (.slice a1 i c1) i ([] ++ fl.take (i * 3)) → w3.grownBy w4 (Value.slice a1 i c1).ownBlock →
      (∀ q, q < w1.heap.size → w4.heap[q]? = w1.heap[q]?) ∧ w1.heap.size ≤ w3.heap.size ∧ Turn (fun q => w1.heap.size ≤ q) w1 w4) := by
    intro w3 w4 a1 c1 hg3 ha3 _ hg4
    have hs1 : (w1.alloc (.cells #[] 83)).drew.heap.size = w1.heap.size + 1 := by show (w1.alloc (.cells #[] 83)).heap.size = _; simp
    have T1 : Turn (fun q => w1.heap.size ≤ q) w1 (w1.alloc (.cells #[] 83)).drew := Turn.of_below (bSelf w1 (.cells #[] 83)).drew
    have T2 : Turn (fun q => w1.heap.size ≤ q) (w1.alloc (.cells #[] 83)).drew w3 := Turn.of_grown hg3 (fun k e => by cases e; exact Nat.le_refl _)
    have T3 : Turn (fun q => w1.heap.size ≤ q) w3 w4 := Turn.of_grown hg4 (fun k e => by
      rcases ha3 with h | h
      · rw [h] at e; cases e; exact Nat.le_refl _
      · rw [h, hs1] at e; cases e; exact Nat.le_succ _)
    have TT := (T1.trans T2).trans T3
    exact ⟨fun q hq => TT.block q hq (by omega), (T1.trans T2).size, TT⟩
  go_region_law (first
    | (refine step_append_at _ rfl _ _ 55 rfl 0 83 i0 (.agg #[.int .i64 0, .int .i64 0, .int .i64 0]) 3 24 Try.underlying55 hi0 hz0 hz1 hz2 rfl (by decide) (.slice (some ⟨w1.heap.size, 0, none⟩) 0 0) 0 [] rfl (ownsRow_below HE.out ((Below.refl _ _).drew)) ⟨g, 0, none⟩ i cr (fl.take (i * 3)) rfl n1l N1.out n1o.out (by unfold maxLen; omega) (by omega) (Nat.zero_le _) ?_; intro a1 c1 w3 hown1 hgrow1 hat1; have B3 : Blk w3 r 58 _ := (hgrow1.block r (by simp; omega) (fun e => hgr1 (by cases e; rfl))).trans (H1.out.blk.alloc _); have r3 := B3.cell 3 rfl; have g3 := B3.free 3; rw [← HRN.out] at r3; have N2 := HN2.out w3 hgrow1; rw [Nat.zero_add] at hown1 hat1)
    | (refine step_append_at _ rfl _ _ 55 rfl 0 83 i0 (.agg #[.int .i64 0, .int .i64 0, .int .i64 0]) 3 24 Try.underlying55 hi0 hz0 hz1 hz2 rfl (by decide) (.slice a1 i c1) i _ rfl hown1 A (rn - (i + 1)) (cr - (i + 1)) (fl.drop ((i + 1) * 3)) rfl n2l N2.out n2o.out (by unfold maxLen; omega) (by omega) (Nat.zero_le _) ?_; intro a2 c2 w4 hown2 hgrow2 hat2; have R4 : Blk w4 r 58 [.bool true, .bool R.st, .bool R.fz, .slice (some ⟨g, 0, none⟩) R.rows.length cr, wv, .int .i64 (R.now : Int)] := ((HR4.out w3 w4 a1 c1 hgrow1 hat1 hown1 hgrow2).1 r hrl1).trans H1.out.blk; have r4 := R4.cell 3 rfl; have g4 := R4.free 3; clear R4)
    | fail)
  all_goals
    obtain ⟨X1, X2, X3⟩ := HR4.out w3 w4 a1 c1 hgrow1 hat1 hown1 hgrow2
    have R4 : Blk w4 r 58 [.bool true, .bool R.st, .bool R.fz, .slice (some ⟨g, 0, none⟩) R.rows.length cr, wv, .int .i64 (R.now : Int)] := (X1 r hrl1).trans H1.out.blk
    have hzr : w.heap.size ≠ r := by have := HW.out.blk.lt; omega
    have hzr1 : w.heap.size + 1 ≠ r := by have := HW.out.blk.lt; omega
    have Y4 : Blk w4 w.heap.size 83 [.int .i64 0, .int .i64 0, .int .i64 0] := (X1 _ Z4.out.lt).trans Z4.out
    have Y5 : Blk w4 (w.heap.size + 1) 83 [.int .i64 k, .int .i64 v, .int .i64 (t : Int)] := (X1 _ Z5.out.lt).trans Z5.out
    have HX3 := Lib.hid X3
    have HR := Lib.hid R4
    have HOWN := Lib.hid hown2
    have Y4' := Y4.setOther ⟨r, 3, none⟩ (.slice a2 (i + (rn - (i + 1))) c2) hzr
    have Y5' := Y5.setOther ⟨r, 3, none⟩ (.slice a2 (i + (rn - (i + 1))) c2) hzr1
    have HAT : Hid (∀ q, (Value.slice a2 (i + (rn - (i + 1))) c2).ownBlock = some q → w1.heap.size ≤ q) := by
      intro q hq
      rcases hat2 with h | h
      · rcases hat1 with h' | h'
        · rw [h, h'] at hq; cases hq; exact Nat.le_refl _
        · rw [h, h'] at hq; cases hq; exact (bSelf w1 (.cells #[] 83)).drew.size
      · rw [h] at hq; cases hq; exact X2
    have p0 := Y5'.cell 0 rfl
    have p1 := Y5'.cell 1 rfl
    have p2 := Y5'.cell 2 rfl
    have o0 := Y4'.cell 0 rfl
    have o1 := Y4'.cell 1 rfl
    have o2 := Y4'.cell 2 rfl
    have v0 := Y4'.free 0
    have v1 := Y4'.free 1
    have v2 := Y4'.free 2
    clear r3 g3 r4 g4 X1 X2 X3 R4 Y5 Y5' Y4 hown1 hown2 hgrow1 hgrow2 hat1 hat2 N2
    have HY4 := Lib.hid Y4'
    have HT4 := Lib.hid (turnSet w4 r 3 (.slice a2 (i + (rn - (i + 1))) c2))
    clear Y4'
    generalize hw5 : w4.setCell ⟨r, 3, none⟩ (.slice a2 (i + (rn - (i + 1))) c2) = w5 at *
    go_wp2
    have B6 : Blk (((w5.setCell ⟨w.heap.size, 0, none⟩ (.int .i64 k)).setCell ⟨w.heap.size, 1, none⟩ (.int .i64 v)).setCell ⟨w.heap.size, 2, none⟩ (.int .i64 (t : Int))) w.heap.size 83 [.int .i64 k, .int .i64 v, .int .i64 (t : Int)] := ((HY4.out.set 0 (.int .i64 k)).set 1 (.int .i64 v)).set 2 (.int .i64 (t : Int))
    have T6 : Turn (fun q => q = w.heap.size) w5 (((w5.setCell ⟨w.heap.size, 0, none⟩ (.int .i64 k)).setCell ⟨w.heap.size, 1, none⟩ (.int .i64 v)).setCell ⟨w.heap.size, 2, none⟩ (.int .i64 (t : Int))) := ((turnSet w5 w.heap.size 0 _).trans (turnSet _ w.heap.size 1 _)).trans (turnSet _ w.heap.size 2 _)
    have HT6 := Lib.hid T6
    have b0 := B6.cell 0 rfl
    have b1 := B6.cell 1 rfl
    have b2 := B6.cell 2 rfl
    clear T6 B6
    generalize ((w5.setCell ⟨w.heap.size, 0, none⟩ (.int .i64 k)).setCell ⟨w.heap.size, 1, none⟩ (.int .i64 v)).setCell ⟨w.heap.size, 2, none⟩ (.int .i64 (t : Int)) = w6 at *
    refine bodyPost_ret (by simp [results, Try.results71, go_sem, b0, b1, b2]; try rfl) rfl ?_
    have hS4 : Seq rowL 0 w4 (.slice a2 (i + (rn - (i + 1))) c2) (R.rows.eraseIdx i) := by
      have h1 := HOWN.out
      rw [List.nil_append, HFLE.out, fm_take rowL.enc 3 rowL.len, fm_drop rowL.enc 3 rowL.len, ← List.flatMap_append, ← List.eraseIdx_eq_take_drop_succ] at h1
      show World.ownsRow _ _ _ _ _ _ _
      rw [show (R.rows.eraseIdx i).length = i + (rn - (i + 1)) by rw [List.length_eraseIdx_of_lt (by rw [← HRN.out]; exact hlt), ← HRN.out]; omega]
      exact h1
    have hW4 : Seq walkL 0 w4 wv R.walks := H1.out.walks.turn HX3.out (fun q hq h => by have := (HW.out.walks.lt hq).2.1; have := HB1.out.size; omega)
    have hS5 : Seq rowL 0 w5 _ _ := hS4.turn HT4.out (fun q hq e => by have := HAT.out q hq; omega)
    have hW5 : Seq walkL 0 w5 wv R.walks := hW4.turn HT4.out (fun q hq e => HW.out.ne.2.1 (by rw [hq, e]))
    have hB5 : Blk w5 r 58 [.bool true, .bool R.st, .bool R.fz, .slice a2 (i + (rn - (i + 1))) c2, wv, .int .i64 (R.now : Int)] := by rw [← hw5]; exact HR.out.set 3 _
    have hsz := HB1.out.size
    refine ⟨rfl, ⟨.slice a2 (i + (rn - (i + 1))) c2, wv, HT6.out.blk hB5 (fun e => hzr e.symm), hS5.turn HT6.out (fun q hq e => by have := HAT.out q hq; have := Z4.out.lt; omega), hW5.turn HT6.out (fun q hq e => by have := (HW.out.walks.lt hq).2.1; omega), HW.out.fr, fun q hq => HN.out q (by have := HAT.out q hq; omega), HW.out.fw⟩, ?_⟩
    exact (((Turn.of_below HB1.out).trans (HX3.out.mono (fun q _ h => HN.out q (by omega)))).trans (HT4.out.mono (fun q _ e => by rw [e]; exact HW.out.fr))).trans (HT6.out.mono (fun q _ e => HN.out q (by omega)))
end
end Go.Proofs.Ytagejkolgicecaa
