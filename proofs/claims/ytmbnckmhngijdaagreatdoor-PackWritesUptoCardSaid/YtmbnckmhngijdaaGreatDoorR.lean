/- Contracts of write. -/
import Derived.Test.YtmbnckmhngijdaaGreatDoorQ
namespace Go.Proofs.YtmbnckmhngijdaaGreatDoor
open Go Go.RowKit

def WriteR (iv : Value) (r : Except Nat St) (w : World) (e : Ending) (w' : World) : Prop :=
  Below w.heap.size w w' ∧
  match r with
  | .error x => e = .returned (.tuple #[.agg #[.slice none 0 0, .int .i64 0, .slice none 0 0], .int .i64 x]) ∧ x ≠ 0
  | .ok st => ∃ bv, e = .returned (.tuple #[.agg #[iv, .int .i64 st.2, bv], .int .i64 0]) ∧ w'.ownsRow w.heap.size 5 1 bv st.1.length (c8 st.1) ∧ st.1.length ≤ 100000
def LoopW (B gw : Nat) (iv : Value) (xs : List Itm) (ds : List Dir) (W : World) (i : Value) (wr : World) : Prop :=
  ∃ (j u : Nat) (bv : Value) (o : List UInt8), j ≤ ds.length ∧ i = .int .i64 j ∧ u ≤ xs.length ∧ Hid (Wr wr B gw iv u bv o) ∧ Hid (runL xs (ds.drop j) (o, u) = runL xs ds ([], 0)) ∧ Hid (Kp (WrS B gw W) W wr)
theorem dcells_get (ds : List Dir) : ∀ (j : Nat) (d : Dir) (k : Nat), ds[j]? = some d → k < 6 → (dcells ds)[j * 6 + k]? = d.cs.toList[k]? := by
  induction ds with
  | nil => intro j d k h; simp at h
  | cons x ds ih =>
    intro j d k h hk
    have hx : x.cs.toList.length = 6 := rfl
    cases j with
    | zero =>
      simp at h; subst h
      simp only [dcells, List.flatMap_cons]
      rw [List.getElem?_append_left (by omega)]; simp
    | succ j =>
      simp only [dcells, List.flatMap_cons]
      rw [List.getElem?_append_right (by omega), hx, show (j + 1) * 6 + k - 6 = j * 6 + k by omega]
      exact ih j d k (by simpa using h) hk
theorem Ds.cell {w : World} {B : Nat} {v : Value} {ds : List Dir} (h : Ds w B v ds) {j : Nat} {d : Dir} (hd : ds[j]? = some d) : ∃ g cap, v = .slice (some ⟨g, 0, none⟩) ds.length cap ∧ g < w.heap.size ∧ ∀ (k : Nat) (x : Value), d.cs.toList[k]? = some x → w.cell? ⟨g, j * 6 + k, none⟩ = some x := by
  have hj := (List.getElem?_eq_some_iff.1 hd).1
  rcases h.2 with ⟨_, h0⟩ | ⟨g, cap, cur, rfl, h1, h2, h3, h4, h5, h6⟩
  · omega
  · refine ⟨g, cap, rfl, lt_of_block h2, fun k x hx => ?_⟩
    have hk : k < 6 := (List.getElem?_eq_some_iff.1 hx).1
    have e := dcells_get ds j d k hd hk
    rw [hx, ← h6, List.getElem?_take] at e
    split at e
    · have hb : Blk w g 81 cur.toList := by simpa [Blk] using h2
      exact hb.cell _ e
    · cases e
theorem takesL_used {xs : List Itm} {d : Dir} : ∀ (n : Nat) {st st' : St}, st.2 ≤ xs.length → takesL xs d n st = .ok st' → st'.2 ≤ xs.length
  | 0, st, st', hu, h => by cases h; exact hu
  | n + 1, st, st', hu, h => by
    unfold takesL at h
    cases ht : takeL xs d st with
    | error e => rw [ht] at h; cases h
    | ok st2 =>
      rw [ht] at h
      exact takesL_used n (takeL_used ht).2 h
theorem stepL_used {xs : List Itm} {d : Dir} {o : List UInt8} {u : Nat} (hu : u ≤ xs.length) (st : St) (h : stepL xs d (o, u) = .ok st) : st.2 ≤ xs.length := by
  unfold stepL at h
  split at h
  · cases ha : addL o (List.replicate d.n 0) with
    | error e => simp only [ha] at h; cases h
    | ok o' => simp only [ha] at h; cases h; exact hu
  · split at h
    · cases h; exact hu
    · exact takesL_used _ hu h
theorem WrS.notRow {w : World} {B B' gw g n size : Nat} {e t : TypeId} {v : Value} {xs cs : List Value} (h : w.ownsRow B' e size v n xs) (hk : Blk w gw t cs) (hne : e ≠ 5 ∧ e ≠ t) (hg : v.ownBlock = some g) : ¬ WrS B gw w g := by
  rcases h.2 with ⟨rfl, _⟩ | ⟨g', cap, cur, rfl, _, h2, _⟩
  · simp [Value.ownBlock] at hg
  · simp [Value.ownBlock] at hg
    subst hg
    have hb : Blk w g' e cur.toList := by simpa [Blk] using h2
    exact WrS.not hb hne.1 (fun e' => by
      subst e'
      have h3 := h2.symm.trans hk
      simp at h3
      exact hne.2 h3.2)
set_option maxRecDepth 100000 in
set_option maxHeartbeats 4000000 in
theorem t37 (s : ByteArray) (iv : Value) (xs : List Itm) (w : World) (hG : Gl w) (hs : s.size ≤ 100000) (hI : Its w.heap.size w iv xs) (hx : ItsOk xs) :
    Calls Tryz.prog 37 #[.string s, iv] w (WriteR iv (packL s.data.toList xs) w) := by
  obtain ⟨p, cap, rfl, hxl, hI3⟩ := id hI
  have HI := Lib.hid hI
  clear hI hI3
  have hk0 := Blk.new w #[.slice none 0 0, .int .i64 0, .slice none 0 0] 74
  have hb0 := bSelf w (.cells #[.slice none 0 0, .int .i64 0, .slice none 0 0] 74)
  have hG0 := hG.below hb0
  have hs0 : (w.alloc (.cells #[.slice none 0 0, .int .i64 0, .slice none 0 0] 74)).heap.size = w.heap.size + 1 := by simp
  have C45 := t45 s (w.alloc (.cells #[.slice none 0 0, .int .i64 0, .slice none 0 0] 74)) hG0 hs
  have HC45 := Lib.hid C45
  clear C45 hG0 hG
  go_enter Tryz.func37, Tryz.ntmps37
  go_wp2_with fail
  refine HC45.out.mono ?_
  generalize w.alloc (.cells #[.slice none 0 0, .int .i64 0, .slice none 0 0] 74) = W at *
  rintro e1 w1 ⟨hb1, hr1⟩
  have HB1 := Lib.hid (bThen hb0 hb1)
  have HK1 := Lib.hid (blkDown hk0 hb1)
  have HS1 := Lib.hid hs0
  clear hb0 hk0 hs0 HC45
  cases hf : formL s.data.toList with
  | none =>
    rw [hf] at hr1
    obtain rfl := hr1
    have HP : Hid (packL s.data.toList xs = .error 4) := by show _ = _; unfold packL; rw [hf]
    have f0 := HK1.out.free 0
    have f1 := HK1.out.free 1
    have f2 := HK1.out.free 2
    have c0 := HK1.out.cell 0 rfl
    have c1 := HK1.out.cell 1 rfl
    have c2 := HK1.out.cell 2 rfl
    clear hf hb1
    go_wp2
    have k3 : Blk (((w1.setCell ⟨w.heap.size, 0, none⟩ (.slice none 0 0)).setCell ⟨w.heap.size, 1, none⟩ (.int .i64 0)).setCell ⟨w.heap.size, 2, none⟩ (.slice none 0 0)) w.heap.size 74 [.slice none 0 0, .int .i64 0, .slice none 0 0] := ((HK1.out.set 0 _).set 1 _).set 2 _
    have b3 := bSet (bSet (bSet HB1.out w.heap.size 0 (Nat.le_refl _) (.slice none 0 0)) w.heap.size 1 (Nat.le_refl _) (.int .i64 0)) w.heap.size 2 (Nat.le_refl _) (.slice none 0 0)
    generalize ((w1.setCell ⟨w.heap.size, 0, none⟩ (.slice none 0 0)).setCell ⟨w.heap.size, 1, none⟩ (.int .i64 0)).setCell ⟨w.heap.size, 2, none⟩ (.slice none 0 0) = w9 at *
    have g0 := k3.cell 0 rfl
    have g1 := k3.cell 1 rfl
    have g2 := k3.cell 2 rfl
    refine bodyPost_ret (v := .tuple #[.agg #[.slice none 0 0, .int .i64 0, .slice none 0 0], .int .i64 4]) (by simp [results, Tryz.results37, go_sem, g0, g1, g2]) rfl ?_
    unfold WriteR
    rw [HP.out]
    exact ⟨b3, rfl, by decide⟩
  | some ds =>
    rw [hf] at hr1
    obtain ⟨v, rfl, hds⟩ := hr1
    obtain ⟨al, cl, rfl⟩ := row_slice hds
    obtain ⟨hdl, hdok⟩ := formL_ok hf
    have HP : Hid (packL s.data.toList xs = runL xs ds ([], 0)) := by show _ = _; unfold packL; rw [hf]
    have HDOK := Lib.hid hdok
    have HDS := Lib.hid hds
    clear hf hds hdok hb1
    go_upto_region 5 with fail
    have hk2 := Blk.new w1 #[.slice p xs.length cap, .int .i64 0, .slice none 0 0] 74
    have hb2 := bSelf w1 (.cells #[.slice p xs.length cap, .int .i64 0, .slice none 0 0] 74)
    have hgw : w.heap.size < w1.heap.size := HK1.out.lt
    obtain ⟨gw, hgwe⟩ : ∃ gw, w1.heap.size = gw := ⟨_, rfl⟩
    rw [hgwe] at hk2 hgw ⊢
    have HGE := Lib.hid hgwe
    generalize w1.alloc (.cells #[.slice p xs.length cap, .int .i64 0, .slice none 0 0] 74) = W2 at *
    clear hgwe
    have hBW := Lib.hid (bThen HB1.out hb2)
    have HI2 := Lib.hid (HI.out.below hBW.out)
    have HDS2 : Hid (Ds W2 W.heap.size (.slice al ds.length cl) ds) := ownsRow_below HDS.out hb2
    have HK2 := Lib.hid (blkDown HK1.out hb2)
    have HKW := Lib.hid hk2
    have hw0 : Hid (Wr W2 w.heap.size gw (.slice p xs.length cap) 0 (.slice none 0 0) []) := ⟨hk2, World.ownsRow_nil _ _ _ _, by simp⟩
    have HNR := Lib.hid (fun g hg => WrS.notRow (B := w.heap.size) (g := g) HDS2.out hk2 (by decide) hg)
    have hgw2 : gw < W2.heap.size := hk2.lt
    have hdli : (ds.length : Int) ≤ 50 := by omega
    clear hb2 hk2 HDS HK1 HS1 HB1
    go_wp2_with fail
    go_loopw [24] (fun i wr => LoopW w.heap.size gw (.slice p xs.length cap) xs ds W2 i wr) (fun i _ => ds.length - (intOf i).toNat)
    case atStart => exact ⟨0, 0, .slice none 0 0, [], Nat.zero_le _, rfl, Nat.zero_le _, hw0, rfl, Kp.refl _ _⟩
    case round =>
      obtain ⟨j, u, bv, o, hj, rfl, hu, hw, hrun, hkp⟩ := hrel
      by_cases hlt : j < ds.length
      · have hlti : (j : Int) < ds.length := by omega
        obtain ⟨d, hd⟩ : ∃ d, ds[j]? = some d := ⟨ds[j], List.getElem?_eq_getElem hlt⟩
        have hdsr : Ds wr W.heap.size (.slice al ds.length cl) ds := hkp.out.row HDS2.out HNR.out
        obtain ⟨gl, cl', hsl, hgl, hcl⟩ := hdsr.cell hd
        simp only [Value.slice.injEq] at hsl
        obtain ⟨rfl, _, rfl⟩ := hsl
        have e0 : wr.cell? ⟨gl, j * 6, none⟩ = some (.int .u8 d.c.toNat) := hcl 0 _ rfl
        have e1 := hcl 1 _ rfl
        have e2 := hcl 2 _ rfl
        have e3 := hcl 3 _ rfl
        have e4 := hcl 4 _ rfl
        have e5 := hcl 5 _ rfl
        have hdf := (HDOK.out d (List.mem_of_getElem? hd)).fine
        have hdrop : ds.drop j = d :: ds.drop (j + 1) := by
          rw [List.drop_eq_getElem_cons hlt]; congr 1
          have := List.getElem?_eq_getElem hlt
          rw [hd] at this; exact (Option.some.inj this).symm
        have hr2 := hrun.out
        rw [hdrop] at hr2
        have HR2 : Hid ((match stepL xs d (o, u) with | .error e => .error e | .ok st' => runL xs (ds.drop (j + 1)) st') = runL xs ds ([], 0)) := hr2
        clear hr2 hdrop hd hdsr hcl hgl
        go_upto_region 8 with fail
        have hb3 := bSelf wr (.cells #[.int .u8 d.c.toNat, .bool (numC d.c), .int .i64 (sizeC d.c), .bool d.great, .bool d.all, .int .i64 d.n] 81)
        have hk3 := Blk.new wr #[.int .u8 d.c.toNat, .bool (numC d.c), .int .i64 (sizeC d.c), .bool d.great, .bool d.all, .int .i64 d.n] 81
        generalize wr.alloc (.cells #[.int .u8 d.c.toNat, .bool (numC d.c), .int .i64 (sizeC d.c), .bool d.great, .bool d.all, .int .i64 d.n] 81) = W3 at *
        obtain ⟨d0, d1, d2, d3, d4, d5⟩ := hk3.six
        have HK3 : Hid (Kp (WrS w.heap.size gw W2) W2 W3) := WrS.trans hkp.out (Kp.of _ hb3)
        have HW3 := Lib.hid (hw.out.below hb3)
        have hBB : Below w.heap.size w W3 := hBW.out.trans (HK3.out.below (fun g hg => WrS.ge (by omega) hg) (by have := hBW.out.size; omega))
        have C := t52 w.heap.size gw u _ bv o xs d W3 HW3.out (by omega) (HI.out.below hBB) hx hdf hu
        have HC := Lib.hid C
        have HUS := Lib.hid (stepL_used (xs := xs) (d := d) (o := o) hu)
        clear C hb3 hk3 hBB e0 e1 e2 e3 e4 e5 hw
        go_wp2_with fail
        refine HC.out.mono ?_
        rintro e2 w2 ⟨hk2, hr2⟩
        have HK4 : Hid (Kp (WrS w.heap.size gw W2) W2 w2) := WrS.trans HK3.out hk2
        clear hk2
        cases hres : stepL xs d (o, u) with
        | error y =>
          rw [hres] at hr2 HR2
          obtain ⟨rfl, hy⟩ := hr2
          have HP2 : Hid (packL s.data.toList xs = .error y) := by show _ = _; rw [HP.out]; exact HR2.out.symm
          have hyy : ((y : Int) == 0) = false := by rw [beq_eq_false_iff_ne]; omega
          have hyn : ((y : Int) != 0) = true := by simp only [bne, hyy, Bool.not_false]
          have HY := Lib.hid hy
          have kr := HK4.out.blk HK2.out (WrS.not HK2.out (by decide) (by omega))
          have HB4 := Lib.hid (hBW.out.trans (HK4.out.below (fun g hg => WrS.ge (by omega) hg) (by have := hBW.out.size; omega)))
          have f0 := kr.free 0
          have f1 := kr.free 1
          have f2 := kr.free 2
          have c0 := kr.cell 0 rfl
          have c1 := kr.cell 1 rfl
          have c2 := kr.cell 2 rfl
          have HKR := Lib.hid kr
          clear hres hy kr HR2
          go_wp2
          have k3 : Blk (((w2.setCell ⟨w.heap.size, 0, none⟩ (.slice none 0 0)).setCell ⟨w.heap.size, 1, none⟩ (.int .i64 0)).setCell ⟨w.heap.size, 2, none⟩ (.slice none 0 0)) w.heap.size 74 [.slice none 0 0, .int .i64 0, .slice none 0 0] := ((HKR.out.set 0 _).set 1 _).set 2 _
          have b3 := bSet (bSet (bSet HB4.out w.heap.size 0 (Nat.le_refl _) (.slice none 0 0)) w.heap.size 1 (Nat.le_refl _) (.int .i64 0)) w.heap.size 2 (Nat.le_refl _) (.slice none 0 0)
          generalize ((w2.setCell ⟨w.heap.size, 0, none⟩ (.slice none 0 0)).setCell ⟨w.heap.size, 1, none⟩ (.int .i64 0)).setCell ⟨w.heap.size, 2, none⟩ (.slice none 0 0) = w9 at *
          have g0 := k3.cell 0 rfl
          have g1 := k3.cell 1 rfl
          have g2 := k3.cell 2 rfl
          refine bodyPost_ret (v := .tuple #[.agg #[.slice none 0 0, .int .i64 0, .slice none 0 0], .int .i64 y]) (by simp [results, Tryz.results37, go_sem, g0, g1, g2]) rfl ?_
          unfold WriteR
          rw [HP2.out]
          exact ⟨b3, rfl, HY.out⟩
        | ok st =>
          rw [hres] at hr2 HR2
          obtain ⟨rfl, bv2, hw2⟩ := hr2
          have hus := HUS.out st hres
          have HW2 := Lib.hid hw2
          clear hres hw2
          go_wp2
          go_roundw
          case rel => exact ⟨j + 1, st.2, bv2, st.1, by omega, by go_num, hus, HW2, HR2, HK4⟩
          case measure => simp [intOf]; omega
      · obtain rfl : ds.length = j := by omega
        have hr2 := hrun.out
        rw [List.drop_length] at hr2
        have HP2 : Hid (packL s.data.toList xs = .ok (o, u)) := by show _ = _; rw [HP.out]; exact hr2.symm
        have kr := hkp.out.blk HK2.out (WrS.not HK2.out (by decide) (by omega))
        have HB4 := Lib.hid (hBW.out.trans (hkp.out.below (fun g hg => WrS.ge (by omega) hg) (by have := hBW.out.size; omega)))
        obtain ⟨ab, cb, rfl⟩ := row_slice hw.out.row
        obtain ⟨x0, x1, x2⟩ := hw.out.cells
        have f0 := kr.free 0
        have f1 := kr.free 1
        have f2 := kr.free 2
        have c0 := kr.cell 0 rfl
        have c1 := kr.cell 1 rfl
        have c2 := kr.cell 2 rfl
        have HKR := Lib.hid kr
        clear hr2 kr hlt
        go_wp2
        have k3 : Blk (((wr.setCell ⟨w.heap.size, 0, none⟩ (.slice p xs.length cap)).setCell ⟨w.heap.size, 1, none⟩ (.int .i64 u)).setCell ⟨w.heap.size, 2, none⟩ (.slice ab o.length cb)) w.heap.size 74 [.slice p xs.length cap, .int .i64 u, .slice ab o.length cb] := ((HKR.out.set 0 _).set 1 _).set 2 _
        have b3 := bSet (bSet (bSet HB4.out w.heap.size 0 (Nat.le_refl _) (.slice p xs.length cap)) w.heap.size 1 (Nat.le_refl _) (.int .i64 u)) w.heap.size 2 (Nat.le_refl _) (.slice ab o.length cb)
        have r3 := (((Kp.set wr w.heap.size 0 (.slice p xs.length cap)).trans (Kp.set _ w.heap.size 1 (.int .i64 u)) (fun g h => .inl h)).trans (Kp.set _ w.heap.size 2 (.slice ab o.length cb)) (fun g h => .inl h)).row hw.out.row (fun g' hg' e => by subst e; exact own_ne hw.out.row HKR.out (by decide) hg')
        generalize ((wr.setCell ⟨w.heap.size, 0, none⟩ (.slice p xs.length cap)).setCell ⟨w.heap.size, 1, none⟩ (.int .i64 u)).setCell ⟨w.heap.size, 2, none⟩ (.slice ab o.length cb) = w9 at *
        have g0 := k3.cell 0 rfl
        have g1 := k3.cell 1 rfl
        have g2 := k3.cell 2 rfl
        refine bodyPost_ret (v := .tuple #[.agg #[.slice p xs.length cap, .int .i64 u, .slice ab o.length cb], .int .i64 0]) (by simp [results, Tryz.results37, go_sem, g0, g1, g2]) rfl ?_
        unfold WriteR
        rw [HP2.out]
        exact ⟨b3, .slice ab o.length cb, rfl, r3, hw.out.big⟩
end Go.Proofs.YtmbnckmhngijdaaGreatDoor
