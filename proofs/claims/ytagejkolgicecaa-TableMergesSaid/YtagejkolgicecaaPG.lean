/- begun and played. -/
import Derived.Test.YtagejkolgicecaaPF
import Derived.Test.YtagejkolgicecaaJ
namespace Go.Proofs.Ytagejkolgicecaa
open Go Go.RowKit Go.Maps
structure Dd where
  d : Int
  a : Int
  b : Int
  ao : Option Addr
  cap : Nat
  ps : List (Int × Int)
  deriving Inhabited
structure Dd.Fine (x : Dd) (W : World) : Prop where
  wf : WF x.a
  rows : RowsO W x.ao x.ps
  len : x.ps.length ≤ x.cap
  cap : x.cap ≤ maxLen
  pwf : ∀ p ∈ x.ps, WF p.1 ∧ WF p.2
  lt : ∀ rb off, x.ao = some ⟨rb, off, none⟩ → 0 < x.ps.length → rb < W.heap.size
def DsP (w : World) (ao : Option Addr) (ds : List Dd) : Prop :=
  ∀ (j : Nat) (x : Dd), ds[j]? = some x → ∃ db off, ao = some ⟨db, off, none⟩ ∧ db < w.heap.size ∧ w.cell? ⟨db, off + j * 4, none⟩ = some (.int .i64 x.d) ∧ w.cell? ⟨db, off + j * 4 + 1, none⟩ = some (.int .i64 x.a) ∧ w.cell? ⟨db, off + j * 4 + 2, none⟩ = some (.int .i64 x.b) ∧ w.cell? ⟨db, off + j * 4 + 3, none⟩ = some (.slice x.ao x.ps.length x.cap) ∧ x.Fine w
theorem DsP.below {w w' : World} {ao : Option Addr} {ds : List Dd} (h : DsP w ao ds) (hb : Below w.heap.size w w') : DsP w' ao ds := fun j x hj => by
  obtain ⟨db, off, h1, h2, h3, h4, h5, h6, h7⟩ := h j x hj
  exact ⟨db, off, h1, Nat.lt_of_lt_of_le h2 hb.size, below_cell hb h3, below_cell hb h4, below_cell hb h5, below_cell hb h6, h7.wf, h7.rows.below hb, h7.len, h7.cap, h7.pwf, fun rb o e h0 => Nat.lt_of_lt_of_le (h7.lt rb o e h0) hb.size⟩
theorem Game.first (n t o r p : Nat) (f : Nat → Option Th) (h0 : f n = some (.t t Tb.new)) (h1 : f (n + 1) = some (.t o Tb.new)) (h2 : f (n + 2) = some (.r r Rt.new)) (h3 : f (n + 3) = some (.r p Rt.new)) : Game n 0 f t o r p Tb.new Tb.new Rt.new Rt.new :=
  ⟨h0, h1, h2, h3, ok_new, ok_new, ⟨_, Al.first⟩, ⟨_, Al.first⟩, Nat.le_refl _, Nat.le_refl _, Nat.le_refl _, Nat.le_refl _, Nat.le_refl _, Nat.le_refl _, Nat.zero_le _⟩
section
variable {P : Nat → Prop} {w0 w : World} {f : Nat → Option Th}
theorem Zoo.back {Q : Nat → Prop} {w1 w' : World} {f' : Nat → Option Th} (h : Zoo P w0 w1 f) (h' : Zoo Q w1 w' f') (hQ : ∀ k, k < w0.heap.size → P k → Q k) : Zoo P w0 w' f' := by
  obtain ⟨col', d1, d2, d3⟩ := h'.col
  have hs := h.tn.size
  exact ⟨⟨h'.tn.os.trans h.tn.os, h'.tn.tape.trans h.tn.tape, h'.tn.output.trans h.tn.output, Nat.le_trans h.tn.size h'.tn.size, fun k hk hP => (h'.tn.block k (by omega) (fun hc => hc (hQ k hk (Classical.byContradiction hP)))).trans (h.tn.block k hk hP)⟩,
    col', d1, fun k hk hP => d2 k (by omega) (hQ k hk hP), d3⟩
/-- a block of one's own is turned -/
theorem Zoo.own {w' : World} {g : Nat} (h : Zoo P w0 w f) (hg : P g) (hlt : g < w0.heap.size) (ht : Turn (fun i => i = g) w w') : Zoo (fun k => P k ∧ k ≠ g) w0 w' f := by
  obtain ⟨col, c1, c2, c3⟩ := h.col
  have hg0 := c2 g hlt hg
  have hs := h.tn.size
  refine ⟨⟨ht.os.trans h.tn.os, ht.tape.trans h.tn.tape, ht.output.trans h.tn.output, Nat.le_trans hs ht.size, fun k hk hP => ?_⟩, col, fun i hi => c1 i (by have := ht.size; omega), fun k hk hP => c2 k hk hP.1, fun c th hc => (c3 c th hc).turn ht (fun k hk e => by rw [e, hg0] at hk; omega)⟩
  have h1 : P k ∧ k ≠ g := Classical.byContradiction hP
  exact (ht.block k (by omega) h1.2).trans (h.tn.block k hk (fun hn => hn h1.1))
theorem znew (h : Zoo P w0 w f) (c : Nat) : Calls Try.prog 20 #[] w fun e w' => ∃ b, e = .returned (.pointer (some ⟨b, 0, none⟩)) ∧ Zoo P w0 w' (fset f c (.t b Tb.new)) := by
  refine (t20 (fun i => w.heap.size ≤ i) w (fun _ h => h)).mono ?_
  rintro e w' ⟨b, rfl, h1, h2, _⟩
  exact ⟨b, rfl, h.new (th := .t b Tb.new) h1 h2⟩
theorem znewR (h : Zoo P w0 w f) (c : Nat) : Calls Try.prog 35 #[] w fun e w' => ∃ b, e = .returned (.pointer (some ⟨b, 0, none⟩)) ∧ Zoo P w0 w' (fset f c (.r b Rt.new)) := by
  refine (t35 (fun i => w.heap.size ≤ i) w (fun _ h => h)).mono ?_
  rintro e w' ⟨b, rfl, h1, h2, _⟩
  exact ⟨b, rfl, h.new (th := .r b Rt.new) h1 h2⟩
def begunF (f : Nat → Option Th) (n t o r p : Nat) : Nat → Option Th := fset (fset (fset (fset f n (.t t Tb.new)) (n + 1) (.t o Tb.new)) (n + 2) (.r r Rt.new)) (n + 3) (.r p Rt.new)
theorem begunF_game (f : Nat → Option Th) (n t o r p : Nat) : Game n 0 (begunF f n t o r p) t o r p Tb.new Tb.new Rt.new Rt.new := by
  unfold begunF
  exact Game.first n t o r p _ (by simp [fset]) (by simp [fset]) (by simp [fset]) (by simp [fset])
theorem begunF_out (f : Nat → Option Th) (n t o r p : Nat) : ∀ j, (j < n ∨ n + 4 ≤ j) → begunF f n t o r p j = f j := fun j hj => by
  unfold begunF
  rw [fset_other _ _ (by omega), fset_other _ _ (by omega), fset_other _ _ (by omega), fset_other _ _ (by omega)]
def PairV (t o r p : Nat) : Value := .agg #[.pointer (some ⟨t, 0, none⟩), .pointer (some ⟨o, 0, none⟩), .pointer (some ⟨r, 0, none⟩), .pointer (some ⟨p, 0, none⟩)]
set_option maxRecDepth 100000 in
set_option maxHeartbeats 4000000 in
theorem t12 (h : Zoo P w0 w f) (n : Nat) : Calls Try.prog 12 #[] w fun e w' => ∃ t o r p, e = .returned (.tuple #[.agg #[.pointer (some ⟨t, 0, none⟩), .pointer (some ⟨o, 0, none⟩), .pointer (some ⟨r, 0, none⟩), .pointer (some ⟨p, 0, none⟩)], .bool true]) ∧ Zoo P w0 w' (begunF f n t o r p) := by
  have hb0 := bSelf w (.cells #[.pointer none, .pointer none, .pointer none, .pointer none] 26)
  obtain ⟨P', hz1, hP, hP2, -⟩ := h.base hb0
  have HZ1 := Lib.hid hz1
  have HBK := Lib.hid (h.below hb0)
  have HP2 := Lib.hid hP2
  have HSZ := Lib.hid h.tn.size
  have HPA : Hid (P' w.heap.size) := hP _ (Nat.le_refl _)
  have HK := Lib.hid (Blk.new w #[.pointer none, .pointer none, .pointer none, .pointer none] 26)
  clear h hz1 hP hP2 hb0
  go_enter Try.func12, Try.ntmps12
  go_wp2_with fail
  refine (znew HZ1.out n).mono ?_
  rintro e w1 ⟨t, rfl, h1⟩
  have H1 := Lib.hid h1
  clear h1
  go_wp2_with fail
  refine (znew H1.out (n + 1)).mono ?_
  rintro e w2 ⟨o, rfl, h2⟩
  have H2 := Lib.hid h2
  clear h2
  go_wp2_with fail
  refine (znewR H2.out (n + 2)).mono ?_
  rintro e w3 ⟨r, rfl, h3⟩
  have H3 := Lib.hid h3
  clear h3
  go_wp2_with fail
  refine (znewR H3.out (n + 3)).mono ?_
  rintro e w4 ⟨p, rfl, h4⟩
  have H4 := Lib.hid h4
  have hk4 := h4.row HPA.out HK.out
  clear h4
  have hlt := hk4.lt
  have c0 := hk4.cell 0 rfl
  have c1 := hk4.cell 1 rfl
  have c2 := hk4.cell 2 rfl
  have c3 := hk4.cell 3 rfl
  have HK4 := Lib.hid hk4
  clear hk4
  go_wp2_with fail
  have z5 := Blk.new w4 #[.pointer (some ⟨t, 0, none⟩), .pointer (some ⟨o, 0, none⟩), .pointer (some ⟨r, 0, none⟩), .pointer (some ⟨p, 0, none⟩)] 26
  have z4 := HK4.out.alloc (.cells #[.pointer (some ⟨t, 0, none⟩), .pointer (some ⟨o, 0, none⟩), .pointer (some ⟨r, 0, none⟩), .pointer (some ⟨p, 0, none⟩)] 26)
  have H5 := Lib.hid (H4.out.below (bSelf w4 (.cells #[.pointer (some ⟨t, 0, none⟩), .pointer (some ⟨o, 0, none⟩), .pointer (some ⟨r, 0, none⟩), .pointer (some ⟨p, 0, none⟩)] 26)))
  generalize w4.alloc (.cells #[.pointer (some ⟨t, 0, none⟩), .pointer (some ⟨o, 0, none⟩), .pointer (some ⟨r, 0, none⟩), .pointer (some ⟨p, 0, none⟩)] 26) = w5 at *
  have b0 := z5.cell 0 rfl
  have b1 := z5.cell 1 rfl
  have b2 := z5.cell 2 rfl
  have b3 := z5.cell 3 rfl
  have e0 := z4.cell 0 rfl
  have e1 := z4.cell 1 rfl
  have e2 := z4.cell 2 rfl
  have e3 := z4.cell 3 rfl
  have f0 := z4.free 0
  have f1 := z4.free 1
  have f2 := z4.free 2
  have f3 := z4.free 3
  have Z4 := Lib.hid z4
  have Z5 := Lib.hid z5
  clear z4 z5 c0 c1 c2 c3
  have hne : w.heap.size ≠ w4.heap.size := by omega
  go_region
  have B6 := (((Z4.out.set 0 (.pointer (some ⟨t, 0, none⟩))).set 1 (.pointer (some ⟨o, 0, none⟩))).set 2 (.pointer (some ⟨r, 0, none⟩))).set 3 (.pointer (some ⟨p, 0, none⟩))
  have T6 : Turn (fun q => q = w.heap.size) w5 ((((w5.setCell ⟨w.heap.size, 0, none⟩ (.pointer (some ⟨t, 0, none⟩))).setCell ⟨w.heap.size, 1, none⟩ (.pointer (some ⟨o, 0, none⟩))).setCell ⟨w.heap.size, 2, none⟩ (.pointer (some ⟨r, 0, none⟩))).setCell ⟨w.heap.size, 3, none⟩ (.pointer (some ⟨p, 0, none⟩))) := (((turnSet w5 w.heap.size 0 _).trans (turnSet _ w.heap.size 1 _)).trans (turnSet _ w.heap.size 2 _)).trans (turnSet _ w.heap.size 3 _)
  have HT6 := Lib.hid (T6.trans (Turn.of_below (Below.refl _ _).drew))
  have b6 := blkDown B6 ((Below.refl _ _).drew)
  clear T6 B6
  generalize ((((w5.setCell ⟨w.heap.size, 0, none⟩ (.pointer (some ⟨t, 0, none⟩))).setCell ⟨w.heap.size, 1, none⟩ (.pointer (some ⟨o, 0, none⟩))).setCell ⟨w.heap.size, 2, none⟩ (.pointer (some ⟨r, 0, none⟩))).setCell ⟨w.heap.size, 3, none⟩ (.pointer (some ⟨p, 0, none⟩))).drew = w6 at *
  have g0 := b6.cell 0 rfl
  have g1 := b6.cell 1 rfl
  have g2 := b6.cell 2 rfl
  have g3 := b6.cell 3 rfl
  clear b6
  go_wp2
  refine bodyPost_ret (by simp [results, Try.results12, go_sem, g0, g1, g2, g3]; try rfl) rfl ?_
  exact ⟨t, o, r, p, rfl, HBK.out.back (H5.out.own HPA.out (by simp) HT6.out) (fun k hk hP => ⟨HP2.out k hk hP, by have := HSZ.out; omega⟩)⟩

def PlayedP (w0 : World) (f : Nat → Option Th) (n : Nat) (e : Ending) (w' : World) : Prop :=
  ∃ t o r p S O R Q f' N, e = .returned (.tuple #[.agg #[.pointer (some ⟨t, 0, none⟩), .pointer (some ⟨o, 0, none⟩), .pointer (some ⟨r, 0, none⟩), .pointer (some ⟨p, 0, none⟩)], .bool true]) ∧ Zoo (fun _ => True) w0 w' f' ∧ Game n N f' t o r p S O R Q ∧ N ≤ 100 ∧ ∀ j, (j < n ∨ n + 4 ≤ j) → f' j = f j
set_option maxRecDepth 100000 in
set_option maxHeartbeats 16000000 in
theorem t16 (h : Zoo (fun _ => True) w0 w f) (n : Nat) (ao : Option Addr) (cap : Nat) (ds : List Dd) (hD : DsP w0 ao ds) (hl : ds.length ≤ 9223372036854775807) : Calls Try.prog 16 #[.slice ao ds.length cap] w (PlayedP w0 f n) := by
  have hb0 := bSelf w (.cells #[.pointer none, .pointer none, .pointer none, .pointer none] 26)
  obtain ⟨P1, hz1, hP, hP2, -⟩ := h.base hb0
  have C12 := Lib.hid (t12 hz1 n)
  have HBK := Lib.hid (h.below hb0)
  have HP2 : Hid (∀ k, k < w0.heap.size → P1 k) := fun k hk => hP2 k hk trivial
  have HSZ := Lib.hid h.tn.size
  have HPA : Hid (P1 w.heap.size) := hP _ (Nat.le_refl _)
  have HK := Lib.hid (Blk.new w #[.pointer none, .pointer none, .pointer none, .pointer none] 26)
  have HD := Lib.hid hD
  have hl' : (ds.length : Int) ≤ 9223372036854775807 := by omega
  have HS1 : Hid (w.heap.size < (w.alloc (.cells #[.pointer none, .pointer none, .pointer none, .pointer none] 26)).heap.size) := by show _ < _; simp
  clear h hz1 hP hP2 hb0 hD
  go_enter Try.func16, Try.ntmps16
  go_wp2_with fail
  refine C12.out.mono ?_
  clear C12
  rintro e w2 ⟨t, o, r, p, rfl, hz2⟩
  obtain ⟨P2, hz3, hQ, hQ2, -⟩ := hz2.base (bSelf w2 (.cells #[.pointer (some ⟨t, 0, none⟩), .pointer (some ⟨o, 0, none⟩), .pointer (some ⟨r, 0, none⟩), .pointer (some ⟨p, 0, none⟩)] 26))
  have HB3 := Lib.hid (((HBK.out.back hz2 (fun k hk _ => HP2.out k hk))).below (bSelf w2 (.cells #[.pointer (some ⟨t, 0, none⟩), .pointer (some ⟨o, 0, none⟩), .pointer (some ⟨r, 0, none⟩), .pointer (some ⟨p, 0, none⟩)] 26)))
  have HS2 := Lib.hid hz2.tn.size
  have HPP : Hid (∀ k, k < w0.heap.size → P2 k) := fun k hk => hQ2 k (by have := HSZ.out; have := HS1.out; omega) (HP2.out k hk)
  have HP2R : Hid (P2 w.heap.size) := hQ2 _ HS1.out HPA.out
  have HP4 : Hid (P2 w2.heap.size) := hQ _ (Nat.le_refl _)
  have hk2 := (hz2.row HPA.out HK.out).alloc (.cells #[.pointer (some ⟨t, 0, none⟩), .pointer (some ⟨o, 0, none⟩), .pointer (some ⟨r, 0, none⟩), .pointer (some ⟨p, 0, none⟩)] 26)
  have hk4 := Blk.new w2 #[.pointer (some ⟨t, 0, none⟩), .pointer (some ⟨o, 0, none⟩), .pointer (some ⟨r, 0, none⟩), .pointer (some ⟨p, 0, none⟩)] 26
  have HS3 : Hid (w2.heap.size < (w2.alloc (.cells #[.pointer (some ⟨t, 0, none⟩), .pointer (some ⟨o, 0, none⟩), .pointer (some ⟨r, 0, none⟩), .pointer (some ⟨p, 0, none⟩)] 26)).heap.size) := by show _ < _; simp
  have HKR := Lib.hid hk2
  have HKP := Lib.hid hk4
  have HZ0 := Lib.hid hz3
  have HG0 := Lib.hid (begunF_game f n t o r p)
  have HO0 := Lib.hid (begunF_out f n t o r p)
  clear hz2 hz3 hQ hQ2 hk2 hk4 HK
  go_wp2_with fail
  generalize w2.alloc (.cells #[.pointer (some ⟨t, 0, none⟩), .pointer (some ⟨o, 0, none⟩), .pointer (some ⟨r, 0, none⟩), .pointer (some ⟨p, 0, none⟩)] 26) = W3 at *
  go_loopw [6, 5] (fun i okv wr => ∃ (j : Nat) (S O : Tb) (R Q : Rt) (f' : Nat → Option Th), j ≤ 100 ∧ i = .int .i64 j ∧ okv = .bool true ∧ Hid (Zoo P2 W3 wr f') ∧ Hid (Game n j f' t o r p S O R Q) ∧ Hid (∀ j, (j < n ∨ n + 4 ≤ j) → f' j = f j)) (fun i _ _ => 100 - (intOf i).toNat)
  case atStart => exact ⟨0, _, _, _, _, _, Nat.zero_le _, rfl, rfl, HZ0, HG0, HO0⟩
  case round =>
    obtain ⟨j, S, O, R, Q, f', hj1, rfl, rfl, HZ, HG, HOUT⟩ := hrel
    clear HZ0 HG0 HO0
    have x0 := HZ.out.cell HP4.out (HKP.out.cell 0 rfl)
    have x1 := HZ.out.cell HP4.out (HKP.out.cell 1 rfl)
    have x2 := HZ.out.cell HP4.out (HKP.out.cell 2 rfl)
    have x3 := HZ.out.cell HP4.out (HKP.out.cell 3 rfl)
    by_cases hlt : j < ds.length
    · have hlt' : (j : Int) < ds.length := by omega
      by_cases h1 : j < 100
      · have h1' : (j : Int) < 100 := by omega
        obtain ⟨x, hg⟩ : ∃ x, ds[j]? = some x := ⟨_, List.getElem?_eq_getElem hlt⟩
        have hBw := (HB3.out.back HZ.out (fun k hk _ => HPP.out k hk)).end_
        have hfi0 : x.Fine w0 := by obtain ⟨_, _, _, _, _, _, _, _, h⟩ := HD.out j x hg; exact h
        obtain ⟨db, off, hae, hdb, d0, d1, d2, d3, hfi⟩ := (HD.out.below hBw) j x hg
        subst hae
        have C13 := Lib.hid (t13 wr.drew (HZ.out.below (Below.refl _ _).drew) HG.out (by omega) x.d x.a x.b hfi.wf x.ao x.ps.length x.cap x.ps rfl hfi.len hfi.cap (hfi.rows.below (Below.refl _ _).drew) (fun rb o e h0 => ⟨by have := hfi0.lt rb o e h0; have := HSZ.out; have := HS1.out; have := HS2.out; have := HS3.out; omega, HPP.out rb (hfi0.lt rb o e h0)⟩) hfi.pwf)
        clear hBw hfi hfi0 hg
        go_wp2_with fail
        go_region_law (go_simp; go_at_call 13; refine C13.out.mono ?_; rintro e w3 ⟨rfl, f2, S2, O2, R2, Q2, hz, hgm, hou⟩)
        all_goals
          have HZ2 := Lib.hid hz
          have HG2 := Lib.hid hgm
          have HO2 : Hid (∀ j, (j < n ∨ n + 4 ≤ j) → f2 j = f j) := fun q hq => (hou q hq).trans (HOUT.out q hq)
          clear hz hgm hou HZ HG HOUT C13
          go_wp2_with fail
          go_roundw
          case rel => exact ⟨j + 1, S2, O2, R2, Q2, f2, by omega, by go_num, rfl, HZ2, HG2, HO2⟩
          case measure => simp [intOf]; omega
      · have h1' : ¬ ((j : Int) < 100) := by omega
        have zr := HZ.out.row HP2R.out HKR.out
        have e0 := zr.cell 0 rfl
        have e1 := zr.cell 1 rfl
        have e2 := zr.cell 2 rfl
        have e3 := zr.cell 3 rfl
        have f0 := zr.free 0
        have f1 := zr.free 1
        have f2 := zr.free 2
        have f3 := zr.free 3
        have hne : w.heap.size ≠ w2.heap.size := by have := HS2.out; have := HS1.out; omega
        have ZR := Lib.hid zr
        clear zr
        go_wp2_with fail
        have B6 := (((ZR.out.set 0 (.pointer (some ⟨t, 0, none⟩))).set 1 (.pointer (some ⟨o, 0, none⟩))).set 2 (.pointer (some ⟨r, 0, none⟩))).set 3 (.pointer (some ⟨p, 0, none⟩))
        have T6 : Turn (fun q => q = w.heap.size) wr ((((wr.setCell ⟨w.heap.size, 0, none⟩ (.pointer (some ⟨t, 0, none⟩))).setCell ⟨w.heap.size, 1, none⟩ (.pointer (some ⟨o, 0, none⟩))).setCell ⟨w.heap.size, 2, none⟩ (.pointer (some ⟨r, 0, none⟩))).setCell ⟨w.heap.size, 3, none⟩ (.pointer (some ⟨p, 0, none⟩))) := (((turnSet wr w.heap.size 0 _).trans (turnSet _ w.heap.size 1 _)).trans (turnSet _ w.heap.size 2 _)).trans (turnSet _ w.heap.size 3 _)
        have HT6 := Lib.hid T6
        clear T6
        generalize (((wr.setCell ⟨w.heap.size, 0, none⟩ (.pointer (some ⟨t, 0, none⟩))).setCell ⟨w.heap.size, 1, none⟩ (.pointer (some ⟨o, 0, none⟩))).setCell ⟨w.heap.size, 2, none⟩ (.pointer (some ⟨r, 0, none⟩))).setCell ⟨w.heap.size, 3, none⟩ (.pointer (some ⟨p, 0, none⟩)) = w6 at *
        have g0 := B6.cell 0 rfl
        have g1 := B6.cell 1 rfl
        have g2 := B6.cell 2 rfl
        have g3 := B6.cell 3 rfl
        clear B6
        (try go_wp2)
        refine bodyPost_ret (by simp [results, Try.results16, go_sem, g0, g1, g2, g3]; try rfl) rfl ?_
        exact ⟨t, o, r, p, S, O, R, Q, f', j, rfl, HB3.out.back (HZ.out.own HP2R.out (by have := HS2.out; have := HS1.out; have := HS3.out; omega) HT6.out) (fun k hk _ => ⟨HPP.out k hk, by have := HSZ.out; omega⟩), HG.out, hj1, HOUT.out⟩
    · have hlt' : ¬ ((j : Int) < ds.length) := by omega
      have zr := HZ.out.row HP2R.out HKR.out
      have e0 := zr.cell 0 rfl
      have e1 := zr.cell 1 rfl
      have e2 := zr.cell 2 rfl
      have e3 := zr.cell 3 rfl
      have f0 := zr.free 0
      have f1 := zr.free 1
      have f2 := zr.free 2
      have f3 := zr.free 3
      have hne : w.heap.size ≠ w2.heap.size := by have := HS2.out; have := HS1.out; omega
      have ZR := Lib.hid zr
      clear zr
      go_wp2_with fail
      have B6 := (((ZR.out.set 0 (.pointer (some ⟨t, 0, none⟩))).set 1 (.pointer (some ⟨o, 0, none⟩))).set 2 (.pointer (some ⟨r, 0, none⟩))).set 3 (.pointer (some ⟨p, 0, none⟩))
      have T6 : Turn (fun q => q = w.heap.size) wr ((((wr.setCell ⟨w.heap.size, 0, none⟩ (.pointer (some ⟨t, 0, none⟩))).setCell ⟨w.heap.size, 1, none⟩ (.pointer (some ⟨o, 0, none⟩))).setCell ⟨w.heap.size, 2, none⟩ (.pointer (some ⟨r, 0, none⟩))).setCell ⟨w.heap.size, 3, none⟩ (.pointer (some ⟨p, 0, none⟩))) := (((turnSet wr w.heap.size 0 _).trans (turnSet _ w.heap.size 1 _)).trans (turnSet _ w.heap.size 2 _)).trans (turnSet _ w.heap.size 3 _)
      have HT6 := Lib.hid T6
      clear T6
      generalize (((wr.setCell ⟨w.heap.size, 0, none⟩ (.pointer (some ⟨t, 0, none⟩))).setCell ⟨w.heap.size, 1, none⟩ (.pointer (some ⟨o, 0, none⟩))).setCell ⟨w.heap.size, 2, none⟩ (.pointer (some ⟨r, 0, none⟩))).setCell ⟨w.heap.size, 3, none⟩ (.pointer (some ⟨p, 0, none⟩)) = w6 at *
      have g0 := B6.cell 0 rfl
      have g1 := B6.cell 1 rfl
      have g2 := B6.cell 2 rfl
      have g3 := B6.cell 3 rfl
      clear B6
      (try go_wp2)
      refine bodyPost_ret (by simp [results, Try.results16, go_sem, g0, g1, g2, g3]; try rfl) rfl ?_
      exact ⟨t, o, r, p, S, O, R, Q, f', j, rfl, HB3.out.back (HZ.out.own HP2R.out (by have := HS2.out; have := HS1.out; have := HS3.out; omega) HT6.out) (fun k hk _ => ⟨HPP.out k hk, by have := HSZ.out; omega⟩), HG.out, hj1, HOUT.out⟩
end
end Go.Proofs.Ytagejkolgicecaa
namespace Go.Proofs.Ytagejkolgicecaa
open Go Go.RowKit Go.Maps
theorem z14 {P : Nat → Prop} {w0 w : World} {f : Nat → Option Th} {n N t o r p : Nat} {S O : Tb} {R Q : Rt} (hz : Zoo P w0 w f) (hg : Game n N f t o r p S O R Q) (key : Int) (hk : WF key) :
    Calls Try.prog 14 #[.agg #[.pointer (some ⟨t, 0, none⟩), .pointer (some ⟨o, 0, none⟩), .pointer (some ⟨r, 0, none⟩), .pointer (some ⟨p, 0, none⟩)], .int .i64 key] w fun e w' => e = .returned (.bool true) ∧ Below w.heap.size w w' := by
  obtain ⟨F, hT⟩ := hz.get hg.ft
  obtain ⟨G, hR⟩ := hz.get hg.fr
  obtain ⟨Y, hA⟩ := hg.aS
  exact t14 w hT hR hA _ _ key hk
theorem own_base {w : World} {B : Nat} {v : Value} {n sz : Nat} {e : TypeId} {xs : List Value} (h : w.ownsRow B e sz v n xs) : w.ownsRow 0 e sz v n xs := by
  refine ⟨h.1, ?_⟩
  rcases h.2 with hn | ⟨g, cap, cur, rfl, hb, rest⟩
  · exact .inl hn
  · exact .inr ⟨g, cap, cur, rfl, Nat.zero_le _, rest⟩
end Go.Proofs.Ytagejkolgicecaa
