/- TableMerges: played behind a world that has other tables. -/
import Derived.Test.YtagejkolgicecaaPG
namespace Go.Proofs.Ytagejkolgicecaa
open Go Go.RowKit Go.Maps
section
variable {P : Nat → Prop} {w0 w : World} {f : Nat → Option Th}
def PlayedG (P : Nat → Prop) (w0 : World) (f : Nat → Option Th) (n : Nat) (e : Ending) (w' : World) : Prop :=
  ∃ t o r p S O R Q f' N, e = .returned (.tuple #[.agg #[.pointer (some ⟨t, 0, none⟩), .pointer (some ⟨o, 0, none⟩), .pointer (some ⟨r, 0, none⟩), .pointer (some ⟨p, 0, none⟩)], .bool true]) ∧ Zoo P w0 w' f' ∧ Game n N f' t o r p S O R Q ∧ N ≤ 100 ∧ ∀ j, (j < n ∨ n + 4 ≤ j) → f' j = f j
set_option maxRecDepth 100000 in
set_option maxHeartbeats 16000000 in
theorem t16g {wB : World} (h : Zoo P w0 w f) (hB : Below wB.heap.size wB w0) (hPB : ∀ k, k < wB.heap.size → P k) (n : Nat) (ao : Option Addr) (cap : Nat) (ds : List Dd) (hD : DsP wB ao ds) (hl : ds.length ≤ 9223372036854775807) : Calls Try.prog 16 #[.slice ao ds.length cap] w (PlayedG P w0 f n) := by
  have hb0 := bSelf w (.cells #[.pointer none, .pointer none, .pointer none, .pointer none] 26)
  obtain ⟨P1, hz1, hP, hP2, -⟩ := h.base hb0
  have C12 := Lib.hid (t12 hz1 n)
  have HBK := Lib.hid (h.below hb0)
  have HP2 : Hid (∀ k, k < wB.heap.size → P1 k) := fun k hk => hP2 k (by have := hB.size; omega) (hPB k hk)
  have HPQ := Lib.hid hP2
  have HBB := Lib.hid hB
  have HPB := Lib.hid hPB
  have HSB := Lib.hid hB.size
  have HSZ := Lib.hid h.tn.size
  have HPA : Hid (P1 w.heap.size) := hP _ (Nat.le_refl _)
  have HK := Lib.hid (Blk.new w #[.pointer none, .pointer none, .pointer none, .pointer none] 26)
  have HD := Lib.hid hD
  have hl' : (ds.length : Int) ≤ 9223372036854775807 := by omega
  have HS1 : Hid (w.heap.size < (w.alloc (.cells #[.pointer none, .pointer none, .pointer none, .pointer none] 26)).heap.size) := by show _ < _; simp
  clear h hz1 hP hP2 hb0 hD hB hPB
  go_enter Try.func16, Try.ntmps16
  go_wp2_with fail
  refine C12.out.mono ?_
  clear C12
  rintro e w2 ⟨t, o, r, p, rfl, hz2⟩
  obtain ⟨P2, hz3, hQ, hQ2, -⟩ := hz2.base (bSelf w2 (.cells #[.pointer (some ⟨t, 0, none⟩), .pointer (some ⟨o, 0, none⟩), .pointer (some ⟨r, 0, none⟩), .pointer (some ⟨p, 0, none⟩)] 26))
  have HB3 := Lib.hid (((HBK.out.back hz2 (fun k hk hp => HPQ.out k hk hp))).below (bSelf w2 (.cells #[.pointer (some ⟨t, 0, none⟩), .pointer (some ⟨o, 0, none⟩), .pointer (some ⟨r, 0, none⟩), .pointer (some ⟨p, 0, none⟩)] 26)))
  have HS2 := Lib.hid hz2.tn.size
  have HPP : Hid (∀ k, k < wB.heap.size → P2 k) := fun k hk => hQ2 k (by have := HSZ.out; have := HS1.out; have := HSB.out; omega) (HP2.out k hk)
  have HPR : Hid (∀ k, k < w0.heap.size → P k → P2 k) := fun k hk hp => hQ2 k (by have := HSZ.out; have := HS1.out; omega) (HPQ.out k hk hp)
  have HP2R : Hid (P2 w.heap.size) := hQ2 _ HS1.out HPA.out
  have HP4 : Hid (P2 w2.heap.size) := hQ _ (Nat.le_refl _)
  have hk2 := (hz2.row HPA.out HK.out).alloc (.cells #[.pointer (some ⟨t, 0, none⟩), .pointer (some ⟨o, 0, none⟩), .pointer (some ⟨r, 0, none⟩), .pointer (some ⟨p, 0, none⟩)] 26)
  have hk4 := Blk.new w2 #[.pointer (some ⟨t, 0, none⟩), .pointer (some ⟨o, 0, none⟩), .pointer (some ⟨r, 0, none⟩), .pointer (some ⟨p, 0, none⟩)] 26
  have HS3 : Hid (w2.heap.size < (w2.alloc (.cells #[.pointer (some ⟨t, 0, none⟩), .pointer (some ⟨o, 0, none⟩), .pointer (some ⟨r, 0, none⟩), .pointer (some ⟨p, 0, none⟩)] 26)).heap.size) := by show _ < _; simp
  have HKR := Lib.hid hk2
  have HKP := Lib.hid hk4
  have HZ0 := Lib.hid hz3
  have HG0 := Lib.hid (begunF_game f n t o r p)
  have HO0 := Lib.hid (begunF_out f n t o r p)
  clear hz2 hz3 hQ hQ2 hk2 hk4 HK
  go_wp2_with fail
  generalize w2.alloc (.cells #[.pointer (some ⟨t, 0, none⟩), .pointer (some ⟨o, 0, none⟩), .pointer (some ⟨r, 0, none⟩), .pointer (some ⟨p, 0, none⟩)] 26) = W3 at *
  go_loopw [6, 5] (fun i okv wr => ∃ (j : Nat) (S O : Tb) (R Q : Rt) (f' : Nat → Option Th), j ≤ 100 ∧ i = .int .i64 j ∧ okv = .bool true ∧ Hid (Zoo P2 W3 wr f') ∧ Hid (Game n j f' t o r p S O R Q) ∧ Hid (∀ j, (j < n ∨ n + 4 ≤ j) → f' j = f j)) (fun i _ _ => 100 - (intOf i).toNat)
  case atStart => exact ⟨0, _, _, _, _, _, Nat.zero_le _, rfl, rfl, HZ0, HG0, HO0⟩
  case round =>
    obtain ⟨j, S, O, R, Q, f', hj1, rfl, rfl, HZ, HG, HOUT⟩ := hrel
    clear HZ0 HG0 HO0
    have x0 := HZ.out.cell HP4.out (HKP.out.cell 0 rfl)
    have x1 := HZ.out.cell HP4.out (HKP.out.cell 1 rfl)
    have x2 := HZ.out.cell HP4.out (HKP.out.cell 2 rfl)
    have x3 := HZ.out.cell HP4.out (HKP.out.cell 3 rfl)
    by_cases hlt : j < ds.length
    · have hlt' : (j : Int) < ds.length := by omega
      by_cases h1 : j < 100
      · have h1' : (j : Int) < 100 := by omega
        obtain ⟨x, hg⟩ : ∃ x, ds[j]? = some x := ⟨_, List.getElem?_eq_getElem hlt⟩
        have hBw := HBB.out.trans ((HB3.out.back HZ.out HPR.out).tn.below HSB.out (fun k hk => Classical.byContradiction (fun h9 => hk (HPB.out k (by omega)))))
        have hfi0 : x.Fine wB := by obtain ⟨_, _, _, _, _, _, _, _, h⟩ := HD.out j x hg; exact h
        obtain ⟨db, off, hae, hdb, d0, d1, d2, d3, hfi⟩ := (HD.out.below hBw) j x hg
        subst hae
        have C13 := Lib.hid (t13 wr.drew (HZ.out.below (Below.refl _ _).drew) HG.out (by omega) x.d x.a x.b hfi.wf x.ao x.ps.length x.cap x.ps rfl hfi.len hfi.cap (hfi.rows.below (Below.refl _ _).drew) (fun rb o e h0 => ⟨by have := hfi0.lt rb o e h0; have := HSB.out; have := HSZ.out; have := HS1.out; have := HS2.out; have := HS3.out; omega, HPP.out rb (hfi0.lt rb o e h0)⟩) hfi.pwf)
        clear hBw hfi hfi0 hg
        go_wp2_with fail
        go_region_law (go_simp; go_at_call 13; refine C13.out.mono ?_; rintro e w3 ⟨rfl, f2, S2, O2, R2, Q2, hz, hgm, hou⟩)
        all_goals
          have HZ2 := Lib.hid hz
          have HG2 := Lib.hid hgm
          have HO2 : Hid (∀ j, (j < n ∨ n + 4 ≤ j) → f2 j = f j) := fun q hq => (hou q hq).trans (HOUT.out q hq)
          clear hz hgm hou HZ HG HOUT C13
          go_wp2_with fail
          go_roundw
          case rel => exact ⟨j + 1, S2, O2, R2, Q2, f2, by omega, by go_num, rfl, HZ2, HG2, HO2⟩
          case measure => simp [intOf]; omega
      · have h1' : ¬ ((j : Int) < 100) := by omega
        have zr := HZ.out.row HP2R.out HKR.out
        have e0 := zr.cell 0 rfl
        have e1 := zr.cell 1 rfl
        have e2 := zr.cell 2 rfl
        have e3 := zr.cell 3 rfl
        have f0 := zr.free 0
        have f1 := zr.free 1
        have f2 := zr.free 2
        have f3 := zr.free 3
        have hne : w.heap.size ≠ w2.heap.size := by have := HS2.out; have := HS1.out; omega
        have ZR := Lib.hid zr
        clear zr
        go_wp2_with fail
        have B6 := (((ZR.out.set 0 (.pointer (some ⟨t, 0, none⟩))).set 1 (.pointer (some ⟨o, 0, none⟩))).set 2 (.pointer (some ⟨r, 0, none⟩))).set 3 (.pointer (some ⟨p, 0, none⟩))
        have T6 : Turn (fun q => q = w.heap.size) wr ((((wr.setCell ⟨w.heap.size, 0, none⟩ (.pointer (some ⟨t, 0, none⟩))).setCell ⟨w.heap.size, 1, none⟩ (.pointer (some ⟨o, 0, none⟩))).setCell ⟨w.heap.size, 2, none⟩ (.pointer (some ⟨r, 0, none⟩))).setCell ⟨w.heap.size, 3, none⟩ (.pointer (some ⟨p, 0, none⟩))) := (((turnSet wr w.heap.size 0 _).trans (turnSet _ w.heap.size 1 _)).trans (turnSet _ w.heap.size 2 _)).trans (turnSet _ w.heap.size 3 _)
        have HT6 := Lib.hid T6
        clear T6
        generalize (((wr.setCell ⟨w.heap.size, 0, none⟩ (.pointer (some ⟨t, 0, none⟩))).setCell ⟨w.heap.size, 1, none⟩ (.pointer (some ⟨o, 0, none⟩))).setCell ⟨w.heap.size, 2, none⟩ (.pointer (some ⟨r, 0, none⟩))).setCell ⟨w.heap.size, 3, none⟩ (.pointer (some ⟨p, 0, none⟩)) = w6 at *
        have g0 := B6.cell 0 rfl
        have g1 := B6.cell 1 rfl
        have g2 := B6.cell 2 rfl
        have g3 := B6.cell 3 rfl
        clear B6
        (try go_wp2)
        refine bodyPost_ret (by simp [results, Try.results16, go_sem, g0, g1, g2, g3]; try rfl) rfl ?_
        exact ⟨t, o, r, p, S, O, R, Q, f', j, rfl, HB3.out.back (HZ.out.own HP2R.out (by have := HS2.out; have := HS1.out; have := HS3.out; omega) HT6.out) (fun k hk hp => ⟨HPR.out k hk hp, by have := HSZ.out; omega⟩), HG.out, hj1, HOUT.out⟩
    · have hlt' : ¬ ((j : Int) < ds.length) := by omega
      have zr := HZ.out.row HP2R.out HKR.out
      have e0 := zr.cell 0 rfl
      have e1 := zr.cell 1 rfl
      have e2 := zr.cell 2 rfl
      have e3 := zr.cell 3 rfl
      have f0 := zr.free 0
      have f1 := zr.free 1
      have f2 := zr.free 2
      have f3 := zr.free 3
      have hne : w.heap.size ≠ w2.heap.size := by have := HS2.out; have := HS1.out; omega
      have ZR := Lib.hid zr
      clear zr
      go_wp2_with fail
      have B6 := (((ZR.out.set 0 (.pointer (some ⟨t, 0, none⟩))).set 1 (.pointer (some ⟨o, 0, none⟩))).set 2 (.pointer (some ⟨r, 0, none⟩))).set 3 (.pointer (some ⟨p, 0, none⟩))
      have T6 : Turn (fun q => q = w.heap.size) wr ((((wr.setCell ⟨w.heap.size, 0, none⟩ (.pointer (some ⟨t, 0, none⟩))).setCell ⟨w.heap.size, 1, none⟩ (.pointer (some ⟨o, 0, none⟩))).setCell ⟨w.heap.size, 2, none⟩ (.pointer (some ⟨r, 0, none⟩))).setCell ⟨w.heap.size, 3, none⟩ (.pointer (some ⟨p, 0, none⟩))) := (((turnSet wr w.heap.size 0 _).trans (turnSet _ w.heap.size 1 _)).trans (turnSet _ w.heap.size 2 _)).trans (turnSet _ w.heap.size 3 _)
      have HT6 := Lib.hid T6
      clear T6
      generalize (((wr.setCell ⟨w.heap.size, 0, none⟩ (.pointer (some ⟨t, 0, none⟩))).setCell ⟨w.heap.size, 1, none⟩ (.pointer (some ⟨o, 0, none⟩))).setCell ⟨w.heap.size, 2, none⟩ (.pointer (some ⟨r, 0, none⟩))).setCell ⟨w.heap.size, 3, none⟩ (.pointer (some ⟨p, 0, none⟩)) = w6 at *
      have g0 := B6.cell 0 rfl
      have g1 := B6.cell 1 rfl
      have g2 := B6.cell 2 rfl
      have g3 := B6.cell 3 rfl
      clear B6
      (try go_wp2)
      refine bodyPost_ret (by simp [results, Try.results16, go_sem, g0, g1, g2, g3]; try rfl) rfl ?_
      exact ⟨t, o, r, p, S, O, R, Q, f', j, rfl, HB3.out.back (HZ.out.own HP2R.out (by have := HS2.out; have := HS1.out; have := HS3.out; omega) HT6.out) (fun k hk hp => ⟨HPR.out k hk hp, by have := HSZ.out; omega⟩), HG.out, hj1, HOUT.out⟩
end
theorem Game.congr' {n N t o r p : Nat} {f g : Nat → Option Th} {S O : Tb} {R Q : Rt} (h : Game n N f t o r p S O R Q) (e : ∀ j, n ≤ j → j < n + 4 → g j = f j) : Game n N g t o r p S O R Q :=
  ⟨(e _ (by omega) (by omega)).trans h.ft, (e _ (by omega) (by omega)).trans h.fo, (e _ (by omega) (by omega)).trans h.fr, (e _ (by omega) (by omega)).trans h.fp, h.okS, h.okO, h.aS, h.aO, h.b1, h.b2, h.b3, h.b4, h.b5, h.b6, h.b7⟩
theorem set_self {S : Tb} {k : Int} (hh : S.has k = true) : S.set k (S.vl k) = S := by
  rw [set_has _ hh]
  have e : upd S.rw k (some (S.vl k, S.pl k)) = S.rw := by
    funext y
    unfold upd
    by_cases h : y = k
    · rw [if_pos h, h]
      unfold Tb.has at hh
      unfold Tb.vl Tb.pl
      cases hr : S.rw k with
      | none => rw [hr] at hh; cases hh
      | some x => rfl
    · rw [if_neg h]
  rw [e]
theorem sets_self {S : Tb} : ∀ (l : List Int), (∀ k ∈ l, S.has k = true) → S.sets (l.map (fun k => (k, S.vl k))) = S
  | [], _ => rfl
  | k :: l, h => by
    show Tb.sets (S.set k (S.vl k)) (l.map (fun k => (k, S.vl k))) = S
    rw [set_self (h k (List.mem_cons_self ..))]
    exact sets_self l (fun x hx => h x (List.mem_cons_of_mem _ hx))
theorem all_self {S : Tb} (hO : Ok S) : S.allE S.rows = (if S.fz then 13 else 0) ∧ S.all S.rows = S := by
  have hh : ∀ k ∈ S.ks, S.has k = true := fun k hk => (hO.mem k (hO.wf k hk)).2 hk
  have hc : S.cnt S.rows = 0 := by
    unfold Tb.cnt
    rw [List.countP_eq_zero]
    intro y hy
    obtain ⟨k, hk, rfl⟩ := List.mem_map.1 hy
    simp [hh k hk]
  have hl := hO.len
  have hs : S.sets S.rows = S := sets_self S.ks hh
  cases hf : S.fz with
  | true =>
    have hE : S.allE S.rows = 13 := by unfold Tb.allE; rw [hf]; rfl
    exact ⟨hE, all_of hE (by decide)⟩
  | false =>
    have hE : S.allE S.rows = 0 := by unfold Tb.allE; rw [hf, hc]; simp; omega
    exact ⟨hE, by rw [all_ok hE]; exact hs⟩
theorem all_nil {S : Tb} (hO : Ok S) : S.allE [] = (if S.fz then 13 else 0) ∧ S.all [] = S := by
  have hl := hO.len
  have hc : S.cnt [] = 0 := rfl
  cases hf : S.fz with
  | true =>
    have hE : S.allE [] = 13 := by unfold Tb.allE; rw [hf]; rfl
    exact ⟨hE, all_of hE (by decide)⟩
  | false =>
    have hE : S.allE [] = 0 := by unfold Tb.allE; rw [hf, hc]; simp; omega
    exact ⟨hE, by rw [all_ok hE]; rfl⟩
theorem rw_set_other (S : Tb) (k v : Int) {x : Int} (h : x ≠ k) : (S.set k v).rw x = S.rw x := by
  unfold Tb.set
  split <;> (simp only [upd]; rw [if_neg h])
theorem rw_sets_other (ps : List (Int × Int)) : ∀ (S : Tb) {x : Int}, (∀ p ∈ ps, p.1 ≠ x) → (S.sets ps).rw x = S.rw x := by
  induction ps with
  | nil => intro S x _; rfl
  | cons p ps ih =>
    intro S x h
    show (Tb.sets (S.set p.1 p.2) ps).rw x = _
    rw [ih _ (fun q hq => h q (List.mem_cons_of_mem _ hq)), rw_set_other _ _ _ (fun e => h p (List.mem_cons_self ..) e.symm)]
theorem sets_getE (ps : List (Int × Int)) : ∀ (S : Tb), ps.Pairwise (fun x y => x.1 ≠ y.1) → ∀ k v, (k, v) ∈ ps → (S.sets ps).getE k = .returned (.tuple #[.int .i64 v, .int .i64 0]) := by
  induction ps with
  | nil => intro S _ k v h; cases h
  | cons p ps ih =>
    intro S hd k v h
    obtain ⟨h1, h2⟩ := List.pairwise_cons.1 hd
    rcases List.mem_cons.1 h with e | h
    · subst e
      have e2 : (Tb.sets (S.set k v) ps).rw k = (S.set k v).rw k := rw_sets_other ps _ (fun q hq => fun e => h1 q hq e.symm)
      have e3 : ∃ z, (S.set k v).rw k = some (v, z) := by
        unfold Tb.set; split <;> exact ⟨_, by simp only [upd, if_true]; rfl⟩
      obtain ⟨z, hz⟩ := e3
      show Tb.getE (Tb.sets (S.set k v) ps) k = _
      unfold Tb.getE Tb.has Tb.vl
      rw [e2, hz]; rfl
    · exact ih (S.set p.1 p.2) h2 k v h
end Go.Proofs.Ytagejkolgicecaa
