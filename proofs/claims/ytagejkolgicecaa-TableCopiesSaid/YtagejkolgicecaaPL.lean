/- TableCopies. -/
import Derived.Deep.RegionHeld3
import Derived.Deep.RegionLaw
import Derived.Test.YtagejkolgicecaaPG
namespace Go.Proofs.Ytagejkolgicecaa
open Go Go.RowKit Go.Maps
theorem Al.append {S : Tb} {R : Rt} {Y : List Yo} (h : Al S R Y) {k : Int} (v : Int) (hh : S.has k = false) (hw : ∀ x, S.wk x = none) {t : Nat} (h1 : 1 ≤ t) (h2 : t ≤ R.now) (h3 : ∀ y ∈ Y, y.t < t) :
    Al (S.set k v) { R with rows := R.rows ++ [(k, v, t)] } (Y ++ [⟨k, v, S.pt + 1, t⟩]) := by
  have hne : ∀ y ∈ Y, y.k ≠ k := fun y hy e => by have := h.has hy; rw [e, hh] at this; cases this
  rw [set_new v hh]
  refine ⟨by simp [h.ks], fun y hy => ?_, by simp [h.rows, Yo.r], ?_, fun y hy => ?_, h.st, h.fz, h.bg, h.op, fun x hx hw2 => h.wn x hx (hw x), fun x p _ hw2 => ?_⟩
  · rcases List.mem_append.1 hy with hy | hy
    · simp only [upd]; rw [if_neg (hne y hy)]; exact h.rw y hy
    · simp at hy; subst hy; simp [upd]
  · refine List.pairwise_append.2 ⟨h.inc, by simp, fun a ha b hb => ?_⟩
    simp at hb; subst hb; exact h3 a ha
  · rcases List.mem_append.1 hy with hy | hy
    · exact h.lo y hy
    · simp at hy; subst hy; exact ⟨h1, h2⟩
  · have h4 : S.wk x = some p := hw2
    rw [hw x] at h4; cases h4
def Rt.upto (R : Rt) (l : List RRow) : Rt := { rows := l, walks := [], now := R.now, st := false, fz := false }
theorem Al.copies {S : Tb} {R : Rt} {Y : List Yo} (h : Al S R Y) (hO : Ok S) : ∀ n, n ≤ Y.length → ∃ Y', Al (Tb.new.sets ((Y.take n).map (fun y => (y.k, y.v)))) (R.upto ((Y.take n).map Yo.r)) Y' ∧ Ok (Tb.new.sets ((Y.take n).map (fun y => (y.k, y.v)))) ∧ (Tb.new.sets ((Y.take n).map (fun y => (y.k, y.v)))).pt = n ∧ (Tb.new.sets ((Y.take n).map (fun y => (y.k, y.v)))).ks.length = n ∧ Y'.map Yo.t = (Y.take n).map Yo.t
  | 0, _ => ⟨[], ⟨rfl, by simp, rfl, by simp, by simp, rfl, rfl, rfl, rfl, fun x _ _ => by unfold Rt.on; split <;> simp [Rt.upto], fun x p _ h => by cases h⟩, ok_new, rfl, rfl, by simp⟩
  | n + 1, hn => by
    obtain ⟨Y', hA, hO', hp, hlen, ht⟩ := Al.copies h hO n (by omega)
    obtain ⟨y, hy⟩ : ∃ y, Y[n]? = some y := ⟨_, List.getElem?_eq_getElem (by omega)⟩
    have hym : y ∈ Y := List.mem_of_getElem? hy
    have e1 : Y.take (n + 1) = Y.take n ++ [y] := by rw [List.take_add_one, hy]; rfl
    have e2 : Tb.new.sets ((Y.take (n + 1)).map (fun y => (y.k, y.v))) = (Tb.new.sets ((Y.take n).map (fun y => (y.k, y.v)))).set y.k y.v := by
      rw [e1, List.map_append]; unfold Tb.sets; rw [List.foldl_append]; rfl
    have hnd := h.nd hO
    have hd : ∀ z ∈ Y.take n, z.k ≠ y.k := fun z hz e => by
      obtain ⟨i, hi, rfl⟩ := List.getElem_of_mem hz
      have hi2 : i < n := by rw [List.length_take] at hi; omega
      have h1 : (Y.map Yo.k)[i]? = some y.k := by rw [List.getElem?_map, List.getElem?_eq_getElem (by omega)]; simp [← e]
      have h2 : (Y.map Yo.k)[n]? = some y.k := by rw [List.getElem?_map, hy]; rfl
      obtain ⟨l1, f1⟩ := List.getElem?_eq_some_iff.1 h1
      obtain ⟨l2, f2⟩ := List.getElem?_eq_some_iff.1 h2
      have := (List.getElem_inj hnd).1 (f1.trans f2.symm)
      omega
    have hh : (Tb.new.sets ((Y.take n).map (fun y => (y.k, y.v)))).has y.k = false := by
      rw [has_sets _ _ _ (fun q hq => by obtain ⟨z, hz, rfl⟩ := List.mem_map.1 hq; exact hd z hz)]; rfl
    have hlt : ∀ z ∈ Y', z.t < y.t := fun z hz => by
      have h1 : z.t ∈ (Y.take n).map Yo.t := by rw [← ht]; exact List.mem_map_of_mem hz
      obtain ⟨x, hx, e⟩ := List.mem_map.1 h1
      obtain ⟨i, hi, rfl⟩ := List.getElem_of_mem hx
      have hi2 : i < n := by rw [List.length_take] at hi; omega
      have h3 := List.pairwise_iff_getElem.1 h.inc i n (by omega) (by omega) hi2
      rw [List.getElem_take] at e
      obtain ⟨_, e5⟩ := List.getElem?_eq_some_iff.1 hy
      rw [e5] at h3
      omega
    have hl5 : Y.length ≤ 500 := by have := hO.len; rw [h.ks, List.length_map] at this; exact this
    have hB := hA.append y.v hh (fun x => by rw [(sets_same Tb.new _).2.2.2.1]; rfl) (h.lo y hym).1 (h.lo y hym).2 hlt
    refine ⟨_, by rw [e2, e1, List.map_append]; exact hB, ?_, ?_, ?_, ?_⟩
    · rw [e2]; exact hO'.set (h.wf hO hym) y.v (fun _ => by omega)
    · rw [e2, set_new _ hh]; simp only; omega
    · rw [e2, len_set, hh, hlen]; rfl
    · rw [e1]; simp [ht]
theorem Al.copy {S : Tb} {R : Rt} {Y : List Yo} (h : Al S R Y) (hO : Ok S) : ∃ Y', Al (Tb.new.all S.rows) R.copy Y' ∧ Ok (Tb.new.all S.rows) ∧ (Tb.new.all S.rows).pt ≤ 500 ∧ (Tb.new.all S.rows).bg = 0 ∧ (Tb.new.all S.rows).fz = false ∧ (Tb.new.all S.rows).wk = (fun _ => none) := by
  have hl5 : Y.length ≤ 500 := by have := hO.len; rw [h.ks, List.length_map] at this; exact this
  obtain ⟨Y', hA, hO', hp, _, _⟩ := h.copies hO Y.length (Nat.le_refl _)
  have e0 : S.rows = Y.map (fun y => (y.k, y.v)) := by rw [← h.prs]; unfold Rt.prs; rw [h.rows, List.map_map]; rfl
  have hE : Tb.new.allE S.rows = 0 := by
    have h1 : Tb.new.cnt S.rows ≤ S.rows.length := List.countP_le_length
    have h2 : S.rows.length ≤ 500 := (rows_ok hO).2.2
    unfold Tb.allE Tb.closed
    simp [Tb.new] at h1 ⊢; omega
  rw [List.take_length] at hA hO' hp
  rw [all_ok hE, e0]
  obtain ⟨s1, s2, s3, s4, s5⟩ := sets_same Tb.new (Y.map (fun y => (y.k, y.v)))
  refine ⟨Y', ?_, hO', by omega, by rw [s5]; rfl, by rw [s1]; rfl, by rw [s4]; rfl⟩
  have e1 : R.copy = R.upto (Y.map Yo.r) := by unfold Rt.copy Rt.upto; rw [h.rows]
  rw [e1]; exact hA
section
variable {P : Nat → Prop} {w0 w : World} {f : Nat → Option Th} {c b r : Nat} {S : Tb} {R : Rt}
theorem zcopy (h : Zoo P w0 w f) (hc : f c = some (.t b S)) (d : Nat) : Calls Try.prog 32 #[.pointer (some ⟨b, 0, none⟩)] w fun e w' => ∃ b2, e = .returned (.pointer (some ⟨b2, 0, none⟩)) ∧ Zoo P w0 w' (fset f d (.t b2 (Tb.new.all S.rows))) := by
  obtain ⟨G, hG⟩ := h.get hc
  refine (t32 w hG).mono ?_
  rintro e w' ⟨b2, rfl, h1, h2⟩
  exact ⟨b2, rfl, h.new (th := .t b2 _) h1 h2⟩
theorem zcopyR (h : Zoo P w0 w f) (hc : f c = some (.r r R)) (hl : R.rows.length ≤ 500) (d : Nat) : Calls Try.prog 33 #[.pointer (some ⟨r, 0, none⟩)] w fun e w' => ∃ b2, e = .returned (.pointer (some ⟨b2, 0, none⟩)) ∧ Zoo P w0 w' (fset f d (.r b2 R.copy)) := by
  obtain ⟨G, hG⟩ := h.get hc
  by_cases hn : 0 < R.rows.length
  · refine (t33 w hG hl hn).mono ?_
    rintro e w' ⟨b2, rfl, h1, h2⟩
    exact ⟨b2, rfl, h.new (th := .r b2 _) h1 h2⟩
  · refine (t33e w hG (List.length_eq_zero_iff.1 (by omega))).mono ?_
    rintro e w' ⟨b2, rfl, h1, h2⟩
    exact ⟨b2, rfl, h.new (th := .r b2 _) h1 h2⟩
end
theorem Game.congr {n N t o r p : Nat} {f g : Nat → Option Th} {S O : Tb} {R Q : Rt} (h : Game n N f t o r p S O R Q) (e : ∀ j, n ≤ j → j < n + 4 → g j = f j) : Game n N g t o r p S O R Q :=
  ⟨(e _ (by omega) (by omega)).trans h.ft, (e _ (by omega) (by omega)).trans h.fo, (e _ (by omega) (by omega)).trans h.fr, (e _ (by omega) (by omega)).trans h.fp, h.okS, h.okO, h.aS, h.aO, h.b1, h.b2, h.b3, h.b4, h.b5, h.b6, h.b7⟩
set_option maxRecDepth 100000 in
set_option maxHeartbeats 16000000 in
theorem t9 (w : World) (ao : Option Addr) (cap : Nat) (ds : List Dd) (hD : DsP w ao ds) (hl : ds.length ≤ 9223372036854775807) (ao1 : Option Addr) (cap1 : Nat) (ms : List Dd) (hM : DsP w ao1 ms) (hl1 : ms.length ≤ 9223372036854775807) :
    Calls Try.prog 9 #[.slice ao ds.length cap, .slice ao1 ms.length cap1] w fun e w' => e = .returned (.bool true) ∧ Below w.heap.size w w' := by
  have C16 := Lib.hid (t16 (Zoo.start w) 0 ao cap ds hD hl)
  have HM := Lib.hid hM
  have hl1' : (ms.length : Int) ≤ 9223372036854775807 := by omega
  clear hD hM
  go_enter Try.func9, Try.ntmps9
  go_wp2_with fail
  refine C16.out.mono ?_
  clear C16
  rintro e w2 ⟨t, o, r, p, S, O, R, Q, f, N, rfl, hz2, hg, hN, -⟩
  have HG := Lib.hid hg
  have HN := Lib.hid hN
  have hb4 := bSelf w2 (.cells #[.pointer (some ⟨t, 0, none⟩), .pointer (some ⟨o, 0, none⟩), .pointer (some ⟨r, 0, none⟩), .pointer (some ⟨p, 0, none⟩)] 26)
  obtain ⟨P2, hzb, hQ, hQ2, -⟩ := hz2.base hb4
  have HZX := Lib.hid (hz2.below hb4)
  have HQ2 : Hid (∀ k, k < w.heap.size → P2 k) := fun k hk => hQ2 k hk trivial
  have HP4 : Hid (P2 w2.heap.size) := hQ _ (Nat.le_refl _)
  have hk4 := Blk.new w2 #[.pointer (some ⟨t, 0, none⟩), .pointer (some ⟨o, 0, none⟩), .pointer (some ⟨r, 0, none⟩), .pointer (some ⟨p, 0, none⟩)] 26
  have HKP := Lib.hid hk4
  have HZ0 := Lib.hid hzb
  clear hz2 hg hN hk4 hb4 hzb hQ hQ2
  obtain ⟨Y, hY⟩ := HG.out.aS
  obtain ⟨Y', hcA, hcO, hcp, hcb, hcf, hcw⟩ := hY.copy HG.out.okS
  have hprs : R.prs = S.rows := hY.prs
  have hcr : (Tb.new.all S.rows).rows = S.rows := by rw [← hcA.prs]; exact hprs
  obtain ⟨S4, hS4⟩ : ∃ x, x = Tb.new.all S.rows := ⟨_, rfl⟩
  have C32 := Lib.hid (zcopy HZ0.out HG.out.ft 4)
  rw [← hS4] at C32 hcA hcO hcp hcb hcf hcw hcr
  have HCA := Lib.hid hcA
  have HCO := Lib.hid hcO
  have HCP := Lib.hid hcp
  have HCB := Lib.hid hcb
  have HCF := Lib.hid hcf
  have HCW := Lib.hid hcw
  have HCR := Lib.hid hcr
  have HRL : Hid (R.rows.length ≤ 500) := by show _ ≤ _; rw [hY.len]; exact HG.out.okS.len
  clear hS4 hcA hcO hcp hcb hcf hcw hcr hprs hY
  go_wp2_with fail
  generalize w2.alloc (.cells #[.pointer (some ⟨t, 0, none⟩), .pointer (some ⟨o, 0, none⟩), .pointer (some ⟨r, 0, none⟩), .pointer (some ⟨p, 0, none⟩)] 26) = W3 at *
  have c0 := HKP.out.cell 0 rfl
  have c2 := HKP.out.cell 2 rfl
  (try go_wp2_with fail)
  refine C32.out.mono ?_
  clear C32
  rintro e w3 ⟨c, rfl, hz3⟩
  have C33 := Lib.hid (zcopyR hz3 (c := 2) (by rw [fset_other _ _ (by omega)]; exact HG.out.fr) HRL.out 6)
  have d0 := hz3.cell HP4.out c0
  have d2 := hz3.cell HP4.out c2
  clear hz3
  go_wp2_with fail
  refine C33.out.mono ?_
  clear C33
  rintro e w4 ⟨r2, rfl, hz4⟩
  have g0 := hz4.cell HP4.out c0
  have HZ4 := Lib.hid hz4
  have HF4 : Hid (fset (fset f 4 (.t c S4)) 6 (.r r2 R.copy) 4 = some (.t c S4)) := by show _ = _; rw [fset_other _ _ (by omega), fset_same]
  have HF0 : Hid (fset (fset f 4 (.t c S4)) 6 (.r r2 R.copy) 0 = some (.t t S)) := by show _ = _; rw [fset_other _ _ (by omega), fset_other _ _ (by omega)]; exact HG.out.ft
  have C34 := Lib.hid (by
    obtain ⟨G1, hG1⟩ := hz4.get HF4.out
    obtain ⟨G2, hG2⟩ := hz4.get HF0.out
    have h1 := t34 w4 hG1 hG2
    rw [decide_eq_true HCR.out] at h1
    exact h1)
  have C26 := Lib.hid (fun W (hb : Below w4.heap.size w4 W) => by
    obtain ⟨G1, hG1⟩ := (hz4.below hb).get HF4.out
    have h1 := t26 W hG1
    rw [HCF.out] at h1
    exact h1)
  clear hz4 d0 d2
  go_wp2_with (first | (go_at_call 34; refine C34.out.mono ?_; rintro e w5 ⟨rfl, hb5⟩) | (go_at_call 26; refine (C26.out _ hb5).mono ?_; rintro e w6 ⟨rfl, rfl⟩))
  have hz6 := HZ4.out.below hb5
  have hne : S4.nextE 0 = .returned (.tuple #[.int .i64 0, .int .i64 0, .int .i64 1]) := by unfold Tb.nextE tup3; rw [HCW.out]
  have hnx : S4.next 0 = S4 := by unfold Tb.next; rw [HCW.out]
  have C25 := Lib.hid (znext hz6 HF4.out (k := 0) (WalkArith.wf_i64 (by decide)))
  rw [hne, hnx] at C25
  clear hne hnx hb5 hz6 C34 C26
  refine C25.out.mono ?_
  clear C25
  rintro e w7 ⟨rfl, hz7, -⟩
  have C20 := Lib.hid (znew hz7 5)
  clear hz7 g0
  go_wp2_with fail
  refine C20.out.mono ?_
  clear C20
  rintro e w8 ⟨o2, rfl, hz8⟩
  have C35 := Lib.hid (znewR hz8 7)
  clear hz8
  go_wp2_with fail
  refine C35.out.mono ?_
  clear C35
  rintro e w9 ⟨p2, rfl, hz9⟩
  have hb9 := bSelf w9 (.cells #[.pointer (some ⟨c, 0, none⟩), .pointer (some ⟨o2, 0, none⟩), .pointer (some ⟨r2, 0, none⟩), .pointer (some ⟨p2, 0, none⟩)] 26)
  obtain ⟨P5, hza, hQ, hQ5, -⟩ := hz9.base hb9
  have HZX9 := Lib.hid (HZX.out.back (hz9.below hb9) (fun k hk _ => HQ2.out k hk))
  have HQ5 : Hid (∀ k, k < w.heap.size → P5 k) := fun k hk => hQ5 k (by have := HZX.out.tn.size; omega) (HQ2.out k hk)
  have HP12 : Hid (P5 w9.heap.size) := hQ _ (Nat.le_refl _)
  have HPP5 : Hid (P5 w2.heap.size) := hQ5 _ HKP.out.lt HP4.out
  have HK12 := Lib.hid (Blk.new w9 #[.pointer (some ⟨c, 0, none⟩), .pointer (some ⟨o2, 0, none⟩), .pointer (some ⟨r2, 0, none⟩), .pointer (some ⟨p2, 0, none⟩)] 26)
  have hkb := (hz9.below hb9).row HP4.out HKP.out
  have HKPb := Lib.hid (⟨hkb.cell 0 rfl, hkb.cell 1 rfl, hkb.cell 2 rfl, hkb.cell 3 rfl⟩ : _ ∧ _ ∧ _ ∧ _)
  have HZ9 := Lib.hid hza
  have HG9 : Hid (Game 4 101 (fset (fset (fset (fset (fset f 4 (.t c S4)) 6 (.r r2 R.copy)) 4 (.t c S4)) 5 (.t o2 Tb.new)) 7 (.r p2 Rt.new)) c o2 r2 p2 S4 Tb.new R.copy Rt.new) :=
    ⟨by simp [fset], by simp [fset], by simp [fset], by simp [fset], HCO.out, ok_new, ⟨_, HCA.out⟩, ⟨_, Al.first⟩, by have := HCP.out; omega, by have h1 : R.copy.now = R.now := rfl
                                                                                                                                                 rw [h1]; have := HG.out.b2; have := HN.out; omega, by simp [Tb.new], by simp [Rt.new], by have := HCB.out; omega, by simp [Tb.new], by omega⟩
  have HF9 : Hid (∀ q, q < 0 + 4 → fset (fset (fset (fset (fset f 4 (.t c S4)) 6 (.r r2 R.copy)) 4 (.t c S4)) 5 (.t o2 Tb.new)) 7 (.r p2 Rt.new) q = f q) := fun q hq => by
    rw [fset_other _ _ (by omega), fset_other _ _ (by omega), fset_other _ _ (by omega), fset_other _ _ (by omega), fset_other _ _ (by omega)]
  clear hz9 hza hQ hQ5 hb9 hkb HZ4 HF4 HF0 HCA HCO HCP HCB HCF HCW HCR
  generalize fset (fset (fset (fset (fset f 4 (.t c S4)) 6 (.r r2 R.copy)) 4 (.t c S4)) 5 (.t o2 Tb.new)) 7 (.r p2 Rt.new) = f9 at *
  go_wp2_with fail
  generalize w9.alloc (.cells #[.pointer (some ⟨c, 0, none⟩), .pointer (some ⟨o2, 0, none⟩), .pointer (some ⟨r2, 0, none⟩), .pointer (some ⟨p2, 0, none⟩)] 26) = W6 at *
  have HO9 : Hid (∀ q, q < 0 + 4 → f9 q = f9 q) := fun _ _ => rfl
  go_loopw [13, 6] (fun i okv wr => ∃ (j : Nat) (S O : Tb) (R Q : Rt) (f' : Nat → Option Th), j ≤ 100 ∧ i = .int .i64 j ∧ okv = .bool true ∧ Hid (Zoo P5 W6 wr f') ∧ Hid (Game 4 (101 + j) f' c o2 r2 p2 S O R Q) ∧ Hid (∀ q, q < 0 + 4 → f' q = f9 q)) (fun i _ _ => 100 - (intOf i).toNat)
  case atStart => exact ⟨0, _, _, _, _, _, Nat.zero_le _, rfl, rfl, HZ9, HG9, HO9⟩
  case round =>
    obtain ⟨j, S1, O1, R1, Q1, f1, hj1, rfl, rfl, HZ, HG1, HOU⟩ := hrel
    clear HZ9 HG9 HO9
    have xc0 := HZ.out.cell HP12.out (HK12.out.cell 0 rfl)
    have xc1 := HZ.out.cell HP12.out (HK12.out.cell 1 rfl)
    have xc2 := HZ.out.cell HP12.out (HK12.out.cell 2 rfl)
    have xc3 := HZ.out.cell HP12.out (HK12.out.cell 3 rfl)
    by_cases hlt : j < ms.length
    · have hlt' : (j : Int) < ms.length := by omega
      by_cases h1 : j < 100
      · have h1' : (j : Int) < 100 := by omega
        obtain ⟨x, hg⟩ : ∃ x, ms[j]? = some x := ⟨_, List.getElem?_eq_getElem hlt⟩
        have hBw := (HZX9.out.back HZ.out (fun k hk _ => HQ5.out k hk)).end_
        have hfi0 : x.Fine w := by obtain ⟨_, _, _, _, _, _, _, _, h⟩ := HM.out j x hg; exact h
        obtain ⟨db, off, hae, hdb, d0, d1, d2, d3, hfi⟩ := (HM.out.below hBw) j x hg
        subst hae
        have C13 := Lib.hid (t13 wr.drew (HZ.out.below (Below.refl _ _).drew) HG1.out (by omega) x.d x.a x.b hfi.wf x.ao x.ps.length x.cap x.ps rfl hfi.len hfi.cap (hfi.rows.below (Below.refl _ _).drew) (fun rb o e h0 => ⟨by have := hfi0.lt rb o e h0; have := HZX9.out.tn.size; omega, HQ5.out rb (hfi0.lt rb o e h0)⟩) hfi.pwf)
        clear hBw hfi hfi0 hg
        go_wp2_with fail
        go_region_law (go_simp; go_at_call 13; refine C13.out.mono ?_; rintro e w3 ⟨rfl, f2, S2, O2, R2, Q2, hz, hgm, hou⟩)
        all_goals
          have HZ2 := Lib.hid hz
          have HG2 := Lib.hid hgm
          have HO2 : Hid (∀ q, q < 0 + 4 → f2 q = f9 q) := fun q hq => (hou q (.inl (by omega))).trans (HOU.out q hq)
          clear hz hgm hou HZ HG1 HOU C13
          go_wp2_with fail
          go_roundw
          case rel => exact ⟨j + 1, S2, O2, R2, Q2, f2, by omega, by go_num, rfl, HZ2, HG2, HO2⟩
          case measure => simp [intOf]; omega
      · have h1' : ¬ ((j : Int) < 100) := by omega
        have HGq := Lib.hid HG1.out
        have HG0 := Lib.hid (HG.out.congr (g := f1) (fun q _ hq => (HOU.out q hq).trans (HF9.out q hq)))
        have xt0 := HZ.out.cell HPP5.out HKPb.out.1
        have xt1 := HZ.out.cell HPP5.out HKPb.out.2.1
        have xt2 := HZ.out.cell HPP5.out HKPb.out.2.2.1
        have xt3 := HZ.out.cell HPP5.out HKPb.out.2.2.2
        have C14q := Lib.hid (fun W (hb : Below wr.heap.size wr W) => z14 (HZ.out.below hb) HGq.out 0 (WalkArith.wf_i64 (by decide)))
        have C14p := Lib.hid (fun W (hb : Below wr.heap.size wr W) => z14 (HZ.out.below hb) HG0.out 0 (WalkArith.wf_i64 (by decide)))
        obtain ⟨Ya, hYa⟩ := HGq.out.aS
        obtain ⟨Yb, hYb⟩ := HG0.out.aS
        obtain ⟨bb, hbb⟩ : ∃ b, b = decide (S.rows = S1.rows) := ⟨_, rfl⟩
        have C34 := Lib.hid (fun W (hb : Below wr.heap.size wr W) => (by
          obtain ⟨G1, hG1⟩ := (HZ.out.below hb).get HG0.out.ft
          obtain ⟨G2, hG2⟩ := (HZ.out.below hb).get HGq.out.ft
          rw [hbb]
          exact t34 W hG1 hG2 : Calls Try.prog 34 #[.pointer (some ⟨t, 0, none⟩), .pointer (some ⟨c, 0, none⟩)] W fun e w' => e = .returned (.bool bb) ∧ Below W.heap.size W w'))
        have C36 := Lib.hid (fun W (hb : Below wr.heap.size wr W) => (by
          obtain ⟨G1, hG1⟩ := (HZ.out.below hb).get HG0.out.fr
          obtain ⟨G2, hG2⟩ := (HZ.out.below hb).get HGq.out.fr
          have h1 := t36 W hG1 hG2 (by rw [hYb.len]; exact HG0.out.okS.len) (by rw [hYa.len]; exact HGq.out.okS.len)
          rw [hYb.prs, hYa.prs] at h1
          rw [hbb]
          exact h1 : Calls Try.prog 36 #[.pointer (some ⟨r, 0, none⟩), .pointer (some ⟨r2, 0, none⟩)] W fun e w' => e = .returned (.bool bb) ∧ Below W.heap.size W w'))
        have HBE := Lib.hid (HZX9.out.back HZ.out (fun k hk _ => HQ5.out k hk)).end_
        have hbq : (bb == bb) = true := by cases bb <;> rfl
        clear hYa hYb hbb
        have qc0 := below_drew_cell xc0
        have qc1 := below_drew_cell xc1
        have qc2 := below_drew_cell xc2
        have qc3 := below_drew_cell xc3
        have qt0 := below_drew_cell xt0
        have qt1 := below_drew_cell xt1
        have qt2 := below_drew_cell xt2
        have qt3 := below_drew_cell xt3
        have HD0 : Hid (Below wr.heap.size wr wr.drew) := (Below.refl _ _).drew
        go_wp2_with fail
        go_region_held3 (fun w' => w'.cell? ⟨w9.heap.size, 0, none⟩ = some (.pointer (some ⟨c, 0, none⟩)) ∧ w'.cell? ⟨w9.heap.size, 1, none⟩ = some (.pointer (some ⟨o2, 0, none⟩)) ∧ w'.cell? ⟨w9.heap.size, 2, none⟩ = some (.pointer (some ⟨r2, 0, none⟩)) ∧ w'.cell? ⟨w9.heap.size, 3, none⟩ = some (.pointer (some ⟨p2, 0, none⟩)) ∧ w'.cell? ⟨w2.heap.size, 0, none⟩ = some (.pointer (some ⟨t, 0, none⟩)) ∧ w'.cell? ⟨w2.heap.size, 1, none⟩ = some (.pointer (some ⟨o, 0, none⟩)) ∧ w'.cell? ⟨w2.heap.size, 2, none⟩ = some (.pointer (some ⟨r, 0, none⟩)) ∧ w'.cell? ⟨w2.heap.size, 3, none⟩ = some (.pointer (some ⟨p, 0, none⟩)))
          (first
            | (with_reducible exact ⟨qc0, qc1, qc2, qc3, qt0, qt1, qt2, qt3⟩)
            | (with_reducible exact ⟨hc0, hc1, hc2, hc3, ht0, ht1, ht2, ht3⟩)
            | (with_reducible exact ⟨ic0, ic1, ic2, ic3, it0, it1, it2, it3⟩)
            | (with_reducible exact ⟨kc0, kc1, kc2, kc3, kt0, kt1, kt2, kt3⟩)
            | (with_reducible exact ⟨lc0, lc1, lc2, lc3, lt0, lt1, lt2, lt3⟩)
            | (with_reducible exact ⟨mc0, mc1, mc2, mc3, mt0, mt1, mt2, mt3⟩)
            | fail "nokeep")
          (first
            | (go_at_call 14; (with_reducible refine (C14q.out _ HD0.out).mono ?_); rintro e wA ⟨rfl, hbA⟩; have hc0 := below_cell hbA qc0; have hc1 := below_cell hbA qc1; have hc2 := below_cell hbA qc2; have hc3 := below_cell hbA qc3; have ht0 := below_cell hbA qt0; have ht1 := below_cell hbA qt1; have ht2 := below_cell hbA qt2; have ht3 := below_cell hbA qt3; have HDA := Lib.hid (bThen HD0.out hbA); clear hbA)
            | (go_at_call 14; (with_reducible refine (C14p.out _ HDA.out).mono ?_); rintro e wB ⟨rfl, hbB⟩; have ic0 := below_cell hbB hc0; have ic1 := below_cell hbB hc1; have ic2 := below_cell hbB hc2; have ic3 := below_cell hbB hc3; have it0 := below_cell hbB ht0; have it1 := below_cell hbB ht1; have it2 := below_cell hbB ht2; have it3 := below_cell hbB ht3; have HDB := Lib.hid (bThen HDA.out hbB); clear hbB)
            | (go_at_call 34; (with_reducible refine (C34.out _ HDB.out).mono ?_); rintro e wC ⟨rfl, hbC⟩; have kc0 := below_cell hbC ic0; have kc1 := below_cell hbC ic1; have kc2 := below_cell hbC ic2; have kc3 := below_cell hbC ic3; have kt0 := below_cell hbC it0; have kt1 := below_cell hbC it1; have kt2 := below_cell hbC it2; have kt3 := below_cell hbC it3; have HDC := Lib.hid (bThen HDB.out hbC); clear hbC)
            | (go_at_call 36; (with_reducible refine (C36.out _ HDC.out).mono ?_); rintro e wD ⟨rfl, hbD⟩; have lc0 := below_cell hbD kc0; have lc1 := below_cell hbD kc1; have lc2 := below_cell hbD kc2; have lc3 := below_cell hbD kc3; have lt0 := below_cell hbD kt0; have lt1 := below_cell hbD kt1; have lt2 := below_cell hbD kt2; have lt3 := below_cell hbD kt3; have HDD := Lib.hid (bThen HDC.out hbD); clear hbD)
            | (go_at_call 15; (with_reducible refine (t15 _).mono ?_); rintro e wE ⟨rfl, hbE⟩; have mc0 := below_cell hbE lc0; have mc1 := below_cell hbE lc1; have mc2 := below_cell hbE lc2; have mc3 := below_cell hbE lc3; have mt0 := below_cell hbE lt0; have mt1 := below_cell hbE lt1; have mt2 := below_cell hbE lt2; have mt3 := below_cell hbE lt3; have HDE := Lib.hid (bThen HDD.out hbE); clear hbE)
            | fail "noarm")
        all_goals (try go_wp2)
        all_goals go_ret
        all_goals exact ⟨rfl, HBE.out.trans (HDE.out.mono HBE.out.size)⟩
    · have hlt' : ¬ ((j : Int) < ms.length) := by omega
      have HGq := Lib.hid HG1.out
      have HG0 := Lib.hid (HG.out.congr (g := f1) (fun q _ hq => (HOU.out q hq).trans (HF9.out q hq)))
      have xt0 := HZ.out.cell HPP5.out HKPb.out.1
      have xt1 := HZ.out.cell HPP5.out HKPb.out.2.1
      have xt2 := HZ.out.cell HPP5.out HKPb.out.2.2.1
      have xt3 := HZ.out.cell HPP5.out HKPb.out.2.2.2
      have C14q := Lib.hid (fun W (hb : Below wr.heap.size wr W) => z14 (HZ.out.below hb) HGq.out 0 (WalkArith.wf_i64 (by decide)))
      have C14p := Lib.hid (fun W (hb : Below wr.heap.size wr W) => z14 (HZ.out.below hb) HG0.out 0 (WalkArith.wf_i64 (by decide)))
      obtain ⟨Ya, hYa⟩ := HGq.out.aS
      obtain ⟨Yb, hYb⟩ := HG0.out.aS
      obtain ⟨bb, hbb⟩ : ∃ b, b = decide (S.rows = S1.rows) := ⟨_, rfl⟩
      have C34 := Lib.hid (fun W (hb : Below wr.heap.size wr W) => (by
        obtain ⟨G1, hG1⟩ := (HZ.out.below hb).get HG0.out.ft
        obtain ⟨G2, hG2⟩ := (HZ.out.below hb).get HGq.out.ft
        rw [hbb]
        exact t34 W hG1 hG2 : Calls Try.prog 34 #[.pointer (some ⟨t, 0, none⟩), .pointer (some ⟨c, 0, none⟩)] W fun e w' => e = .returned (.bool bb) ∧ Below W.heap.size W w'))
      have C36 := Lib.hid (fun W (hb : Below wr.heap.size wr W) => (by
        obtain ⟨G1, hG1⟩ := (HZ.out.below hb).get HG0.out.fr
        obtain ⟨G2, hG2⟩ := (HZ.out.below hb).get HGq.out.fr
        have h1 := t36 W hG1 hG2 (by rw [hYb.len]; exact HG0.out.okS.len) (by rw [hYa.len]; exact HGq.out.okS.len)
        rw [hYb.prs, hYa.prs] at h1
        rw [hbb]
        exact h1 : Calls Try.prog 36 #[.pointer (some ⟨r, 0, none⟩), .pointer (some ⟨r2, 0, none⟩)] W fun e w' => e = .returned (.bool bb) ∧ Below W.heap.size W w'))
      have HBE := Lib.hid (HZX9.out.back HZ.out (fun k hk _ => HQ5.out k hk)).end_
      have hbq : (bb == bb) = true := by cases bb <;> rfl
      clear hYa hYb hbb
      have qc0 := below_drew_cell xc0
      have qc1 := below_drew_cell xc1
      have qc2 := below_drew_cell xc2
      have qc3 := below_drew_cell xc3
      have qt0 := below_drew_cell xt0
      have qt1 := below_drew_cell xt1
      have qt2 := below_drew_cell xt2
      have qt3 := below_drew_cell xt3
      have HD0 : Hid (Below wr.heap.size wr wr.drew) := (Below.refl _ _).drew
      go_wp2_with fail
      go_region_held3 (fun w' => w'.cell? ⟨w9.heap.size, 0, none⟩ = some (.pointer (some ⟨c, 0, none⟩)) ∧ w'.cell? ⟨w9.heap.size, 1, none⟩ = some (.pointer (some ⟨o2, 0, none⟩)) ∧ w'.cell? ⟨w9.heap.size, 2, none⟩ = some (.pointer (some ⟨r2, 0, none⟩)) ∧ w'.cell? ⟨w9.heap.size, 3, none⟩ = some (.pointer (some ⟨p2, 0, none⟩)) ∧ w'.cell? ⟨w2.heap.size, 0, none⟩ = some (.pointer (some ⟨t, 0, none⟩)) ∧ w'.cell? ⟨w2.heap.size, 1, none⟩ = some (.pointer (some ⟨o, 0, none⟩)) ∧ w'.cell? ⟨w2.heap.size, 2, none⟩ = some (.pointer (some ⟨r, 0, none⟩)) ∧ w'.cell? ⟨w2.heap.size, 3, none⟩ = some (.pointer (some ⟨p, 0, none⟩)))
        (first
          | (with_reducible exact ⟨qc0, qc1, qc2, qc3, qt0, qt1, qt2, qt3⟩)
          | (with_reducible exact ⟨hc0, hc1, hc2, hc3, ht0, ht1, ht2, ht3⟩)
          | (with_reducible exact ⟨ic0, ic1, ic2, ic3, it0, it1, it2, it3⟩)
          | (with_reducible exact ⟨kc0, kc1, kc2, kc3, kt0, kt1, kt2, kt3⟩)
          | (with_reducible exact ⟨lc0, lc1, lc2, lc3, lt0, lt1, lt2, lt3⟩)
          | (with_reducible exact ⟨mc0, mc1, mc2, mc3, mt0, mt1, mt2, mt3⟩)
          | fail "nokeep")
        (first
          | (go_at_call 14; (with_reducible refine (C14q.out _ HD0.out).mono ?_); rintro e wA ⟨rfl, hbA⟩; have hc0 := below_cell hbA qc0; have hc1 := below_cell hbA qc1; have hc2 := below_cell hbA qc2; have hc3 := below_cell hbA qc3; have ht0 := below_cell hbA qt0; have ht1 := below_cell hbA qt1; have ht2 := below_cell hbA qt2; have ht3 := below_cell hbA qt3; have HDA := Lib.hid (bThen HD0.out hbA); clear hbA)
          | (go_at_call 14; (with_reducible refine (C14p.out _ HDA.out).mono ?_); rintro e wB ⟨rfl, hbB⟩; have ic0 := below_cell hbB hc0; have ic1 := below_cell hbB hc1; have ic2 := below_cell hbB hc2; have ic3 := below_cell hbB hc3; have it0 := below_cell hbB ht0; have it1 := below_cell hbB ht1; have it2 := below_cell hbB ht2; have it3 := below_cell hbB ht3; have HDB := Lib.hid (bThen HDA.out hbB); clear hbB)
          | (go_at_call 34; (with_reducible refine (C34.out _ HDB.out).mono ?_); rintro e wC ⟨rfl, hbC⟩; have kc0 := below_cell hbC ic0; have kc1 := below_cell hbC ic1; have kc2 := below_cell hbC ic2; have kc3 := below_cell hbC ic3; have kt0 := below_cell hbC it0; have kt1 := below_cell hbC it1; have kt2 := below_cell hbC it2; have kt3 := below_cell hbC it3; have HDC := Lib.hid (bThen HDB.out hbC); clear hbC)
          | (go_at_call 36; (with_reducible refine (C36.out _ HDC.out).mono ?_); rintro e wD ⟨rfl, hbD⟩; have lc0 := below_cell hbD kc0; have lc1 := below_cell hbD kc1; have lc2 := below_cell hbD kc2; have lc3 := below_cell hbD kc3; have lt0 := below_cell hbD kt0; have lt1 := below_cell hbD kt1; have lt2 := below_cell hbD kt2; have lt3 := below_cell hbD kt3; have HDD := Lib.hid (bThen HDC.out hbD); clear hbD)
          | (go_at_call 15; (with_reducible refine (t15 _).mono ?_); rintro e wE ⟨rfl, hbE⟩; have mc0 := below_cell hbE lc0; have mc1 := below_cell hbE lc1; have mc2 := below_cell hbE lc2; have mc3 := below_cell hbE lc3; have mt0 := below_cell hbE lt0; have mt1 := below_cell hbE lt1; have mt2 := below_cell hbE lt2; have mt3 := below_cell hbE lt3; have HDE := Lib.hid (bThen HDD.out hbE); clear hbE)
          | fail "noarm")
      all_goals (try go_wp2)
      all_goals go_ret
      all_goals exact ⟨rfl, HBE.out.trans (HDE.out.mono HBE.out.size)⟩

end Go.Proofs.Ytagejkolgicecaa
