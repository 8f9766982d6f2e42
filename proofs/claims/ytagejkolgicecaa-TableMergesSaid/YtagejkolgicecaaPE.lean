/- A deed at both tables. -/
import Derived.Deep.RegionHeld3
import Derived.Deep.RegionLaw
import Derived.Test.YtagejkolgicecaaPD
namespace Go.Proofs.Ytagejkolgicecaa
open Go Go.RowKit Go.Maps
def DoesP (P : Nat → Prop) (w0 : World) (n N : Nat) (f : Nat → Option Th) (t o r p : Nat) (e : Ending) (w' : World) : Prop :=
  e = .returned (.bool true) ∧ ∃ f' S' O' R' Q', Zoo P w0 w' f' ∧ Game n (N + 1) f' t o r p S' O' R' Q' ∧ ∀ j, (j < n ∨ n + 4 ≤ j) → f' j = f j
section
variable {P : Nat → Prop} {w0 : World} {n N : Nat} {f : Nat → Option Th} {t o r p : Nat} {S O : Tb} {R Q : Rt}
theorem Game.same (h : Game n N f t o r p S O R Q) (hN : N < 900) : Game n (N + 1) f t o r p S O R Q :=
  ⟨h.ft, h.fo, h.fr, h.fp, h.okS, h.okO, h.aS, h.aO, by have := h.b1; omega, by have := h.b2; omega, by have := h.b3; omega, by have := h.b4; omega, by have := h.b5; omega, by have := h.b6; omega, by omega⟩
theorem Game.turned (h : Game n N f t o r p S O R Q) (hN : N < 900) {S' : Tb} {R' : Rt} (hO : Ok S') (hA : ∃ Y, Al S' R' Y) (h1 : S'.pt ≤ S.pt + 500) (h2 : R'.now ≤ R.now + 500) (h3 : S'.bg ≤ S.bg + 1) :
    Game n (N + 1) (fset (fset f n (.t t S')) (n + 2) (.r r R')) t o r p S' O R' Q :=
  ⟨by rw [fset_other _ _ (by omega), fset_same], by rw [fset_other _ _ (by omega), fset_other _ _ (by omega)]; exact h.fo, by rw [fset_same], by rw [fset_other _ _ (by omega), fset_other _ _ (by omega)]; exact h.fp, hO, h.okO, hA, h.aO,
    by have := h.b1; omega, by have := h.b2; omega, by have := h.b3; omega, by have := h.b4; omega, by have := h.b5; omega, by have := h.b6; omega, by omega⟩
theorem Game.turned2 (h : Game n N f t o r p S O R Q) (hN : N < 900) {O' : Tb} {Q' : Rt} (hO : Ok O') (hA : ∃ Y, Al O' Q' Y) (h1 : O'.pt ≤ O.pt + 500) (h2 : Q'.now ≤ Q.now + 500) (h3 : O'.bg ≤ O.bg + 1) :
    Game n (N + 1) (fset (fset f (n + 1) (.t o O')) (n + 3) (.r p Q')) t o r p S O' R Q' :=
  ⟨by rw [fset_other _ _ (by omega), fset_other _ _ (by omega)]; exact h.ft, by rw [fset_other _ _ (by omega), fset_same], by rw [fset_other _ _ (by omega), fset_other _ _ (by omega)]; exact h.fr, by rw [fset_same], h.okS, hO, h.aS, hA,
    by have := h.b1; omega, by have := h.b2; omega, by have := h.b3; omega, by have := h.b4; omega, by have := h.b5; omega, by have := h.b6; omega, by omega⟩
theorem outside (a b : Th) (f : Nat → Option Th) (n : Nat) (i k : Nat) (hi : i < 4) (hk : k < 4) : ∀ j, (j < n ∨ n + 4 ≤ j) → fset (fset f (n + i) a) (n + k) b j = f j := fun j hj => by
  rw [fset_other _ _ (by omega), fset_other _ _ (by omega)]
theorem DoesP.turned {w' : World} (h : Game n N f t o r p S O R Q) (hN : N < 900) {S' : Tb} {R' : Rt} (hz : Zoo P w0 w' (fset (fset f n (.t t S')) (n + 2) (.r r R'))) (hO : Ok S') (hA : ∃ Y, Al S' R' Y) (h1 : S'.pt ≤ S.pt + 500) (h2 : R'.now ≤ R.now + 500) (h3 : S'.bg ≤ S.bg + 1) :
    DoesP P w0 n N f t o r p (.returned (.bool true)) w' :=
  ⟨rfl, _, S', O, R', Q, hz, h.turned hN hO hA h1 h2 h3, outside _ _ f n 0 2 (by decide) (by decide)⟩
theorem DoesP.turned2 {w' : World} (h : Game n N f t o r p S O R Q) (hN : N < 900) {O' : Tb} {Q' : Rt} (hz : Zoo P w0 w' (fset (fset f (n + 1) (.t o O')) (n + 3) (.r p Q'))) (hO : Ok O') (hA : ∃ Y, Al O' Q' Y) (h1 : O'.pt ≤ O.pt + 500) (h2 : Q'.now ≤ Q.now + 500) (h3 : O'.bg ≤ O.bg + 1) :
    DoesP P w0 n N f t o r p (.returned (.bool true)) w' :=
  ⟨rfl, _, S, O', R, Q', hz, h.turned2 hN hO hA h1 h2 h3, outside _ _ f n 1 3 (by decide) (by decide)⟩
theorem Al.lens {S : Tb} {R : Rt} {Y : List Yo} (h : Al S R Y) {N : Nat} (hb : S.bg ≤ N) (hN : N ≤ 900) : R.walks.length ≤ 1000 := by have := h.bg; omega
theorem bg_all (S : Tb) (rs : List (Int × Int)) : (S.all rs).bg = S.bg := by
  unfold Tb.all; split
  · exact (sets_same S rs).2.2.2.2
  · rfl
theorem Zoo.rows {P : Nat → Prop} {w0 w : World} {f : Nat → Option Th} (h : Zoo P w0 w f) {ao : Option Addr} {ps : List (Int × Int)} (hr : RowsO w0 ao ps) (hp : ∀ rb off, ao = some ⟨rb, off, none⟩ → 0 < ps.length → P rb) : RowsO w ao ps := fun j k v hj => by
  obtain ⟨rb, off, e, h1, h2⟩ := hr j k v hj
  have h3 : 0 < ps.length := by have := (List.getElem?_eq_some_iff.1 hj).1; omega
  exact ⟨rb, off, e, h.cell (hp rb off e h3) h1, h.cell (hp rb off e h3) h2⟩
theorem delE_form (S : Tb) (k : Int) : ∃ a c : Int, S.delE k = .returned (.tuple #[.int .i64 a, .int .i64 c]) := by
  unfold Tb.delE; split
  · exact ⟨_, _, rfl⟩
  · split <;> exact ⟨_, _, rfl⟩
theorem shiftE_form (S : Tb) : ∃ a c d : Int, S.shiftE = .returned (.tuple #[.int .i64 a, .int .i64 c, .int .i64 d]) := by
  unfold Tb.shiftE; split
  · exact ⟨_, _, _, rfl⟩
  · exact atE_form S 0
theorem nextE_form (S : Tb) (k : Int) : ∃ a c d : Int, S.nextE k = .returned (.tuple #[.int .i64 a, .int .i64 c, .int .i64 d]) := by
  unfold Tb.nextE; split
  · exact ⟨_, _, _, rfl⟩
  · split <;> exact ⟨_, _, _, rfl⟩
theorem walkE_form (S : Tb) : ∃ a c : Int, S.walkE = .returned (.tuple #[.int .i64 a, .int .i64 c]) := by
  unfold Tb.walkE; split <;> exact ⟨_, _, rfl⟩
theorem pt_del (S : Tb) (k : Int) : (S.del k).pt = S.pt ∧ (S.del k).bg = S.bg := by unfold Tb.del; (repeat' split) <;> exact ⟨rfl, rfl⟩
theorem pt_shift (S : Tb) : S.shift.pt = S.pt ∧ S.shift.bg = S.bg := by unfold Tb.shift; (repeat' split) <;> exact ⟨rfl, rfl⟩
theorem pt_walk (S : Tb) : S.walk.pt = S.pt ∧ S.walk.bg ≤ S.bg + 1 := by unfold Tb.walk; split <;> exact ⟨rfl, by simp⟩
theorem pt_next (S : Tb) (k : Int) : (S.next k).pt = S.pt ∧ (S.next k).bg = S.bg := by unfold Tb.next; (repeat' split) <;> exact ⟨rfl, rfl⟩
theorem pt_stop (S : Tb) (k : Int) : (S.stop k).pt = S.pt ∧ (S.stop k).bg = S.bg := by unfold Tb.stop; split <;> exact ⟨rfl, rfl⟩
theorem pt_rek (S : Tb) (ps : List (Int × Int)) : (S.rekS ps).pt = S.pt ∧ (S.rekS ps).bg = S.bg := by unfold Tb.rekS; split <;> exact ⟨rfl, rfl⟩
theorem Al.flag {S : Tb} {R : Rt} {Y : List Yo} (h : Al S R Y) (x : Bool) : Al { S with st := x } { R with st := x } Y ∧ Al { S with fz := x } { R with fz := x } Y :=
  ⟨h.turn h.ks h.rw h.rows h.inc (fun y hy => .inl ⟨y, hy, rfl, rfl⟩) (Nat.le_refl _) (Nat.le_refl _) rfl h.fz rfl rfl rfl rfl,
   h.turn h.ks h.rw h.rows h.inc (fun y hy => .inl ⟨y, hy, rfl, rfl⟩) (Nat.le_refl _) (Nat.le_refl _) h.st rfl rfl rfl rfl rfl⟩

set_option maxRecDepth 100000 in
set_option maxHeartbeats 16000000 in
theorem t13 (w : World) (hz : Zoo P w0 w f) (hg : Game n N f t o r p S O R Q) (hN : N < 900) (d a b : Int) (ha : WF a) (ao : Option Addr) (l cap : Nat) (ps : List (Int × Int)) (hpl : ps.length = l) (hl : l ≤ cap) (hc : cap ≤ maxLen) (hr : RowsO w ao ps) (hpr : ∀ rb off, ao = some ⟨rb, off, none⟩ → 0 < ps.length → rb < w0.heap.size ∧ P rb) (hk : ∀ p ∈ ps, WF p.1 ∧ WF p.2) :
    Calls Try.prog 13 #[.agg #[.pointer (some ⟨t, 0, none⟩), .pointer (some ⟨o, 0, none⟩), .pointer (some ⟨r, 0, none⟩), .pointer (some ⟨p, 0, none⟩)], .agg #[.int .i64 d, .int .i64 a, .int .i64 b, .slice ao l cap]] w (DoesP P w0 n N f t o r p) := by
  have HG := Lib.hid hg
  have HA := Lib.hid ha
  have HK := Lib.hid hk
  have HN := Lib.hid hN
  have HPL := Lib.hid hpl
  have hb0 := bAl (bSelf w (.cells #[.pointer (some ⟨t, 0, none⟩), .pointer (some ⟨o, 0, none⟩), .pointer (some ⟨r, 0, none⟩), .pointer (some ⟨p, 0, none⟩)] 26)) (.cells #[.int .i64 d, .int .i64 a, .int .i64 b, .slice ao l cap] 32)
  obtain ⟨P', hz1, hP, hP2, hback⟩ := hz.base hb0
  have HPR : Hid (∀ rb off, ao = some ⟨rb, off, none⟩ → 0 < (ps.take 600).length → P' rb) := fun rb off e e2 => (fun h => hP2 rb h.1 h.2) (hpr rb off e (by rw [List.length_take] at e2; omega))
  have HBACK := Lib.hid hback
  have HPP := Lib.hid hP
  have HR := Lib.hid (hr.below hb0)
  have hk0 := (Blk.new w #[.pointer (some ⟨t, 0, none⟩), .pointer (some ⟨o, 0, none⟩), .pointer (some ⟨r, 0, none⟩), .pointer (some ⟨p, 0, none⟩)] 26).alloc (.cells #[.int .i64 d, .int .i64 a, .int .i64 b, .slice ao l cap] 32)
  have hk1 := Blk.new (w.alloc (.cells #[.pointer (some ⟨t, 0, none⟩), .pointer (some ⟨o, 0, none⟩), .pointer (some ⟨r, 0, none⟩), .pointer (some ⟨p, 0, none⟩)] 26)) #[.int .i64 d, .int .i64 a, .int .i64 b, .slice ao l cap] 32
  rw [show (w.alloc (.cells #[.pointer (some ⟨t, 0, none⟩), .pointer (some ⟨o, 0, none⟩), .pointer (some ⟨r, 0, none⟩), .pointer (some ⟨p, 0, none⟩)] 26)).heap.size = w.heap.size + 1 by simp] at hk1
  have HZ1 := Lib.hid hz1
  have hpA : P' w.heap.size := hP _ (Nat.le_refl _)
  have hpB : P' (w.heap.size + 1) := hP _ (Nat.le_succ _)
  have HPA := Lib.hid hpA
  have HPB := Lib.hid hpB
  clear hz hg ha hk hN hr hb0 hz1 hP hP2 hpr hback hpA hpB hpl
  go_enter Try.func13, Try.ntmps13
  go_upto_region 1 with fail
  generalize (w.alloc (.cells #[.pointer (some ⟨t, 0, none⟩), .pointer (some ⟨o, 0, none⟩), .pointer (some ⟨r, 0, none⟩), .pointer (some ⟨p, 0, none⟩)] 26)).alloc (.cells #[.int .i64 d, .int .i64 a, .int .i64 b, .slice ao l cap] 32) = W at *
  generalize hA0 : w.heap.size = A at *
  have x0 := hk0.cell 0 rfl
  have x1 := hk0.cell 1 rfl
  have x2 := hk0.cell 2 rfl
  have x3 := hk0.cell 3 rfl
  have y0 := hk1.cell 0 rfl
  have y1 := hk1.cell 1 rfl
  have y2 := hk1.cell 2 rfl
  have y3 := hk1.cell 3 rfl
  have HK0 := Lib.hid hk0
  have HK1 := Lib.hid hk1
  have qx0 : W.drew.cell? ⟨A, 0, none⟩ = some (.pointer (some ⟨t, 0, none⟩)) := x0
  have qx1 : W.drew.cell? ⟨A, 1, none⟩ = some (.pointer (some ⟨o, 0, none⟩)) := x1
  have qx2 : W.drew.cell? ⟨A, 2, none⟩ = some (.pointer (some ⟨r, 0, none⟩)) := x2
  have qx3 : W.drew.cell? ⟨A, 3, none⟩ = some (.pointer (some ⟨p, 0, none⟩)) := x3
  have qy1 : W.drew.cell? ⟨A + 1, 1, none⟩ = some (.int .i64 a) := y1
  have qy2 : W.drew.cell? ⟨A + 1, 2, none⟩ = some (.int .i64 b) := y2
  have qy3 : W.drew.cell? ⟨A + 1, 3, none⟩ = some (.slice ao l cap) := y3
  clear hk0 hk1 hA0
  by_cases e0 : d = 0
  · subst e0
    obtain ⟨Y, hY⟩ := HG.out.aS
    obtain ⟨X, hX⟩ : ∃ X, X = S.allE [(a, b)] := ⟨_, rfl⟩
    have C1 := Lib.hid (zput (HZ1.out.below (Below.refl _ _).drew) HG.out.ft HA.out b (by have := HG.out.b1; have := HN.out; omega))
    have C2 := Lib.hid (fun w2 (hz : Zoo P' W w2 (fset f n (.t t (S.all [(a, b)])))) => zputR hz (c := n + 2) (by rw [fset_other _ _ (by omega)]; exact HG.out.fr) hY HG.out.okS HA.out b (by have := HG.out.b2; have := HN.out; omega) (hY.lens HG.out.b5 HG.out.b7))
    have HX := Lib.hid hX
    rw [← hX] at C1 C2
    clear hX hY
    go_wp2_with fail
    go_region_held3 (fun w' => w'.cell? ⟨A, 0, none⟩ = some (.pointer (some ⟨t, 0, none⟩)) ∧ w'.cell? ⟨A, 2, none⟩ = some (.pointer (some ⟨r, 0, none⟩)) ∧ w'.cell? ⟨A + 1, 1, none⟩ = some (.int .i64 a) ∧ w'.cell? ⟨A + 1, 2, none⟩ = some (.int .i64 b))
      (first
        | (with_reducible exact ⟨qx0, qx2, qy1, qy2⟩)
        | (with_reducible exact ⟨kx0, kx2, ky1, ky2⟩)
        | (with_reducible exact ⟨gx0, gx2, gy1, gy2⟩)
        | fail "nokeep")
      (first
        | (go_at_call 21; (with_reducible refine C1.out.mono ?_); rintro e w2 ⟨rfl, hz2, ho2⟩; have kx0 := hz2.cell HPA.out x0; have kx2 := hz2.cell HPA.out x2; have ky1 := hz2.cell HPB.out y1; have ky2 := hz2.cell HPB.out y2; have HZ2 := Lib.hid hz2; have HO2 := Lib.hid ho2; clear hz2 ho2)
        | (go_at_call 44; (with_reducible refine (C2.out w2 HZ2.out).mono ?_); rintro e w3 ⟨R', ⟨rfl, ha2, hn2⟩, hz3⟩; have gx0 := hz3.cell HPA.out x0; have gx2 := hz3.cell HPA.out x2; have gy1 := hz3.cell HPB.out y1; have gy2 := hz3.cell HPB.out y2; have HZ3 := Lib.hid hz3; have HA2 := Lib.hid ha2; have HN2 := Lib.hid hn2; clear hz3 ha2 hn2)
        | fail "noarm")
    all_goals go_wp2
    all_goals go_ret
    all_goals exact DoesP.turned HG.out HN.out (HBACK.out _ _ HZ3.out) HO2.out HA2.out (by have := pt_all S [(a, b)]; first | omega | (simp at this; omega)) (by have := HN2.out; omega) (by have := bg_all S [(a, b)]; omega)
  by_cases e1 : d = 1
  · subst e1
    obtain ⟨Y, hY⟩ := HG.out.aS
    obtain ⟨u, v, hf⟩ := delE_form S a
    have C1 := Lib.hid (zdel HZ1.out HG.out.ft HA.out)
    have C2 := Lib.hid (fun w2 (hz : Zoo P' W w2 (fset f n (.t t (S.del a)))) => zdelR hz (c := n + 2) (by rw [fset_other _ _ (by omega)]; exact HG.out.fr) hY HG.out.okS HA.out)
    rw [hf] at C1 C2
    clear hf hY
    go_wp2_with fail
    refine C1.out.mono ?_
    rintro e w2 ⟨rfl, hz2, ho2⟩
    have kx2 := hz2.cell HPA.out x2
    have ky1 := hz2.cell HPB.out y1
    have HZ2 := Lib.hid hz2
    have HO2 := Lib.hid ho2
    clear hz2 ho2 C1
    go_wp2_with fail
    refine (C2.out w2 HZ2.out).mono ?_
    rintro e w3 ⟨R', ⟨rfl, ha2, hn2⟩, hz3⟩
    have HZ3 := Lib.hid hz3
    have HA2 := Lib.hid ha2
    have HN2 := Lib.hid hn2
    clear hz3 ha2 hn2 C2
    go_wp2_with fail
    go_ret
    exact DoesP.turned HG.out HN.out (HBACK.out _ _ HZ3.out) HO2.out HA2.out (by have := (pt_del S a).1; first | omega | (simp at this; omega)) (by have := HN2.out; omega) (by have := (pt_del S a).2; omega)
  by_cases e2 : d = 2
  · subst e2
    obtain ⟨Y, hY⟩ := HG.out.aS
    obtain ⟨u, v, x, hf⟩ := shiftE_form S
    have C1 := Lib.hid (zshift HZ1.out HG.out.ft)
    have C2 := Lib.hid (fun w2 (hz : Zoo P' W w2 (fset f n (.t t (S.shift)))) => zshiftR hz (c := n + 2) (by rw [fset_other _ _ (by omega)]; exact HG.out.fr) hY HG.out.okS)
    rw [hf] at C1 C2
    clear hf hY
    go_wp2_with fail
    refine C1.out.mono ?_
    rintro e w2 ⟨rfl, hz2, ho2⟩
    have kx2 := hz2.cell HPA.out x2
    have HZ2 := Lib.hid hz2
    have HO2 := Lib.hid ho2
    clear hz2 ho2 C1
    go_wp2_with fail
    refine (C2.out w2 HZ2.out).mono ?_
    rintro e w3 ⟨R', ⟨rfl, ha2, hn2⟩, hz3⟩
    have HZ3 := Lib.hid hz3
    have HA2 := Lib.hid ha2
    have HN2 := Lib.hid hn2
    clear hz3 ha2 hn2 C2
    go_wp2_with fail
    go_ret
    exact DoesP.turned HG.out HN.out (HBACK.out _ _ HZ3.out) HO2.out HA2.out (by have := (pt_shift S).1; first | omega | (simp at this; omega)) (by have := HN2.out; omega) (by have := (pt_shift S).2; omega)
  by_cases e3 : d = 3
  · subst e3
    obtain ⟨Y, hY⟩ := HG.out.aS
    obtain ⟨u, v, hf⟩ := walkE_form S
    have C1 := Lib.hid (zwalk HZ1.out HG.out.ft (by have := HG.out.b5; have := HN.out; omega))
    have C2 := Lib.hid (fun w2 (hz : Zoo P' W w2 (fset f n (.t t (S.walk)))) => zwalkR hz (c := n + 2) (by rw [fset_other _ _ (by omega)]; exact HG.out.fr) hY HG.out.okS (hY.lens HG.out.b5 HG.out.b7))
    rw [hf] at C1 C2
    clear hf hY
    go_wp2_with fail
    refine C1.out.mono ?_
    rintro e w2 ⟨rfl, hz2, ho2⟩
    have kx2 := hz2.cell HPA.out x2
    have HZ2 := Lib.hid hz2
    have HO2 := Lib.hid ho2
    clear hz2 ho2 C1
    go_wp2_with fail
    refine (C2.out w2 HZ2.out).mono ?_
    rintro e w3 ⟨R', ⟨rfl, ha2, hn2⟩, hz3⟩
    have HZ3 := Lib.hid hz3
    have HA2 := Lib.hid ha2
    have HN2 := Lib.hid hn2
    clear hz3 ha2 hn2 C2
    go_wp2_with fail
    go_ret
    exact DoesP.turned HG.out HN.out (HBACK.out _ _ HZ3.out) HO2.out HA2.out (by have := (pt_walk S).1; first | omega | (simp at this; omega)) (by have := HN2.out; omega) (by have := (pt_walk S).2; omega)
  by_cases e4 : d = 4
  · subst e4
    obtain ⟨Y, hY⟩ := HG.out.aS
    obtain ⟨u, v, x, hf⟩ := nextE_form S a
    have C1 := Lib.hid (znext HZ1.out HG.out.ft HA.out)
    have C2 := Lib.hid (fun w2 (hz : Zoo P' W w2 (fset f n (.t t (S.next a)))) => znextR hz (c := n + 2) (by rw [fset_other _ _ (by omega)]; exact HG.out.fr) hY HG.out.okS (hY.lens HG.out.b5 HG.out.b7) HA.out)
    rw [hf] at C1 C2
    clear hf hY
    go_wp2_with fail
    refine C1.out.mono ?_
    rintro e w2 ⟨rfl, hz2, ho2⟩
    have kx2 := hz2.cell HPA.out x2
    have ky1 := hz2.cell HPB.out y1
    have HZ2 := Lib.hid hz2
    have HO2 := Lib.hid ho2
    clear hz2 ho2 C1
    go_wp2_with fail
    refine (C2.out w2 HZ2.out).mono ?_
    rintro e w3 ⟨R', ⟨rfl, ha2, hn2⟩, hz3⟩
    have HZ3 := Lib.hid hz3
    have HA2 := Lib.hid ha2
    have HN2 := Lib.hid hn2
    clear hz3 ha2 hn2 C2
    go_wp2_with fail
    go_ret
    exact DoesP.turned HG.out HN.out (HBACK.out _ _ HZ3.out) HO2.out HA2.out (by have := (pt_next S a).1; first | omega | (simp at this; omega)) (by have := HN2.out; omega) (by have := (pt_next S a).2; omega)
  by_cases e5 : d = 5
  · subst e5
    obtain ⟨Y, hY⟩ := HG.out.aS
    obtain ⟨X, hX⟩ : ∃ X, X = S.stopE a := ⟨_, rfl⟩
    have C1 := Lib.hid (zstop (HZ1.out.below (Below.refl _ _).drew) HG.out.ft HA.out)
    have C2 := Lib.hid (fun w2 (hz : Zoo P' W w2 (fset f n (.t t (S.stop a)))) => zstopR hz (c := n + 2) (by rw [fset_other _ _ (by omega)]; exact HG.out.fr) hY (hY.lens HG.out.b5 HG.out.b7) HA.out)
    rw [← hX] at C1 C2
    clear hX hY
    go_wp2_with fail
    go_region_held3 (fun w' => w'.cell? ⟨A, 0, none⟩ = some (.pointer (some ⟨t, 0, none⟩)) ∧ w'.cell? ⟨A, 2, none⟩ = some (.pointer (some ⟨r, 0, none⟩)) ∧ w'.cell? ⟨A + 1, 1, none⟩ = some (.int .i64 a))
      (first
        | (with_reducible exact ⟨qx0, qx2, qy1⟩)
        | (with_reducible exact ⟨kx0, kx2, ky1⟩)
        | (with_reducible exact ⟨gx0, gx2, gy1⟩)
        | fail "nokeep")
      (first
        | (go_at_call 27; (with_reducible refine C1.out.mono ?_); rintro e w2 ⟨rfl, hz2, ho2⟩; have kx0 := hz2.cell HPA.out x0; have kx2 := hz2.cell HPA.out x2; have ky1 := hz2.cell HPB.out y1; have HZ2 := Lib.hid hz2; have HO2 := Lib.hid ho2; clear hz2 ho2)
        | (go_at_call 49; (with_reducible refine (C2.out w2 HZ2.out).mono ?_); rintro e w3 ⟨R', ⟨rfl, ha2, hn2⟩, hz3⟩; have gx0 := hz3.cell HPA.out x0; have gx2 := hz3.cell HPA.out x2; have gy1 := hz3.cell HPB.out y1; have HZ3 := Lib.hid hz3; have HA2 := Lib.hid ha2; have HN2 := Lib.hid hn2; clear hz3 ha2 hn2)
        | fail "noarm")
    all_goals go_wp2
    all_goals go_ret
    all_goals exact DoesP.turned HG.out HN.out (HBACK.out _ _ HZ3.out) HO2.out HA2.out (by have := (pt_stop S a).1; first | omega | (simp at this; omega)) (by have := HN2.out; omega) (by have := (pt_stop S a).2; omega)
  by_cases e6 : d = 6
  · subst e6
    obtain ⟨Y, hY⟩ := HG.out.aS
    have HY := Lib.hid hY
    have C1 := Lib.hid (zstrict HZ1.out HG.out.ft (bits .and .i64 b 1 == 1))
    clear hY
    go_wp2_with fail
    refine C1.out.mono ?_
    rintro e w2 ⟨rfl, hz2, ho2⟩
    have kx2 := hz2.cell HPA.out x2
    have ky2 := hz2.cell HPB.out y2
    obtain ⟨⟨z, hz⟩, hfr, hz3⟩ := zstore hz2 (c := n + 2) (by rw [fset_other _ _ (by omega)]; exact HG.out.fr) 1 (bits .and .i64 b 1 == 1) { R with st := (bits .and .i64 b 1 == 1) } (.inl ⟨rfl, rfl⟩)
    have HZ3 := Lib.hid hz3
    have HO2 := Lib.hid ho2
    clear hz2 ho2 hz3 C1
    go_wp2_with fail
    go_ret
    exact DoesP.turned HG.out HN.out (HBACK.out _ _ HZ3.out) HO2.out ⟨Y, (HY.out.flag (bits .and .i64 b 1 == 1)).1⟩ (Nat.le_add_right _ _) (Nat.le_add_right _ _) (Nat.le_succ _)
  by_cases e7 : d = 7
  · subst e7
    obtain ⟨Y, hY⟩ := HG.out.aS
    have HY := Lib.hid hY
    have C1 := Lib.hid (zfreeze HZ1.out HG.out.ft)
    clear hY
    go_wp2_with fail
    refine C1.out.mono ?_
    rintro e w2 ⟨rfl, hz2, ho2⟩
    have kx2 := hz2.cell HPA.out x2
    have ky2 := hz2.cell HPB.out y2
    obtain ⟨⟨z, hz⟩, hfr, hz3⟩ := zstore hz2 (c := n + 2) (by rw [fset_other _ _ (by omega)]; exact HG.out.fr) 2 true { R with fz := true } (.inr ⟨rfl, rfl⟩)
    have HZ3 := Lib.hid hz3
    have HO2 := Lib.hid ho2
    clear hz2 ho2 hz3 C1
    go_wp2_with fail
    go_ret
    exact DoesP.turned HG.out HN.out (HBACK.out _ _ HZ3.out) HO2.out ⟨Y, (HY.out.flag true).2⟩ (Nat.le_add_right _ _) (Nat.le_add_right _ _) (Nat.le_succ _)
  by_cases e8 : d = 8
  · subst e8
    obtain ⟨Y, hY⟩ := HG.out.aS
    obtain ⟨m, hm⟩ : ∃ m, m = min l 600 := ⟨_, rfl⟩
    have hmi : min (l : Int) 600 = (m : Int) := by omega
    have hmc : (m : Int) ≤ cap := by omega
    have hm0 : (0 : Int) ≤ m := by omega
    have hcm := hc
    unfold maxLen at hcm
    have HTL : Hid ((ps.take 600).length = m) := by show _ = _; rw [List.length_take, HPL.out, hm]; omega
    have HRT := Lib.hid (HR.out.take 600)
    have HKT : Hid (∀ p ∈ ps.take 600, WF p.1 ∧ WF p.2) := fun q hq => HK.out q (List.mem_of_mem_take hq)
    obtain ⟨qs, hqs⟩ : ∃ q, q = ps.take 600 := ⟨_, rfl⟩
    rw [← hqs] at HTL HRT HKT HPR
    by_cases h5 : m ≤ 500
    · obtain ⟨X, hX⟩ : ∃ X, X = S.rekE qs := ⟨_, rfl⟩
      have C1 := Lib.hid (zrek (HZ1.out.below (Below.refl _ _).drew) HG.out.ft ao cap qs (HRT.out.below (Below.refl _ _).drew) HKT.out (by rw [HTL.out]; exact h5))
      have C2 := Lib.hid (fun w2 (hz : Zoo P' W w2 (fset f n (.t t (S.rekS qs)))) => zrekR hz (c := n + 2) (by rw [fset_other _ _ (by omega)]; exact HG.out.fr) hY HG.out.okS (hY.lens HG.out.b5 HG.out.b7) ao cap qs (hz.rows HRT.out HPR.out) HKT.out (by rw [HTL.out]; exact h5))
      rw [← hX, HTL.out] at C1 C2
      clear hX hY hm hqs hcm
      go_wp2_with fail
      go_region_held3 (fun w' => w'.cell? ⟨A, 0, none⟩ = some (.pointer (some ⟨t, 0, none⟩)) ∧ w'.cell? ⟨A, 2, none⟩ = some (.pointer (some ⟨r, 0, none⟩)))
        (first
          | (with_reducible exact ⟨qx0, qx2⟩)
          | (with_reducible exact ⟨kx0, kx2⟩)
          | (with_reducible exact ⟨gx0, gx2⟩)
          | fail "nokeep")
        (first
          | (go_at_call 17; (with_reducible refine C1.out.mono ?_); rintro e w2 ⟨rfl, hz2, ho2⟩; have kx0 := hz2.cell HPA.out x0; have kx2 := hz2.cell HPA.out x2; have HZ2 := Lib.hid hz2; have HO2 := Lib.hid ho2; clear hz2 ho2)
          | (go_at_call 18; (with_reducible refine (C2.out w2 HZ2.out).mono ?_); rintro e w3 ⟨R', ⟨rfl, ha2, hn2⟩, hz3⟩; have gx0 := hz3.cell HPA.out x0; have gx2 := hz3.cell HPA.out x2; have HZ3 := Lib.hid hz3; have HA2 := Lib.hid ha2; have HN2 := Lib.hid hn2; clear hz3 ha2 hn2)
          | fail "noarm")
      all_goals go_wp2
      all_goals go_ret
      all_goals exact DoesP.turned HG.out HN.out (HBACK.out _ _ HZ3.out) HO2.out HA2.out (by have := (pt_rek S qs).1; first | omega | (simp at this; omega)) (by have := HN2.out; omega) (by have := (pt_rek S qs).2; omega)
    · have hbig : 500 < m := by omega
      have C1 := Lib.hid (t17b W.drew (some ⟨t, 0, none⟩) ao m cap hbig)
      have C2 := Lib.hid (fun w2 (hz : Zoo P' W w2 f) => by
        obtain ⟨G, hG⟩ := hz.get HG.out.fr
        exact t18b w2 hG ao m cap hbig)
      clear hY hm hqs hcm
      go_wp2_with fail
      go_region_held3 (fun w' => w'.cell? ⟨A, 0, none⟩ = some (.pointer (some ⟨t, 0, none⟩)) ∧ w'.cell? ⟨A, 2, none⟩ = some (.pointer (some ⟨r, 0, none⟩)))
        (first
          | (with_reducible exact ⟨qx0, qx2⟩)
          | (with_reducible exact ⟨kx0, kx2⟩)
          | fail "nokeep")
        (first
          | (go_at_call 17; (with_reducible refine C1.out.mono ?_); rintro e w2 ⟨rfl, hb2⟩; have kx0 := below_cell hb2 qx0; have kx2 := below_cell hb2 qx2; have HZ2 := Lib.hid ((HZ1.out.below (Below.refl _ _).drew).below hb2); clear hb2)
          | (go_at_call 18; (with_reducible refine (C2.out w2 HZ2.out).mono ?_); rintro e w3 ⟨rfl, rfl⟩)
          | fail "noarm")
      all_goals go_wp2
      all_goals go_ret
      all_goals exact ⟨rfl, f, S, O, R, Q, HBACK.out _ _ HZ2.out, HG.out.same HN.out, fun _ _ => rfl⟩
  by_cases e9 : d = 9
  · subst e9
    obtain ⟨Y, hY⟩ := HG.out.aS
    obtain ⟨Y2, hY2⟩ := HG.out.aO
    obtain ⟨X, hX⟩ : ∃ X, X = S.allE O.rows := ⟨_, rfl⟩
    have C1 := Lib.hid (zmerge (HZ1.out.below (Below.refl _ _).drew) HG.out.ft HG.out.fo (by have := HG.out.b1; have := HN.out; omega))
    have C2 := Lib.hid (fun w2 (hz : Zoo P' W w2 (fset f n (.t t (S.all O.rows)))) => zmergeR hz (c := n + 2) (by rw [fset_other _ _ (by omega)]; exact HG.out.fr) hY HG.out.okS (d := n + 3) (by rw [fset_other _ _ (by omega)]; exact HG.out.fp) hY2 HG.out.okO (by have := HG.out.b2; have := HN.out; omega) (hY.lens HG.out.b5 HG.out.b7))
    have HLO : Hid (O.rows.length ≤ 500) := (rows_ok HG.out.okO).2.2
    rw [← hX] at C1 C2
    clear hX hY hY2
    go_wp2_with fail
    go_region_held3 (fun w' => w'.cell? ⟨A, 0, none⟩ = some (.pointer (some ⟨t, 0, none⟩)) ∧ w'.cell? ⟨A, 1, none⟩ = some (.pointer (some ⟨o, 0, none⟩)) ∧ w'.cell? ⟨A, 2, none⟩ = some (.pointer (some ⟨r, 0, none⟩)) ∧ w'.cell? ⟨A, 3, none⟩ = some (.pointer (some ⟨p, 0, none⟩)))
      (first
        | (with_reducible exact ⟨qx0, qx1, qx2, qx3⟩)
        | (with_reducible exact ⟨kx0, kx1, kx2, kx3⟩)
        | (with_reducible exact ⟨gx0, gx1, gx2, gx3⟩)
        | fail "nokeep")
      (first
        | (go_at_call 29; (with_reducible refine C1.out.mono ?_); rintro e w2 ⟨rfl, hz2, ho2⟩; have kx0 := hz2.cell HPA.out x0; have kx1 := hz2.cell HPA.out x1; have kx2 := hz2.cell HPA.out x2; have kx3 := hz2.cell HPA.out x3; have HZ2 := Lib.hid hz2; have HO2 := Lib.hid ho2; clear hz2 ho2)
        | (go_at_call 30; (with_reducible refine (C2.out w2 HZ2.out).mono ?_); rintro e w3 ⟨R', ⟨rfl, ha2, hn2⟩, hz3⟩; have gx0 := hz3.cell HPA.out x0; have gx1 := hz3.cell HPA.out x1; have gx2 := hz3.cell HPA.out x2; have gx3 := hz3.cell HPA.out x3; have HZ3 := Lib.hid hz3; have HA2 := Lib.hid ha2; have HN2 := Lib.hid hn2; clear hz3 ha2 hn2)
        | fail "noarm")
    all_goals go_wp2
    all_goals go_ret
    all_goals have hlo := HLO.out
    all_goals exact DoesP.turned HG.out HN.out (HBACK.out _ _ HZ3.out) HO2.out HA2.out (by have := pt_all S O.rows; first | omega | (simp at this; omega)) (by have := HN2.out; omega) (by have := bg_all S O.rows; omega)
  by_cases e10 : d = 10
  · subst e10
    obtain ⟨Y, hY⟩ := HG.out.aO
    obtain ⟨X, hX⟩ : ∃ X, X = O.allE [(a, b)] := ⟨_, rfl⟩
    have C1 := Lib.hid (zput (HZ1.out.below (Below.refl _ _).drew) HG.out.fo HA.out b (by have := HG.out.b3; have := HN.out; omega))
    have C2 := Lib.hid (fun w2 (hz : Zoo P' W w2 (fset f (n + 1) (.t o (O.all [(a, b)])))) => zputR hz (c := n + 3) (by rw [fset_other _ _ (by omega)]; exact HG.out.fp) hY HG.out.okO HA.out b (by have := HG.out.b4; have := HN.out; omega) (hY.lens HG.out.b6 HG.out.b7))
    rw [← hX] at C1 C2
    clear hX hY
    go_wp2_with fail
    go_region_held3 (fun w' => w'.cell? ⟨A, 1, none⟩ = some (.pointer (some ⟨o, 0, none⟩)) ∧ w'.cell? ⟨A, 3, none⟩ = some (.pointer (some ⟨p, 0, none⟩)) ∧ w'.cell? ⟨A + 1, 1, none⟩ = some (.int .i64 a) ∧ w'.cell? ⟨A + 1, 2, none⟩ = some (.int .i64 b))
      (first
        | (with_reducible exact ⟨qx1, qx3, qy1, qy2⟩)
        | (with_reducible exact ⟨kx1, kx3, ky1, ky2⟩)
        | (with_reducible exact ⟨gx1, gx3, gy1, gy2⟩)
        | fail "nokeep")
      (first
        | (go_at_call 21; (with_reducible refine C1.out.mono ?_); rintro e w2 ⟨rfl, hz2, ho2⟩; have kx1 := hz2.cell HPA.out x1; have kx3 := hz2.cell HPA.out x3; have ky1 := hz2.cell HPB.out y1; have ky2 := hz2.cell HPB.out y2; have HZ2 := Lib.hid hz2; have HO2 := Lib.hid ho2; clear hz2 ho2)
        | (go_at_call 44; (with_reducible refine (C2.out w2 HZ2.out).mono ?_); rintro e w3 ⟨R', ⟨rfl, ha2, hn2⟩, hz3⟩; have gx1 := hz3.cell HPA.out x1; have gx3 := hz3.cell HPA.out x3; have gy1 := hz3.cell HPB.out y1; have gy2 := hz3.cell HPB.out y2; have HZ3 := Lib.hid hz3; have HA2 := Lib.hid ha2; have HN2 := Lib.hid hn2; clear hz3 ha2 hn2)
        | fail "noarm")
    all_goals go_wp2
    all_goals go_ret
    all_goals exact DoesP.turned2 HG.out HN.out (HBACK.out _ _ HZ3.out) HO2.out HA2.out (by have := pt_all O [(a, b)]; first | omega | (simp at this; omega)) (by have := HN2.out; omega) (by have := bg_all O [(a, b)]; omega)
  by_cases e11 : d = 11
  · subst e11
    obtain ⟨Y, hY⟩ := HG.out.aS
    obtain ⟨k0, hk0⟩ : ∃ k : Int, k = bits .and .i64 a 1023 := ⟨_, rfl⟩
    have hkm := and_mask a 1023 (by decide)
    change 0 ≤ bits .and .i64 a 1023 ∧ bits .and .i64 a 1023 ≤ 1023 at hkm
    rw [← hk0] at hkm
    obtain ⟨hk1, hk2⟩ := hkm
    have HWK : Hid (WF (1000 + k0)) := WalkArith.wf_i64 (by omega)
    have hbi := hk0.symm
    have hwr : IntKind.i64.wrap (1000 + k0) = 1000 + k0 := by rw [IntKind.wrap_i64]; omega
    obtain ⟨X, hX⟩ : ∃ X, X = S.allE [(1000 + k0, b)] := ⟨_, rfl⟩
    have C1 := Lib.hid (zput (HZ1.out.below (Below.refl _ _).drew) HG.out.ft HWK.out b (by have := HG.out.b1; have := HN.out; omega))
    have C2 := Lib.hid (fun w2 (hz : Zoo P' W w2 (fset f n (.t t (S.all [(1000 + k0, b)])))) => zputR hz (c := n + 2) (by rw [fset_other _ _ (by omega)]; exact HG.out.fr) hY HG.out.okS HWK.out b (by have := HG.out.b2; have := HN.out; omega) (hY.lens HG.out.b5 HG.out.b7))
    rw [← hX] at C1 C2
    clear hX hY hk0
    go_wp2_with fail
    go_region_held3 (fun w' => w'.cell? ⟨A, 0, none⟩ = some (.pointer (some ⟨t, 0, none⟩)) ∧ w'.cell? ⟨A, 2, none⟩ = some (.pointer (some ⟨r, 0, none⟩)) ∧ w'.cell? ⟨A + 1, 1, none⟩ = some (.int .i64 a) ∧ w'.cell? ⟨A + 1, 2, none⟩ = some (.int .i64 b))
      (first
        | (with_reducible exact ⟨qx0, qx2, qy1, qy2⟩)
        | (with_reducible exact ⟨kx0, kx2, ky1, ky2⟩)
        | (with_reducible exact ⟨gx0, gx2, gy1, gy2⟩)
        | fail "nokeep")
      (first
        | (go_at_call 21; (with_reducible refine C1.out.mono ?_); rintro e w2 ⟨rfl, hz2, ho2⟩; have kx0 := hz2.cell HPA.out x0; have kx2 := hz2.cell HPA.out x2; have ky1 := hz2.cell HPB.out y1; have ky2 := hz2.cell HPB.out y2; have HZ2 := Lib.hid hz2; have HO2 := Lib.hid ho2; clear hz2 ho2)
        | (go_at_call 44; (with_reducible refine (C2.out w2 HZ2.out).mono ?_); rintro e w3 ⟨R', ⟨rfl, ha2, hn2⟩, hz3⟩; have gx0 := hz3.cell HPA.out x0; have gx2 := hz3.cell HPA.out x2; have gy1 := hz3.cell HPB.out y1; have gy2 := hz3.cell HPB.out y2; have HZ3 := Lib.hid hz3; have HA2 := Lib.hid ha2; have HN2 := Lib.hid hn2; clear hz3 ha2 hn2)
        | fail "noarm")
    all_goals go_wp2
    all_goals go_ret
    all_goals exact DoesP.turned HG.out HN.out (HBACK.out _ _ HZ3.out) HO2.out HA2.out (by have := pt_all S [(1000 + k0, b)]; first | omega | (simp at this; omega)) (by have := HN2.out; omega) (by have := bg_all S [(1000 + k0, b)]; omega)
  go_wp2
  go_ret
  exact ⟨rfl, f, S, O, R, Q, HBACK.out _ _ HZ1.out, HG.out.same HN.out, fun _ _ => rfl⟩
end
end Go.Proofs.Ytagejkolgicecaa
