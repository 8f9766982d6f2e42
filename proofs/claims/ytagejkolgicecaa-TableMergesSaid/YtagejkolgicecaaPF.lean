/- What is asked is told alike. -/
import Derived.Test.YtagejkolgicecaaPE
import Derived.Test.YtagejkolgicecaaKS
namespace Go.Proofs.Ytagejkolgicecaa
open Go Go.RowKit Go.Maps
section
variable {S : Tb} {R : Rt} {Y : List Yo}
theorem Al.getE (h : Al S R Y) (hO : Ok S) {k : Int} (hk : WF k) : R.getE k = S.getE k := by
  unfold Rt.getE Tb.getE Rt.find
  rw [h.has_eq hO hk, h.rows, List.find?_map]
  have e : ((fun (x : Int × Int × Nat) => decide (x.1 = k)) ∘ Yo.r) = (fun y : Yo => decide (y.k = k)) := by funext z; rfl
  rw [e]
  cases hf : Y.find? (fun y => decide (y.k = k)) with
  | none =>
    have : Y.any (fun y => decide (y.k = k)) = false := by
      rw [List.any_eq_false]; exact fun y hy => List.find?_eq_none.1 hf y hy
    rw [this]; rfl
  | some y =>
    have hy := List.mem_of_find?_eq_some hf
    have hyk : y.k = k := by simpa using List.find?_some hf
    have : Y.any (fun y => decide (y.k = k)) = true := List.any_eq_true.2 ⟨y, hy, by simp [hyk]⟩
    rw [this]
    have hv := h.vl hy
    rw [hyk] at hv
    simp only [Option.map_some, if_true, Yo.r, hv]
theorem Al.atE (h : Al S R Y) (i : Int) : R.atE i = S.atE i := by
  unfold Rt.atE Tb.atE
  rw [h.rows, h.ks]
  simp only [List.getElem?_map]
  by_cases h0 : 0 ≤ i
  · rw [if_pos h0, if_pos h0]
    cases hy : Y[i.toNat]? with
    | none => rfl
    | some y =>
      have hv := h.vl (List.mem_of_getElem? hy)
      simp only [Option.map_some, Yo.r, hv]
  · rw [if_neg h0, if_neg h0]
theorem Al.wh (h : Al S R Y) (hO : Ok S) {k : Int} (hk : WF k) {e e' : Ending} (h1 : WhR S k e) (h2 : R.WhR k e') : e' = e := by
  rcases h2 with ⟨h3, rfl⟩ | ⟨j, v, t, h3, h4, rfl⟩
  · have hh := h.lack_all hO hk h3
    rcases h1 with ⟨_, rfl⟩ | ⟨i, h5, _⟩
    · rfl
    · rw [hh] at h5; cases h5
  · obtain ⟨p, hy⟩ := h.at h3
    have hj : S.ks[j]? = some k := by rw [h.ks, List.getElem?_map, hy]; rfl
    rcases h1 with ⟨h5, _⟩ | ⟨i, _, h6, rfl⟩
    · have := h.has (List.mem_of_getElem? hy); rw [h5] at this; cases this
    · obtain ⟨l1, h1'⟩ := List.getElem?_eq_some_iff.1 hj
      obtain ⟨l2, h2'⟩ := List.getElem?_eq_some_iff.1 h6
      have : j = i := (List.getElem_inj hO.nd).1 (h1'.trans h2'.symm)
      rw [this]
theorem whR_form {k : Int} {e : Ending} (h : WhR S k e) : ∃ a c : Int, e = .returned (.tuple #[.int .i64 a, .int .i64 c]) := by
  rcases h with ⟨_, rfl⟩ | ⟨i, _, _, rfl⟩ <;> exact ⟨_, _, rfl⟩
theorem getE_form (S : Tb) (k : Int) : ∃ a c : Int, S.getE k = .returned (.tuple #[.int .i64 a, .int .i64 c]) := by
  unfold Tb.getE; split <;> exact ⟨_, _, rfl⟩

theorem t28U {F : Nat → Prop} {b : Nat} {S : Tb} (w : World) (h : Tab F w b S) {x : Int} (hx : WF x) :
    Calls Try.prog 28 #[.pointer (some ⟨b, 0, none⟩), .int .i64 x] w fun e w' => e = S.getE x ∧ Below w.heap.size w w' := by
  obtain ⟨_, m0, m1, kv, hW⟩ := h
  exact t28 w hW hx
theorem below_drew_cell {w : World} {a : Addr} {x : Value} (h : w.cell? a = some x) : w.drew.cell? a = some x := h
set_option maxRecDepth 100000 in
set_option maxHeartbeats 16000000 in
theorem t14 {F G : Nat → Prop} {t r : Nat} (w : World) (hT : Tab F w t S) (hR : RTab G w r R) (hA : Al S R Y) (po pp : Value) (key : Int) (hk : WF key) :
    Calls Try.prog 14 #[.agg #[.pointer (some ⟨t, 0, none⟩), po, .pointer (some ⟨r, 0, none⟩), pp], .int .i64 key] w fun e w' => e = .returned (.bool true) ∧ Below w.heap.size w w' := by
  have hO := hT.1
  have hB0 := bSelf w (.cells #[.pointer (some ⟨t, 0, none⟩), po, .pointer (some ⟨r, 0, none⟩), pp] 26)
  have hK0 := Blk.new w #[.pointer (some ⟨t, 0, none⟩), po, .pointer (some ⟨r, 0, none⟩), pp] 26
  have HT := Lib.hid hT
  have HRT := Lib.hid hR
  have HA := Lib.hid hA
  have HO := Lib.hid hO
  have hl5 : R.rows.length ≤ 500 := by rw [hA.len]; exact hO.len
  have HL5 := Lib.hid hl5
  have hfz := hA.fz
  have hrl : S.rows.length = S.ks.length := by unfold Tb.rows; simp
  have HKEY := Lib.hid hk
  have hsl : S.ks.length ≤ 500 := hO.len
  obtain ⟨sl, hsl'⟩ : ∃ n, n = S.ks.length := ⟨_, rfl⟩
  have HSL := Lib.hid hsl'
  obtain ⟨fz, hfz'⟩ : ∃ x, x = S.fz := ⟨_, rfl⟩
  have C31 := Lib.hid (t31 (w.alloc (.cells #[.pointer (some ⟨t, 0, none⟩), po, .pointer (some ⟨r, 0, none⟩), pp] 26)) (by obtain ⟨rv, wv, h⟩ := hR; exact ⟨rv, wv, h.below hB0⟩) hl5)
  have C23 := Lib.hid (fun W (hb : Below w.heap.size w W) => by
    obtain ⟨_, m0, m1, kv, h⟩ := hT.below hb
    exact (t23 W hO h).mono (fun e w' ⟨v, e1, e2, e3, _⟩ => by
      obtain ⟨ao, cap, e4, e5, _, _⟩ := e2.read
      exact (⟨ao, cap, by rw [e1, e4, hrl], e5, e3⟩ : ∃ ao cap, e = .returned (.slice ao S.ks.length cap) ∧ RowsAt w' ao S.rows ∧ Below W.heap.size W w')))
  have C28 := Lib.hid (fun W (hb : Below w.heap.size w W) (x : Int) (hx : WF x) => t28U W (hT.below hb) hx)
  have C42 := Lib.hid (fun W (hb : Below w.heap.size w W) (x : Int) (hx : WF x) => t42T W (hT.below hb) hx)
  have C41 := Lib.hid (fun W (hb : Below w.heap.size w W) (x : Int) => t41T W (hT.below hb) x)
  have C39 := Lib.hid (fun W (hb : Below w.heap.size w W) => t39 W (hT.below hb))
  have C50 := Lib.hid (fun W (hb : Below w.heap.size w W) (x : Int) => (by
    obtain ⟨rv, wv, h⟩ := hR
    exact t50 W (h.below hb) (by omega) x : Calls Try.prog 50 #[.pointer (some ⟨r, 0, none⟩), .int .i64 x] W fun e w' => e = R.getE x ∧ w' = W))
  have C51 := Lib.hid (fun W (hb : Below w.heap.size w W) (x : Int) => (by
    obtain ⟨rv, wv, h⟩ := hR
    exact t51 W (h.below hb) (by omega) x : Calls Try.prog 51 #[.pointer (some ⟨r, 0, none⟩), .int .i64 x] W fun e w' => R.WhR x e ∧ w' = W))
  have C52 := Lib.hid (fun W (hb : Below w.heap.size w W) (x : Int) => (by
    obtain ⟨rv, wv, h⟩ := hR
    exact t52 W (h.below hb) (by omega) x : Calls Try.prog 52 #[.pointer (some ⟨r, 0, none⟩), .int .i64 x] W fun e w' => e = R.atE x ∧ Below W.heap.size W w'))
  have C53 := Lib.hid (fun W (hb : Below w.heap.size w W) => (by
    obtain ⟨rv, wv, h⟩ := hR
    exact t53 W (h.below hb) (by omega) : Calls Try.prog 53 #[.pointer (some ⟨r, 0, none⟩)] W fun e w' => e = R.atE 0 ∧ Below W.heap.size W w'))
  have C43 := Lib.hid (fun W (hb : Below w.heap.size w W) => t43 W (hT.below hb))
  have C26 := Lib.hid (fun W (hb : Below w.heap.size w W) => t26 W (hT.below hb))
  have HFC : Hid (∀ W, Below w.heap.size w W → W.cell? ⟨r, 2, none⟩ = some (.bool fz)) := fun W hb => by
    obtain ⟨rv, wv, h⟩ := hR
    rw [hfz', ← hfz]
    exact (h.below hb).blk.cell 2 rfl
  rw [hA.prs] at C31
  rw [← hsl'] at C43 C23 hrl hsl
  rw [← hfz'] at C26
  have HB0 := Lib.hid hB0
  have HK0 := Lib.hid hK0
  clear hT hR hA hO hB0 hK0 hk hfz hfz' hsl' hl5
  obtain ⟨rs, hrs⟩ : ∃ l, l = S.rows := ⟨_, rfl⟩
  have HRS := Lib.hid hrs
  rw [← hrs] at C31 C23 hrl
  have HRL := Lib.hid hrl
  clear hrs
  go_enter Try.func14, Try.ntmps14
  go_wp2_with fail
  refine C31.out.mono ?_
  rintro e w1 ⟨v1, rfl, hP1, hb1, -⟩
  obtain ⟨ao1, cap1, rfl, hR1, -, -⟩ := hP1.read
  have HB1 := Lib.hid (bThen HB0.out hb1)
  have HR1 := Lib.hid hR1
  have hK1 := blkDown HK0.out hb1
  generalize hAe : w.heap.size = A at *
  have xT := hK1.cell 0 rfl
  have xR := hK1.cell 2 rfl
  have HK1 := Lib.hid hK1
  rw [hrl]
  clear hP1 hR1 hb1 hK1 HK0 C31 hrl
  have qT := below_drew_cell xT
  have qR := below_drew_cell xR
  have qF := below_drew_cell (HFC.out w1 HB1.out)
  have HB1d : Hid (Below A w w1.drew) := HB1.out.drew
  subst hAe
  have C19 : Hid (∀ W ao ao' c c', RowsAt W ao rs → RowsAt W ao' rs → Calls Try.prog 19 #[.slice ao sl c, .slice ao' sl c'] W fun e w' => e = .returned (.bool true) ∧ Below W.heap.size W w') := fun W ao ao' c c' h h' => by
    have h1 := t19 W ao ao' c c' rs rs h h' (by rw [HRL.out]; omega)
    rw [HRL.out] at h1
    exact h1.mono (fun e w' ⟨e1, e2⟩ => ⟨by rw [e1]; simp, e2⟩)
  go_wp2_with fail
  go_region_held3 (fun w' => w'.cell? ⟨w.heap.size, 0, none⟩ = some (.pointer (some ⟨t, 0, none⟩)) ∧ w'.cell? ⟨w.heap.size, 2, none⟩ = some (.pointer (some ⟨r, 0, none⟩)) ∧ w'.cell? ⟨r, 2, none⟩ = some (.bool fz))
    (first
      | (with_reducible exact ⟨qT, qR, qF⟩)
      | (with_reducible exact ⟨aT, aR, aF⟩)
      | (with_reducible exact ⟨bT, bR, bF⟩)
      | (with_reducible exact ⟨cT, cR, cF⟩)
      | (with_reducible exact ⟨dT, dR, dF⟩)
      | fail "nokeep")
    (first
      | (go_at_call 23; (with_reducible refine (C23.out _ HB1d.out).mono ?_); rintro e w2 ⟨ao2, cap2, rfl, hR2, hb2⟩; have aT := below_cell hb2 qT; have aR := below_cell hb2 qR; have aF := below_cell hb2 qF; have HB2 := Lib.hid (bThen ((Below.refl w1.heap.size w1).drew) hb2); have HR2 := Lib.hid hR2; have HR12 := Lib.hid ((HR1.out.below (Below.refl _ _).drew).below hb2); clear hb2 hR2)
      | (go_at_call 19; (with_reducible refine (C19.out _ _ _ _ _ HR2.out HR12.out).mono ?_); rintro e w3 ⟨rfl, hb3⟩; have bT := below_cell hb3 aT; have bR := below_cell hb3 aR; have bF := below_cell hb3 aF; have HB3 := Lib.hid (bThen HB2.out hb3); have HR13 := Lib.hid (HR12.out.below hb3); clear hb3)
      | (go_at_call 43; (with_reducible refine (C43.out _ (bThen HB1.out HB3.out)).mono ?_); rintro e w4 ⟨rfl, rfl⟩)
      | (go_at_call 26; (with_reducible refine (C26.out _ (bThen HB1.out HB3.out)).mono ?_); rintro e w5 ⟨rfl, rfl⟩)
      | fail "noarm")
  have HBw := Lib.hid HB3.out
  clear qT qR qF aT aR aF HB1d xT xR HFC HB2 HR2 HR12 HR13 HB0 C43 C26 C23 C19
  obtain ⟨i0, hi, hz0, hz1, hz2⟩ := info_parts info3
  have hk6 := Blk.new w5 #[.int .i64 key, .int .i64 0, .int .i64 1, .int .i64 2] 3
  have HX0 : Hid ((w5.alloc (.cells #[.int .i64 key, .int .i64 0, .int .i64 1, .int .i64 2] 3)).ownsRow w1.heap.size 3 1 (.slice (some ⟨w5.heap.size, 0, none⟩) 4 4) 4 ([key, 0, 1, 2].map (Value.int .i64))) := hk6.row (base := w1.heap.size) (n := 4) HB3.out.size (by simp) (by unfold maxLen; simp)
  have HW0 : Hid (∀ x ∈ [key, 0, 1, 2], WF x) := by
    intro x hx
    simp at hx
    rcases hx with rfl | rfl | rfl | rfl
    · exact HKEY.out
    all_goals exact WalkArith.wf_i64 (by decide)
  have HB6 := Lib.hid (bAl HB3.out (.cells #[.int .i64 key, .int .i64 0, .int .i64 1, .int .i64 2] 3))
  clear hk6
  go_wp2_with fail
  go_loopw [7, 6] (fun i ks wr => ∃ (j : Nat) (av : Option Addr) (cv : Nat) (xs : List Int), j ≤ 8 ∧ j ≤ sl ∧ i = .int .i64 j ∧ ks = .slice av xs.length cv ∧ xs.length ≤ 4 + j ∧ Hid (wr.ownsRow w1.heap.size 3 1 (.slice av xs.length cv) xs.length (xs.map (Value.int .i64))) ∧ Hid (∀ x ∈ xs, WF x) ∧ Hid (Below w1.heap.size w1 wr)) (fun i _ _ => 8 - (intOf i).toNat)
  case atStart => exact ⟨0, _, 4, [key, 0, 1, 2], Nat.zero_le _, Nat.zero_le _, rfl, rfl, Nat.le_refl _, HX0, HW0, HB6⟩
  case round =>
    obtain ⟨j, av, cv, xs, hj8, hj, rfl, rfl, hxl, HX, HWX, HBX⟩ := hrel
    clear HX0 HW0 HB6 HB3 HBw bT bR bF
    have xT := below_cell HBX.out (HK1.out.cell 0 rfl)
    have xR := below_cell HBX.out (HK1.out.cell 2 rfl)
    obtain ⟨xl, hxl'⟩ : ∃ n, n = xs.length := ⟨_, rfl⟩
    have HXL := Lib.hid hxl'
    rw [← hxl'] at hxl HX ⊢
    clear hxl'
    by_cases hlt : j < sl
    · have hlt' : (j : Int) < sl := by omega
      by_cases h8 : j < 8
      · have h8' : (j : Int) < 8 := by omega
        obtain ⟨k, v, hg⟩ : ∃ k v, rs[j]? = some (k, v) := ⟨_, _, List.getElem?_eq_getElem (by rw [HRL.out]; exact hlt)⟩
        obtain ⟨g, rfl, c0, _⟩ := (HR1.out.below HBX.out) j k v hg
        have HWK : Hid (WF k) := by
          have h1 := (rows_ok HO.out).1 (k, v) (by rw [← HRS.out]; exact List.mem_of_getElem? hg)
          exact h1
        have hxl2 : (xl : Int) ≤ 12 := by omega
        have HSZ := Lib.hid HBX.out.size
        clear hg
        go_wp2_with (first | (at_builtin; refine wpList_append_lies _ rfl _ _ 66 rfl w1.heap.size 3 i0 (.int .i64 0) 1 8 Try.underlying66 hi hz0 hz1 hz2 rfl (by decide) (.slice av xl cv) xl _ rfl (ownsRow_below HX.out (bSelf _ _)) ⟨wr.heap.size, 0, none⟩ 1 1 [.int .i64 k] rfl rfl (one_new wr _ 3) (by simp [Value.oneCell']) (by omega) (by unfold maxLen; omega) (by omega) (by have := HSZ.out; simp; omega) _ rfl ?_; intro g3 cap3 w6 hown6 hgrow6 hat6 hlt6) | fail)
        have hB7 : Below w1.heap.size w1 w6 := by
          have h1 := bAl HBX.out (.cells #[.int .i64 k] 3)
          refine h1.trans ⟨hgrow6.os, hgrow6.tape, hgrow6.output, hgrow6.size, fun i hi => hgrow6.block i (by have h2 := h1.size; omega) (fun e => ?_)⟩
          rcases HX.out.2 with ⟨h6, _⟩ | ⟨g5, c5, cu5, h6, h7, _⟩
          · rw [h6] at e; cases e
          · rw [h6] at e
            have e2 : i = g5 := Option.some.inj e
            omega
        have HN : Hid (w6.ownsRow w1.heap.size 3 1 (.slice (some ⟨g3, 0, none⟩) (xs ++ [k]).length cap3) (xs ++ [k]).length ((xs ++ [k]).map (Value.int .i64))) := by
          show World.ownsRow _ _ _ _ _ _ _
          rw [List.length_append, ← HXL.out, List.map_append]
          exact hown6
        have HL2 : Hid (xl + 1 = (xs ++ [k]).length) := by show _ = _; rw [List.length_append, ← HXL.out]; rfl
        have HW7 : Hid (∀ x ∈ xs ++ [k], WF x) := by
          intro x hx
          rcases List.mem_append.1 hx with h | h
          · exact HWX.out x h
          · simp at h; subst h; exact HWK.out
        clear hown6 hgrow6 hat6 hlt6
        go_wp2_with fail
        go_roundw
        case rel => exact ⟨j + 1, _, cap3, xs ++ [k], by omega, by omega, by go_num, by rw [HL2.out], by have := HL2.out; omega, HN, HW7, hB7⟩
        case measure => simp [intOf]; omega
      · have h8' : ¬ ((j : Int) < 8) := by omega
        obtain ⟨wb, rfl⟩ : ∃ x, x = wr := ⟨_, rfl⟩
        have hxl2 : (xl : Int) ≤ 12 := by omega
        have HKA : Hid (KsAt wb av xs) := fun j k hj => by
          have h1 := own_down HX.out
          rw [HXL.out] at h1
          obtain ⟨ao, cap, e1, _, _, e2⟩ := keys_form h1
          simp only [Value.slice.injEq] at e1
          obtain ⟨rfl, -, rfl⟩ := e1
          exact e2 j k hj
        have HC0 : Hid (Below wb.heap.size wb wb) := Below.refl _ _
        go_wp2_with fail
        go_loopw [8, 9, 10, 11, 12, 13, 14, 15, 16, 17, 18, 19, 20, 21, 22] (fun i a9 a10 a11 a12 a13 a14 a15 a16 a17 a18 a19 a20 a21 a22 wr => ∃ j : Nat, j ≤ xl ∧ i = .int .i64 j ∧ Hid (Below wb.heap.size wb wr)) (fun i _ _ _ _ _ _ _ _ _ _ _ _ _ _ _ => xl - (intOf i).toNat)
        case atStart => exact ⟨0, Nat.zero_le _, rfl, HC0⟩
        case round =>
          obtain ⟨j2, hj2, rfl, HCr⟩ := hrel
          clear HC0
          have HBX0 := Lib.hid (HBX.out.trans (HCr.out.mono HBX.out.size))
          have f0T := below_cell HBX0.out (HK1.out.cell 0 rfl)
          have f0R := below_cell HBX0.out (HK1.out.cell 2 rfl)
          clear xT xR
          by_cases hq : j2 < xl
          · obtain ⟨x, hgx⟩ : ∃ x, xs[j2]? = some x := ⟨_, List.getElem?_eq_getElem (by rw [← HXL.out]; exact hq)⟩
            obtain ⟨gk, hav, hck⟩ := HKA.out j2 x hgx
            subst hav
            have f0K := below_cell HCr.out hck
            have HC0 := Lib.hid HCr.out
            have hq' : (j2 : Int) < xl := by omega
            have HWXX := Lib.hid (HWX.out x (List.mem_of_getElem? hgx))
            obtain ⟨g1, g2, hg1⟩ := getE_form S x
            obtain ⟨g3, g4, g5, hg5⟩ := atE_form S x
            clear hgx hck HKA
            have q1T := below_drew_cell f0T
            have q1K := below_drew_cell f0K
            have HD1 := Lib.hid (bThen HB1.out HBX0.out.drew)
            go_wp2_with fail
            go_region_held3 (fun w' => w'.cell? ⟨w.heap.size, 0, none⟩ = some (.pointer (some ⟨t, 0, none⟩)) ∧ w'.cell? ⟨gk, j2, none⟩ = some (.int .i64 x))
              (first
                | (with_reducible exact ⟨q1T, q1K⟩)
                | (with_reducible exact ⟨p1T, p1K⟩)
                | fail "nokeep")
              (first
                | (go_at_call 28; (with_reducible refine (C28.out _ HD1.out x HWXX.out).mono ?_); rintro e wA ⟨he, hbn⟩; rw [hg1] at he; subst he; have p1T := below_cell hbn q1T; have p1K := below_cell hbn q1K)
                | fail "noarm")
            have HBX1 := Lib.hid (bThen HBX0.out.drew hbn)
            have HC1 := Lib.hid (bThen HC0.out.drew hbn)
            have f1T := below_cell hbn (below_drew_cell f0T)
            have f1R := below_cell hbn (below_drew_cell f0R)
            have f1K := below_cell hbn (below_drew_cell f0K)
            clear f0T f0R f0K HD1 q1K
            clear hbn q1T p1T p1K
            have q2R := below_drew_cell f1R
            have q2K := below_drew_cell f1K
            have HD2 := Lib.hid (bThen HB1.out HBX1.out.drew)
            go_wp2_with fail
            go_region_held3 (fun w' => w'.cell? ⟨w.heap.size, 2, none⟩ = some (.pointer (some ⟨r, 0, none⟩)) ∧ w'.cell? ⟨gk, j2, none⟩ = some (.int .i64 x))
              (first
                | (with_reducible exact ⟨q2R, q2K⟩)
                | (with_reducible exact ⟨p2R, p2K⟩)
                | fail "nokeep")
              (first
                | (go_at_call 50; (with_reducible refine (C50.out _ HD2.out x).mono ?_); rintro e wB ⟨he, rfl⟩; rw [HA.out.getE HO.out HWXX.out, hg1] at he; subst he; have p2R := q2R; have p2K := q2K)
                | fail "noarm")
            have HBX2 := Lib.hid (bThen HBX1.out.drew (Below.refl _ _))
            have HC2 := Lib.hid (bThen HC1.out.drew (Below.refl _ _))
            have f2T := below_cell (Below.refl _ _) (below_drew_cell f1T)
            have f2R := below_cell (Below.refl _ _) (below_drew_cell f1R)
            have f2K := below_cell (Below.refl _ _) (below_drew_cell f1K)
            clear f1T f1R f1K HD2 q2K
            clear q2R p2R p2K
            have q3T := below_drew_cell f2T
            have q3K := below_drew_cell f2K
            have HD3 := Lib.hid (bThen HB1.out HBX2.out.drew)
            go_wp2_with fail
            go_region_held3 (fun w' => w'.cell? ⟨w.heap.size, 0, none⟩ = some (.pointer (some ⟨t, 0, none⟩)) ∧ w'.cell? ⟨gk, j2, none⟩ = some (.int .i64 x))
              (first
                | (with_reducible exact ⟨q3T, q3K⟩)
                | (with_reducible exact ⟨p3T, p3K⟩)
                | fail "nokeep")
              (first
                | (go_at_call 42; (with_reducible refine (C42.out _ HD3.out x HWXX.out).mono ?_); rintro e wC ⟨hwh, rfl⟩; obtain ⟨u1, u2, rfl⟩ := whR_form hwh; have HWH := Lib.hid hwh; clear hwh; have p3T := q3T; have p3K := q3K)
                | fail "noarm")
            have HBX3 := Lib.hid (bThen HBX2.out.drew (Below.refl _ _))
            have HC3 := Lib.hid (bThen HC2.out.drew (Below.refl _ _))
            have f3T := below_cell (Below.refl _ _) (below_drew_cell f2T)
            have f3R := below_cell (Below.refl _ _) (below_drew_cell f2R)
            have f3K := below_cell (Below.refl _ _) (below_drew_cell f2K)
            clear f2T f2R f2K HD3 q3K
            clear q3T p3T p3K
            have q4R := below_drew_cell f3R
            have q4K := below_drew_cell f3K
            have HD4 := Lib.hid (bThen HB1.out HBX3.out.drew)
            go_wp2_with fail
            go_region_held3 (fun w' => w'.cell? ⟨w.heap.size, 2, none⟩ = some (.pointer (some ⟨r, 0, none⟩)) ∧ w'.cell? ⟨gk, j2, none⟩ = some (.int .i64 x))
              (first
                | (with_reducible exact ⟨q4R, q4K⟩)
                | (with_reducible exact ⟨p4R, p4K⟩)
                | fail "nokeep")
              (first
                | (go_at_call 51; (with_reducible refine (C51.out _ HD4.out x).mono ?_); rintro e wD ⟨hwi, rfl⟩; have hee := HA.out.wh HO.out HWXX.out HWH.out hwi; subst hee; clear hwi; have p4R := q4R; have p4K := q4K)
                | fail "noarm")
            have HBX4 := Lib.hid (bThen HBX3.out.drew (Below.refl _ _))
            have HC4 := Lib.hid (bThen HC3.out.drew (Below.refl _ _))
            have f4T := below_cell (Below.refl _ _) (below_drew_cell f3T)
            have f4R := below_cell (Below.refl _ _) (below_drew_cell f3R)
            have f4K := below_cell (Below.refl _ _) (below_drew_cell f3K)
            clear f3T f3R f3K HD4 q4K
            clear q4R p4R p4K
            have q5T := below_drew_cell f4T
            have q5K := below_drew_cell f4K
            have HD5 := Lib.hid (bThen HB1.out HBX4.out.drew)
            go_wp2_with fail
            go_region_held3 (fun w' => w'.cell? ⟨w.heap.size, 0, none⟩ = some (.pointer (some ⟨t, 0, none⟩)) ∧ w'.cell? ⟨gk, j2, none⟩ = some (.int .i64 x))
              (first
                | (with_reducible exact ⟨q5T, q5K⟩)
                | (with_reducible exact ⟨p5T, p5K⟩)
                | fail "nokeep")
              (first
                | (go_at_call 41; (with_reducible refine (C41.out _ HD5.out x).mono ?_); rintro e wE ⟨he, hbn⟩; rw [hg5] at he; subst he; have p5T := below_cell hbn q5T; have p5K := below_cell hbn q5K)
                | fail "noarm")
            have HBX5 := Lib.hid (bThen HBX4.out.drew hbn)
            have HC5 := Lib.hid (bThen HC4.out.drew hbn)
            have f5T := below_cell hbn (below_drew_cell f4T)
            have f5R := below_cell hbn (below_drew_cell f4R)
            have f5K := below_cell hbn (below_drew_cell f4K)
            clear f4T f4R f4K HD5 q5K
            clear hbn q5T p5T p5K
            have q6R := below_drew_cell f5R
            have q6K := below_drew_cell f5K
            have HD6 := Lib.hid (bThen HB1.out HBX5.out.drew)
            go_wp2_with fail
            go_region_held3 (fun w' => w'.cell? ⟨w.heap.size, 2, none⟩ = some (.pointer (some ⟨r, 0, none⟩)) ∧ w'.cell? ⟨gk, j2, none⟩ = some (.int .i64 x))
              (first
                | (with_reducible exact ⟨q6R, q6K⟩)
                | (with_reducible exact ⟨p6R, p6K⟩)
                | fail "nokeep")
              (first
                | (go_at_call 52; (with_reducible refine (C52.out _ HD6.out x).mono ?_); rintro e wF ⟨he, hbn⟩; rw [HA.out.atE, hg5] at he; subst he; have p6R := below_cell hbn q6R; have p6K := below_cell hbn q6K)
                | fail "noarm")
            have HBX6 := Lib.hid (bThen HBX5.out.drew hbn)
            have HC6 := Lib.hid (bThen HC5.out.drew hbn)
            have f6T := below_cell hbn (below_drew_cell f5T)
            have f6R := below_cell hbn (below_drew_cell f5R)
            have f6K := below_cell hbn (below_drew_cell f5K)
            clear f5T f5R f5K HD6 q6K
            clear hbn q6R p6R p6K
            go_wp2_with fail
            go_roundw
            case rel => exact ⟨j2 + 1, by omega, by go_num, HC6⟩
            case measure => simp [intOf]; omega
          · have hq' : ¬ ((j2 : Int) < xl) := by omega
            obtain ⟨g3, g4, g5, hg5⟩ := atE_form S 0
            go_wp2_with fail
            refine (C39.out _ (bThen HB1.out HBX0.out)).mono ?_
            rintro e wA ⟨he, hb1⟩
            rw [hg5] at he
            subst he
            have HBX1 := Lib.hid (bThen HBX0.out hb1)
            have f1R := below_cell hb1 f0R
            clear hb1
            go_wp2_with fail
            refine (C53.out _ (bThen HB1.out HBX1.out)).mono ?_
            rintro e wB ⟨he, hb2⟩
            rw [HA.out.atE, hg5] at he
            subst he
            have HBX2 := Lib.hid (bThen HBX1.out hb2)
            clear hb2
            go_wp2
            go_ret
            exact ⟨rfl, bThen HB1.out HBX2.out⟩
    · have hlt' : ¬ ((j : Int) < sl) := by omega
      obtain ⟨wb, rfl⟩ : ∃ x, x = wr := ⟨_, rfl⟩
      have hxl2 : (xl : Int) ≤ 12 := by omega
      have HKA : Hid (KsAt wb av xs) := fun j k hj => by
        have h1 := own_down HX.out
        rw [HXL.out] at h1
        obtain ⟨ao, cap, e1, _, _, e2⟩ := keys_form h1
        simp only [Value.slice.injEq] at e1
        obtain ⟨rfl, -, rfl⟩ := e1
        exact e2 j k hj
      have HC0 : Hid (Below wb.heap.size wb wb) := Below.refl _ _
      go_wp2_with fail
      go_loopw [8, 9, 10, 11, 12, 13, 14, 15, 16, 17, 18, 19, 20, 21, 22] (fun i a9 a10 a11 a12 a13 a14 a15 a16 a17 a18 a19 a20 a21 a22 wr => ∃ j : Nat, j ≤ xl ∧ i = .int .i64 j ∧ Hid (Below wb.heap.size wb wr)) (fun i _ _ _ _ _ _ _ _ _ _ _ _ _ _ _ => xl - (intOf i).toNat)
      case atStart => exact ⟨0, Nat.zero_le _, rfl, HC0⟩
      case round =>
        obtain ⟨j2, hj2, rfl, HCr⟩ := hrel
        clear HC0
        have HBX0 := Lib.hid (HBX.out.trans (HCr.out.mono HBX.out.size))
        have f0T := below_cell HBX0.out (HK1.out.cell 0 rfl)
        have f0R := below_cell HBX0.out (HK1.out.cell 2 rfl)
        clear xT xR
        by_cases hq : j2 < xl
        · obtain ⟨x, hgx⟩ : ∃ x, xs[j2]? = some x := ⟨_, List.getElem?_eq_getElem (by rw [← HXL.out]; exact hq)⟩
          obtain ⟨gk, hav, hck⟩ := HKA.out j2 x hgx
          subst hav
          have f0K := below_cell HCr.out hck
          have HC0 := Lib.hid HCr.out
          have hq' : (j2 : Int) < xl := by omega
          have HWXX := Lib.hid (HWX.out x (List.mem_of_getElem? hgx))
          obtain ⟨g1, g2, hg1⟩ := getE_form S x
          obtain ⟨g3, g4, g5, hg5⟩ := atE_form S x
          clear hgx hck HKA
          have q1T := below_drew_cell f0T
          have q1K := below_drew_cell f0K
          have HD1 := Lib.hid (bThen HB1.out HBX0.out.drew)
          go_wp2_with fail
          go_region_held3 (fun w' => w'.cell? ⟨w.heap.size, 0, none⟩ = some (.pointer (some ⟨t, 0, none⟩)) ∧ w'.cell? ⟨gk, j2, none⟩ = some (.int .i64 x))
            (first
              | (with_reducible exact ⟨q1T, q1K⟩)
              | (with_reducible exact ⟨p1T, p1K⟩)
              | fail "nokeep")
            (first
              | (go_at_call 28; (with_reducible refine (C28.out _ HD1.out x HWXX.out).mono ?_); rintro e wA ⟨he, hbn⟩; rw [hg1] at he; subst he; have p1T := below_cell hbn q1T; have p1K := below_cell hbn q1K)
              | fail "noarm")
          have HBX1 := Lib.hid (bThen HBX0.out.drew hbn)
          have HC1 := Lib.hid (bThen HC0.out.drew hbn)
          have f1T := below_cell hbn (below_drew_cell f0T)
          have f1R := below_cell hbn (below_drew_cell f0R)
          have f1K := below_cell hbn (below_drew_cell f0K)
          clear f0T f0R f0K HD1 q1K
          clear hbn q1T p1T p1K
          have q2R := below_drew_cell f1R
          have q2K := below_drew_cell f1K
          have HD2 := Lib.hid (bThen HB1.out HBX1.out.drew)
          go_wp2_with fail
          go_region_held3 (fun w' => w'.cell? ⟨w.heap.size, 2, none⟩ = some (.pointer (some ⟨r, 0, none⟩)) ∧ w'.cell? ⟨gk, j2, none⟩ = some (.int .i64 x))
            (first
              | (with_reducible exact ⟨q2R, q2K⟩)
              | (with_reducible exact ⟨p2R, p2K⟩)
              | fail "nokeep")
            (first
              | (go_at_call 50; (with_reducible refine (C50.out _ HD2.out x).mono ?_); rintro e wB ⟨he, rfl⟩; rw [HA.out.getE HO.out HWXX.out, hg1] at he; subst he; have p2R := q2R; have p2K := q2K)
              | fail "noarm")
          have HBX2 := Lib.hid (bThen HBX1.out.drew (Below.refl _ _))
          have HC2 := Lib.hid (bThen HC1.out.drew (Below.refl _ _))
          have f2T := below_cell (Below.refl _ _) (below_drew_cell f1T)
          have f2R := below_cell (Below.refl _ _) (below_drew_cell f1R)
          have f2K := below_cell (Below.refl _ _) (below_drew_cell f1K)
          clear f1T f1R f1K HD2 q2K
          clear q2R p2R p2K
          have q3T := below_drew_cell f2T
          have q3K := below_drew_cell f2K
          have HD3 := Lib.hid (bThen HB1.out HBX2.out.drew)
          go_wp2_with fail
          go_region_held3 (fun w' => w'.cell? ⟨w.heap.size, 0, none⟩ = some (.pointer (some ⟨t, 0, none⟩)) ∧ w'.cell? ⟨gk, j2, none⟩ = some (.int .i64 x))
            (first
              | (with_reducible exact ⟨q3T, q3K⟩)
              | (with_reducible exact ⟨p3T, p3K⟩)
              | fail "nokeep")
            (first
              | (go_at_call 42; (with_reducible refine (C42.out _ HD3.out x HWXX.out).mono ?_); rintro e wC ⟨hwh, rfl⟩; obtain ⟨u1, u2, rfl⟩ := whR_form hwh; have HWH := Lib.hid hwh; clear hwh; have p3T := q3T; have p3K := q3K)
              | fail "noarm")
          have HBX3 := Lib.hid (bThen HBX2.out.drew (Below.refl _ _))
          have HC3 := Lib.hid (bThen HC2.out.drew (Below.refl _ _))
          have f3T := below_cell (Below.refl _ _) (below_drew_cell f2T)
          have f3R := below_cell (Below.refl _ _) (below_drew_cell f2R)
          have f3K := below_cell (Below.refl _ _) (below_drew_cell f2K)
          clear f2T f2R f2K HD3 q3K
          clear q3T p3T p3K
          have q4R := below_drew_cell f3R
          have q4K := below_drew_cell f3K
          have HD4 := Lib.hid (bThen HB1.out HBX3.out.drew)
          go_wp2_with fail
          go_region_held3 (fun w' => w'.cell? ⟨w.heap.size, 2, none⟩ = some (.pointer (some ⟨r, 0, none⟩)) ∧ w'.cell? ⟨gk, j2, none⟩ = some (.int .i64 x))
            (first
              | (with_reducible exact ⟨q4R, q4K⟩)
              | (with_reducible exact ⟨p4R, p4K⟩)
              | fail "nokeep")
            (first
              | (go_at_call 51; (with_reducible refine (C51.out _ HD4.out x).mono ?_); rintro e wD ⟨hwi, rfl⟩; have hee := HA.out.wh HO.out HWXX.out HWH.out hwi; subst hee; clear hwi; have p4R := q4R; have p4K := q4K)
              | fail "noarm")
          have HBX4 := Lib.hid (bThen HBX3.out.drew (Below.refl _ _))
          have HC4 := Lib.hid (bThen HC3.out.drew (Below.refl _ _))
          have f4T := below_cell (Below.refl _ _) (below_drew_cell f3T)
          have f4R := below_cell (Below.refl _ _) (below_drew_cell f3R)
          have f4K := below_cell (Below.refl _ _) (below_drew_cell f3K)
          clear f3T f3R f3K HD4 q4K
          clear q4R p4R p4K
          have q5T := below_drew_cell f4T
          have q5K := below_drew_cell f4K
          have HD5 := Lib.hid (bThen HB1.out HBX4.out.drew)
          go_wp2_with fail
          go_region_held3 (fun w' => w'.cell? ⟨w.heap.size, 0, none⟩ = some (.pointer (some ⟨t, 0, none⟩)) ∧ w'.cell? ⟨gk, j2, none⟩ = some (.int .i64 x))
            (first
              | (with_reducible exact ⟨q5T, q5K⟩)
              | (with_reducible exact ⟨p5T, p5K⟩)
              | fail "nokeep")
            (first
              | (go_at_call 41; (with_reducible refine (C41.out _ HD5.out x).mono ?_); rintro e wE ⟨he, hbn⟩; rw [hg5] at he; subst he; have p5T := below_cell hbn q5T; have p5K := below_cell hbn q5K)
              | fail "noarm")
          have HBX5 := Lib.hid (bThen HBX4.out.drew hbn)
          have HC5 := Lib.hid (bThen HC4.out.drew hbn)
          have f5T := below_cell hbn (below_drew_cell f4T)
          have f5R := below_cell hbn (below_drew_cell f4R)
          have f5K := below_cell hbn (below_drew_cell f4K)
          clear f4T f4R f4K HD5 q5K
          clear hbn q5T p5T p5K
          have q6R := below_drew_cell f5R
          have q6K := below_drew_cell f5K
          have HD6 := Lib.hid (bThen HB1.out HBX5.out.drew)
          go_wp2_with fail
          go_region_held3 (fun w' => w'.cell? ⟨w.heap.size, 2, none⟩ = some (.pointer (some ⟨r, 0, none⟩)) ∧ w'.cell? ⟨gk, j2, none⟩ = some (.int .i64 x))
            (first
              | (with_reducible exact ⟨q6R, q6K⟩)
              | (with_reducible exact ⟨p6R, p6K⟩)
              | fail "nokeep")
            (first
              | (go_at_call 52; (with_reducible refine (C52.out _ HD6.out x).mono ?_); rintro e wF ⟨he, hbn⟩; rw [HA.out.atE, hg5] at he; subst he; have p6R := below_cell hbn q6R; have p6K := below_cell hbn q6K)
              | fail "noarm")
          have HBX6 := Lib.hid (bThen HBX5.out.drew hbn)
          have HC6 := Lib.hid (bThen HC5.out.drew hbn)
          have f6T := below_cell hbn (below_drew_cell f5T)
          have f6R := below_cell hbn (below_drew_cell f5R)
          have f6K := below_cell hbn (below_drew_cell f5K)
          clear f5T f5R f5K HD6 q6K
          clear hbn q6R p6R p6K
          go_wp2_with fail
          go_roundw
          case rel => exact ⟨j2 + 1, by omega, by go_num, HC6⟩
          case measure => simp [intOf]; omega
        · have hq' : ¬ ((j2 : Int) < xl) := by omega
          obtain ⟨g3, g4, g5, hg5⟩ := atE_form S 0
          go_wp2_with fail
          refine (C39.out _ (bThen HB1.out HBX0.out)).mono ?_
          rintro e wA ⟨he, hb1⟩
          rw [hg5] at he
          subst he
          have HBX1 := Lib.hid (bThen HBX0.out hb1)
          have f1R := below_cell hb1 f0R
          clear hb1
          go_wp2_with fail
          refine (C53.out _ (bThen HB1.out HBX1.out)).mono ?_
          rintro e wB ⟨he, hb2⟩
          rw [HA.out.atE, hg5] at he
          subst he
          have HBX2 := Lib.hid (bThen HBX1.out hb2)
          clear hb2
          go_wp2
          go_ret
          exact ⟨rfl, bThen HB1.out HBX2.out⟩
end
end Go.Proofs.Ytagejkolgicecaa
