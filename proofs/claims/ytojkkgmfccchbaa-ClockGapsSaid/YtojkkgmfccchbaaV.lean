/- The law ClockGaps. -/
import Derived.Test.YtojkkgmfccchbaaU
import Derived.Test.YtojkkgmfccchbaaLB
namespace Go.Proofs.Ytojkkgmfccchbaa
open Go Go.RowKit Go.Sort

theorem u_len {n : Nat} (h : n ≤ 40) : IntKind.u64.wrap (n : Int) = n := by rw [IntKind.wrap_u64]; omega
theorem u_in {x : Int} (h0 : 0 ≤ x) (h : x ≤ 1000000) : IntKind.u64.wrap x = x := by rw [IntKind.wrap_u64]; omega
set_option maxRecDepth 100000 in
set_option maxHeartbeats 8000000 in
theorem t8 (v : Value) (l : List Int) (which into : Int) (w : World) (hz : LR w v l) : Calls Try.prog 8 #[v, .int .i64 which, .int .i64 into] w fun e w' => e = .returned (.bool true) ∧ Below w.heap.size w w' := by
  have C24 := Lib.hid (t24 v l w hz)
  have C18 := Lib.hid t18
  clear hz
  go_enter Try.func8, Try.ntmps8
  go_wp2_with fail
  refine C24.out.mono ?_
  rintro e w1 ⟨off, ch, zv, hgood, rfl, hzr, hb1⟩
  have hchl := (zOk_parts hgood.1).2.1
  have C23 := Lib.hid (t23 off zv ch w1 hzr (by omega))
  have HG := Lib.hid hgood
  clear C24 hzr hgood
  go_wp2_with fail
  refine C23.out.mono ?_
  rintro e w2 ⟨zv2, rfl, hzr2, hb2⟩
  have hB2 := bThen hb1 hb2
  have hl2 := hzr2
  obtain ⟨za, zc, rfl, _, hel⟩ := hl2
  have C27 := Lib.hid (fun m W hz => t27 off (.slice za ch.length zc) ch m W hz)
  have C29 := Lib.hid (fun x W hz => t29 off (.slice za ch.length zc) ch x W hz)
  have C28 := Lib.hid (fun x W hz hx => t28_ok off (.slice za ch.length zc) ch x W hz HG.out.1 hx)
  have HEL := Lib.hid hel
  clear C23 hb1 hb2 hel
  have HZ3 := Lib.hid (hzr2.below (bSelf w2 (.cells #[.int .i64 off, .slice za ch.length zc] 52)))
  have K3 := Lib.hid (Blk.new w2 #[.int .i64 off, .slice za ch.length zc] 52)
  have hB3 := bAl hB2 (.cells #[.int .i64 off, .slice za ch.length zc] 52)
  have hss := bSelf w2 (.cells #[.int .i64 off, .slice za ch.length zc] 52)
  have HEL3 : Hid (∀ k x, ch[k]? = some x → ∃ g o, za = some ⟨g, o, none⟩ ∧ g < w2.heap.size ∧ (w2.alloc (.cells #[.int .i64 off, .slice za ch.length zc] 52)).cell? ⟨g, o + k * 2, none⟩ = some (.int .i64 x.1) ∧ (w2.alloc (.cells #[.int .i64 off, .slice za ch.length zc] 52)).cell? ⟨g, o + k * 2 + 1, none⟩ = some (.int .i64 x.2)) := by
    intro k x hx
    obtain ⟨g, o, e, hg, c1, c2⟩ := HEL.out k x hx
    exact ⟨g, o, e, hg, (hss.cell (p := ⟨g, o + k * 2, none⟩) hg).trans c1, (hss.cell (p := ⟨g, o + k * 2 + 1, none⟩) hg).trans c2⟩
  have hsz : w2.heap.size ≤ (w2.alloc (.cells #[.int .i64 off, .slice za ch.length zc] 52)).heap.size := hss.size
  clear hss HEL
  have hB2' := hB2
  clear hzr2 hB2
  rcases Nat.eq_zero_or_pos ch.length with h0 | hpos
  · have h00 : ((ch.length : Int) == 0) = true := by rw [beq_iff_eq]; omega
    go_wp2_with fail
    refine (C18.out _).mono ?_
    rintro e w4 ⟨rfl, hb4⟩
    have hB4 := bThen (bAl hB2' _) hb4
    go_wp2
    go_ret
    exact ⟨rfl, hB4⟩
  · have hne : ((ch.length : Int) == 0) = false := by rw [beq_eq_false_iff_ne]; omega
    have hul := u_len hchl
    obtain ⟨k, hk, hk0, hk1⟩ := u_m2 which ch.length (by omega) (by omega)
    obtain ⟨n, rfl⟩ := Int.eq_ofNat_of_zero_le hk0
    have hn : n < ch.length := by omega
    have hg : ch[n]? = some ch[n] := List.getElem?_eq_getElem hn
    have HGAP := Lib.hid (fun b h1 h2 => gap_law (b := b) HG.out hg h1 h2)
    obtain ⟨gc, oc, rfl, hgc, c0, c1⟩ := HEL3.out n _ hg
    have hgw : gc < (w2.alloc (.cells #[.int .i64 off, .slice (some ⟨gc, oc, none⟩) ch.length zc] 52)).heap.size := Nat.lt_of_lt_of_le hgc hsz
    have hbo := ord_off ch _ n _ (good_ord HG.out) hg
    have hok := oldK_bd n ch off _ (good_ord HG.out) (zOk_parts HG.out.1).1
    have hob := HG.out.2 _ (List.mem_of_getElem? hg)
    have HCX := Lib.hid hg
    clear hg
    generalize ch[n] = c at *
    obtain ⟨at', co⟩ := c
    dsimp only at c0 c1 hbo hob
    cases n with
    | zero =>
      rw [oldK_zero] at hok HGAP
      have hgt : ¬ ((0 : Int) < 0) := by decide
      have z0 : oc + 0 * 2 = oc := by omega
      have z1 : oc + 0 * 2 + 1 = oc + 1 := by omega
      rw [z0] at c0
      rw [z1] at c1
      clear z0 z1
      have hk' : wrap64 ((IntKind.u64.wrap which).tmod ch.length) = 0 := hk
      clear hk hk0 hk1 hn
      by_cases hw : co - off ≤ 0
      · go_wp2_with fail
        refine (C18.out _).mono ?_
        rintro e w4 ⟨rfl, hb4⟩
        have hB4 := bThen (bAl hB2' _) hb4
        go_wp2
        go_ret
        exact ⟨rfl, hB4⟩
      · have hul2 : IntKind.u64.wrap (co - off) = co - off := u_in (by omega) (by omega)
        obtain ⟨bb, hbb, hbb0, hbb1⟩ := u_m2 into (co - off) (by omega) (by omega)
        obtain ⟨hof, hDok, hcase⟩ := HGAP.out bb hbb0 (by omega)
        have hne2 : ((co - off) == 0) = false := by rw [beq_eq_false_iff_ne]; omega
        have HOF := Lib.hid hof
        have HDOK := Lib.hid hDok
        have HCASE := Lib.hid hcase
        clear hof hDok hcase HGAP
        go_wp2_with fail
        have c11 := t11 (at' + off + bb) (w2.alloc (.cells #[.int .i64 off, .slice (some ⟨gc, oc, none⟩) ch.length zc] 52))
        rw [HOF.out] at c11
        refine c11.mono ?_
        rintro e w4 ⟨rfl, hb4⟩
        have hB4 := bThen (bAl hB2' (.cells #[.int .i64 off, .slice (some ⟨gc, oc, none⟩) ch.length zc] 52)) hb4
        have HZ4 := Lib.hid (HZ3.out.below hb4)
        have K4 := Lib.hid (blkDown K3.out hb4)
        clear c11 hb4 HZ3 K3 hB3 HEL3 hsz c0 c1 hgw HOF hbo hok hob HCX hul hul2 hbb hbb0 hbb1 hne2 hB2'
        generalize w2.heap.size = gz at *
        generalize at' + off + bb = S at *
        generalize at_ S = D at *
        obtain ⟨y, mo, d, h, i, s⟩ := D
        have HOK := HG.out.1
        have C28D : Hid (∀ W, ZR W (.slice (some ⟨gc, oc, none⟩) ch.length zc) ch → Calls Try.prog 28 #[.agg #[.int .i64 off, .slice (some ⟨gc, oc, none⟩) ch.length zc], .agg #[.int .i64 y, .int .i64 mo, .int .i64 d, .int .i64 h, .int .i64 i, .int .i64 s]] W (MosR (moms (⟨y, mo, d, h, i, s⟩ : Dt).sec (pers off ch)) 0 W)) := fun W hz => C28.out ⟨y, mo, d, h, i, s⟩ W hz HDOK.out
        have C19 : Hid (∀ W, Calls Try.prog 19 #[.agg #[.int .i64 y, .int .i64 mo, .int .i64 d, .int .i64 h, .int .i64 i, .int .i64 s]] W fun e w' => e = .returned (.agg #[.int .i64 y, .int .i64 mo, .int .i64 d, .int .i64 h, .int .i64 i, .int .i64 s]) ∧ Below W.heap.size W w') := fun W => t19 ⟨y, mo, d, h, i, s⟩ W
        clear C28 HDOK HG HOK
        generalize hMM : moms (⟨y, mo, d, h, i, s⟩ : Dt).sec (pers off ch) = M at *
        clear hMM
        go_wp2_with fail
        have hba := bSelf w4 (.cells #[.int .i64 y, .int .i64 mo, .int .i64 d, .int .i64 h, .int .i64 i, .int .i64 s] 28)
        have HZ5 := Lib.hid (HZ4.out.below hba)
        have K5 := Lib.hid (K4.out.alloc (.cells #[.int .i64 y, .int .i64 mo, .int .i64 d, .int .i64 h, .int .i64 i, .int .i64 s] 28))
        have D5 := Lib.hid (Blk.new w4 #[.int .i64 y, .int .i64 mo, .int .i64 d, .int .i64 h, .int .i64 i, .int .i64 s] 28)
        have hB5 := bAl hB4 (.cells #[.int .i64 y, .int .i64 mo, .int .i64 d, .int .i64 h, .int .i64 i, .int .i64 s] 28)
        generalize w4.heap.size = gd at *
        generalize w4.alloc (.cells #[.int .i64 y, .int .i64 mo, .int .i64 d, .int .i64 h, .int .i64 i, .int .i64 s] 28) = w5 at *
        clear hba hB4 HZ4 K4
        have q0 := K5.out.cell 0 rfl
        have q1 := K5.out.cell 1 rfl
        have ql := K5.out.lt
        have dl := D5.out.lt
        obtain ⟨d0, d1, d2, d3, d4, d5⟩ := cells6 (w1 := w5) (fun _ _ _ => rfl) D5.out
        go_region_law
          (first
            | (go_simp; go_at_call 19; (with_reducible refine (C19.out _).mono ?_); rintro e w6 ⟨rfl, hb6⟩; have hb6 := bUndrew hb6; have K6 := Lib.hid (blkDown K5.out hb6); have D6 := Lib.hid (blkDown D5.out hb6); have HZ6 := Lib.hid (HZ5.out.below hb6); have r0 := K6.out.cell 0 rfl; have r1 := K6.out.cell 1 rfl; have rl := K6.out.lt)
            | (go_simp; go_at_call 28; (with_reducible refine (C28D.out _ HZ6.out).mono ?_); rintro e w7 ⟨mv, rfl, hir, hb7⟩))
        all_goals (
          have hB7 := bThen (bThen hB5 hb6) hb7
          have HZ7 := Lib.hid (HZ6.out.below hb7)
          have K7 := Lib.hid (blkDown K6.out hb7)
          have D7 := Lib.hid (blkDown D6.out hb7)
          have I7 := Lib.hid hir
          clear hB5 hb6 hb7 HZ6 HZ5 K5 K6 D5 D6 hir q0 q1 ql dl d0 d1 d2 d3 d4 d5 r0 r1 rl
          have q0 := K7.out.cell 0 rfl
          have q1 := K7.out.cell 1 rfl
          have ql := K7.out.lt
          have dl := D7.out.lt
          obtain ⟨d0, d1, d2, d3, d4, d5⟩ := cells6 (w1 := w7) (fun _ _ _ => rfl) D7.out
          rcases HCASE.out with ⟨a, r, hM, hR⟩ | ⟨m, E, x, hM, hR, hL, hE, hS, hx⟩
          · have C29D : Hid (∀ W, ZR W (.slice (some ⟨gc, oc, none⟩) ch.length zc) ch → Calls Try.prog 29 #[.agg #[.int .i64 off, .slice (some ⟨gc, oc, none⟩) ch.length zc], .agg #[.int .i64 y, .int .i64 mo, .int .i64 d, .int .i64 h, .int .i64 i, .int .i64 s]] W fun e w' => e = .returned (.tuple #[.int .i64 a, .int .i64 0]) ∧ Below W.heap.size W w') := by
              intro W hz
              have hc := C29.out ⟨y, mo, d, h, i, s⟩ W hz
              rw [hR] at hc
              exact hc
            have hread := I7.out.read
            rw [hM] at hread
            rcases hread with ⟨_, hnil⟩ | ⟨gm, cm, rfl, hcm, hcx, hgm, hcells⟩
            · cases hnil
            have e0 := hcells 0 a rfl
            have hpos2 : (0 : Int) < ((a :: r).length : Int) := by simp
            generalize (a :: r).length = ml at *
            clear hcells HCASE C29 hM hR I7
            go_wp2_with fail
            have qr0 := cell_regrown q0
            have qr1 := cell_regrown q1
            have dr0 := cell_regrown d0
            have dr1 := cell_regrown d1
            have dr2 := cell_regrown d2
            have dr3 := cell_regrown d3
            have dr4 := cell_regrown d4
            have dr5 := cell_regrown d5
            refine wp_region_quiet_below (by kernel_rfl) (by kernel_rfl) ?_
            repeat (quiet_step (first | ((go_at_call 19; (with_reducible exact Calls.regrown_of (C19.out _))))| ((go_at_call 29; (with_reducible exact Calls.regrown_of (C29D.out _ (HZ7.out.below (below_regrown w7 _ _))))))))
            refine wpQuiet_nil ?_
            intro _ hw'
            obtain ⟨⟨dq, osq⟩, hw''⟩ := hw'
            subst hw''
            have hbq := below_regrown w7 dq osq
            have hB8 := bThen hB7 hbq
            have e8 := (hbq.cell (p := ⟨gm, 0, none⟩) hgm).trans e0
            clear qr0 qr1 dr0 dr1 dr2 dr3 dr4 dr5 q0 q1 d0 d1 d2 d3 d4 d5 e0
            generalize grow (redrawn w7 dq) osq = w8 at *
            go_wp2_with fail
            refine (C18.out _).mono ?_
            rintro e w9 ⟨rfl, hb9⟩
            have hB9 := bThen hB8 hb9
            go_wp2
            go_ret
            exact ⟨rfl, hB9⟩
          · have C29D : Hid (∀ W, ZR W (.slice (some ⟨gc, oc, none⟩) ch.length zc) ch → Calls Try.prog 29 #[.agg #[.int .i64 off, .slice (some ⟨gc, oc, none⟩) ch.length zc], .agg #[.int .i64 y, .int .i64 mo, .int .i64 d, .int .i64 h, .int .i64 i, .int .i64 s]] W fun e w' => e = .returned (.tuple #[.int .i64 m, .int .i64 0]) ∧ Below W.heap.size W w') := by
              intro W hz
              have hc := C29.out ⟨y, mo, d, h, i, s⟩ W hz
              rw [hR] at hc
              exact hc
            have hread := I7.out.read
            rw [hM] at hread
            obtain ⟨sa, cm, rfl⟩ : ∃ sa cm, mv = .slice sa 0 cm := by
              rcases hread with ⟨h1, _⟩ | ⟨gm, cm, h1, _⟩
              · exact ⟨_, _, h1⟩
              · exact ⟨_, _, h1⟩
            · obtain ⟨ey, em, ed, eh, ei, es⟩ := E
              have C27D : Hid (∀ W, ZR W (.slice (some ⟨gc, oc, none⟩) ch.length zc) ch → Calls Try.prog 27 #[.agg #[.int .i64 off, .slice (some ⟨gc, oc, none⟩) ch.length zc], .int .i64 m] W fun e w' => e = .returned (.tuple #[.agg #[.int .i64 ey, .int .i64 em, .int .i64 ed, .int .i64 eh, .int .i64 ei, .int .i64 es], .int .i64 0]) ∧ Below W.heap.size W w') := by
                intro W hz
                have hc := C27.out m W hz
                rw [hL] at hc
                exact hc
              have C13E : Hid (∀ W, Calls Try.prog 13 #[.agg #[.int .i64 ey, .int .i64 em, .int .i64 ed, .int .i64 eh, .int .i64 ei, .int .i64 es]] W fun e w' => e = .returned (.tuple #[.int .i64 x, .int .i64 0]) ∧ Below W.heap.size W w') := by
                intro W
                have hc := t13 ⟨ey, em, ed, eh, ei, es⟩ W
                rw [hE] at hc
                exact hc
              have C13D : Hid (∀ W, Calls Try.prog 13 #[.agg #[.int .i64 y, .int .i64 mo, .int .i64 d, .int .i64 h, .int .i64 i, .int .i64 s]] W fun e w' => e = .returned (.tuple #[.int .i64 S, .int .i64 0]) ∧ Below W.heap.size W w') := by
                intro W
                have hc := t13 ⟨y, mo, d, h, i, s⟩ W
                rw [hS] at hc
                exact hc
              clear HCASE C29 C27 hM hR hL hE hS I7
              go_wp2_with fail
              have qr0 := cell_regrown q0
              have qr1 := cell_regrown q1
              have dr0 := cell_regrown d0
              have dr1 := cell_regrown d1
              have dr2 := cell_regrown d2
              have dr3 := cell_regrown d3
              have dr4 := cell_regrown d4
              have dr5 := cell_regrown d5
              refine wp_region_quiet_below (by kernel_rfl) (by kernel_rfl) ?_
              repeat (quiet_step (first | ((go_at_call 19; (with_reducible exact Calls.regrown_of (C19.out _))))| ((go_at_call 29; (with_reducible exact Calls.regrown_of (C29D.out _ (HZ7.out.below (below_regrown w7 _ _))))))))
              refine wpQuiet_nil ?_
              intro _ hw'
              obtain ⟨⟨dq, osq⟩, hw''⟩ := hw'
              subst hw''
              have hbq := below_regrown w7 dq osq
              have hB8 := bThen hB7 hbq
              have HZ8 := Lib.hid (HZ7.out.below hbq)
              have K8 := Lib.hid (blkDown K7.out hbq)
              have D8 := Lib.hid (blkDown D7.out hbq)
              clear qr0 qr1 dr0 dr1 dr2 dr3 dr4 dr5 q0 q1 d0 d1 d2 d3 d4 d5 ql dl HZ7 K7 D7 hB7 hbq
              generalize grow (redrawn w7 dq) osq = w8 at *
              have q0 := K8.out.cell 0 rfl
              have q1 := K8.out.cell 1 rfl
              have hbx : (x != S) = true := by simpa using hx
              have hbx2 : (x == S) = false := by simpa using hx
              go_wp2_with fail
              refine (C27D.out w8 HZ8.out).mono ?_
              rintro e w9 ⟨rfl, hb9⟩
              have hB9 := bThen hB8 hb9
              have D9 := Lib.hid (blkDown D8.out hb9)
              clear q0 q1 hb9 hB8 D8 HZ8 K8
              go_wp2_with fail
              refine (C13E.out _).mono ?_
              rintro e w10 ⟨rfl, hb10⟩
              have hB10 := bThen (bAl hB9 _) hb10
              have D10 := Lib.hid (blkDown (D9.out.alloc _) hb10)
              obtain ⟨d0, d1, d2, d3, d4, d5⟩ := cells6 (w1 := w10) (fun _ _ _ => rfl) D10.out
              go_wp2_with fail
              refine (C19.out _).mono ?_
              rintro e w11 ⟨rfl, hb11⟩
              have hB11 := bThen hB10 hb11
              go_wp2_with fail
              refine (C13D.out _).mono ?_
              rintro e w12 ⟨rfl, hb12⟩
              have hB12 := bThen hB11 hb12
              go_wp2_with fail
              refine (C18.out _).mono ?_
              rintro e w13 ⟨rfl, hb13⟩
              have hB13 := bThen hB12 hb13
              go_wp2
              go_ret
              exact ⟨rfl, hB13⟩
)
    | succ j =>
      have hjl : j < ch.length := by omega
      have hgj : ch[j]? = some ch[j] := List.getElem?_eq_getElem hjl
      rw [oldK_succ j off ch _ hgj] at hok HGAP
      obtain ⟨_, _, he, _, p0, p1⟩ := HEL3.out j _ hgj
      obtain ⟨rfl, rfl, _⟩ := Addr.mk.inj (Option.some.inj he)
      generalize ch[j].2 = old at *
      generalize ch[j].1 = pa at *
      have tn : ((j : Int) + 1).toNat = j + 1 := by omega
      have tn2 : (j : Int).toNat = j := by omega
      have hk' : wrap64 ((IntKind.u64.wrap which).tmod ch.length) = (j : Int) + 1 := hk
      have hj1 : (j : Int) + 1 < ch.length := by omega
      have hj0 : (0 : Int) ≤ (j : Int) + 1 := by omega
      clear hk hk0 hk1
      have v2 : IntKind.i64.wrap ((j : Int) + 1 - 1) = j := by rw [show (j : Int) + 1 - 1 = j by omega]; exact IntWalk.i64_in _ (by omega)
      have hgt : ((j : Int) + 1 > 0) := by omega
      by_cases hw : co - old ≤ 0
      · go_wp2_with fail
        refine (C18.out _).mono ?_
        rintro e w4 ⟨rfl, hb4⟩
        have hB4 := bThen (bAl hB2' _) hb4
        go_wp2
        go_ret
        exact ⟨rfl, hB4⟩
      · have hul2 : IntKind.u64.wrap (co - old) = co - old := u_in (by omega) (by omega)
        obtain ⟨bb, hbb, hbb0, hbb1⟩ := u_m2 into (co - old) (by omega) (by omega)
        obtain ⟨hof, hDok, hcase⟩ := HGAP.out bb hbb0 (by omega)
        have hne2 : ((co - old) == 0) = false := by rw [beq_eq_false_iff_ne]; omega
        have HOF := Lib.hid hof
        have HDOK := Lib.hid hDok
        have HCASE := Lib.hid hcase
        clear hof hDok hcase HGAP
        go_wp2_with fail
        have c11 := t11 (at' + old + bb) (w2.alloc (.cells #[.int .i64 off, .slice (some ⟨gc, oc, none⟩) ch.length zc] 52))
        rw [HOF.out] at c11
        refine c11.mono ?_
        rintro e w4 ⟨rfl, hb4⟩
        have hB4 := bThen (bAl hB2' (.cells #[.int .i64 off, .slice (some ⟨gc, oc, none⟩) ch.length zc] 52)) hb4
        have HZ4 := Lib.hid (HZ3.out.below hb4)
        have K4 := Lib.hid (blkDown K3.out hb4)
        clear c11 hb4 HZ3 K3 hB3 HEL3 hsz c0 c1 hgw HOF hbo hok hob HCX hul hul2 hbb hbb0 hbb1 hne2 hB2'
        generalize w2.heap.size = gz at *
        generalize at' + old + bb = S at *
        generalize at_ S = D at *
        obtain ⟨y, mo, d, h, i, s⟩ := D
        have HOK := HG.out.1
        have C28D : Hid (∀ W, ZR W (.slice (some ⟨gc, oc, none⟩) ch.length zc) ch → Calls Try.prog 28 #[.agg #[.int .i64 off, .slice (some ⟨gc, oc, none⟩) ch.length zc], .agg #[.int .i64 y, .int .i64 mo, .int .i64 d, .int .i64 h, .int .i64 i, .int .i64 s]] W (MosR (moms (⟨y, mo, d, h, i, s⟩ : Dt).sec (pers off ch)) 0 W)) := fun W hz => C28.out ⟨y, mo, d, h, i, s⟩ W hz HDOK.out
        have C19 : Hid (∀ W, Calls Try.prog 19 #[.agg #[.int .i64 y, .int .i64 mo, .int .i64 d, .int .i64 h, .int .i64 i, .int .i64 s]] W fun e w' => e = .returned (.agg #[.int .i64 y, .int .i64 mo, .int .i64 d, .int .i64 h, .int .i64 i, .int .i64 s]) ∧ Below W.heap.size W w') := fun W => t19 ⟨y, mo, d, h, i, s⟩ W
        clear C28 HDOK HG HOK
        generalize hMM : moms (⟨y, mo, d, h, i, s⟩ : Dt).sec (pers off ch) = M at *
        clear hMM
        go_wp2_with fail
        have hba := bSelf w4 (.cells #[.int .i64 y, .int .i64 mo, .int .i64 d, .int .i64 h, .int .i64 i, .int .i64 s] 28)
        have HZ5 := Lib.hid (HZ4.out.below hba)
        have K5 := Lib.hid (K4.out.alloc (.cells #[.int .i64 y, .int .i64 mo, .int .i64 d, .int .i64 h, .int .i64 i, .int .i64 s] 28))
        have D5 := Lib.hid (Blk.new w4 #[.int .i64 y, .int .i64 mo, .int .i64 d, .int .i64 h, .int .i64 i, .int .i64 s] 28)
        have hB5 := bAl hB4 (.cells #[.int .i64 y, .int .i64 mo, .int .i64 d, .int .i64 h, .int .i64 i, .int .i64 s] 28)
        generalize w4.heap.size = gd at *
        generalize w4.alloc (.cells #[.int .i64 y, .int .i64 mo, .int .i64 d, .int .i64 h, .int .i64 i, .int .i64 s] 28) = w5 at *
        clear hba hB4 HZ4 K4
        have q0 := K5.out.cell 0 rfl
        have q1 := K5.out.cell 1 rfl
        have ql := K5.out.lt
        have dl := D5.out.lt
        obtain ⟨d0, d1, d2, d3, d4, d5⟩ := cells6 (w1 := w5) (fun _ _ _ => rfl) D5.out
        go_region_law
          (first
            | (go_simp; go_at_call 19; (with_reducible refine (C19.out _).mono ?_); rintro e w6 ⟨rfl, hb6⟩; have hb6 := bUndrew hb6; have K6 := Lib.hid (blkDown K5.out hb6); have D6 := Lib.hid (blkDown D5.out hb6); have HZ6 := Lib.hid (HZ5.out.below hb6); have r0 := K6.out.cell 0 rfl; have r1 := K6.out.cell 1 rfl; have rl := K6.out.lt)
            | (go_simp; go_at_call 28; (with_reducible refine (C28D.out _ HZ6.out).mono ?_); rintro e w7 ⟨mv, rfl, hir, hb7⟩))
        all_goals (
          have hB7 := bThen (bThen hB5 hb6) hb7
          have HZ7 := Lib.hid (HZ6.out.below hb7)
          have K7 := Lib.hid (blkDown K6.out hb7)
          have D7 := Lib.hid (blkDown D6.out hb7)
          have I7 := Lib.hid hir
          clear hB5 hb6 hb7 HZ6 HZ5 K5 K6 D5 D6 hir q0 q1 ql dl d0 d1 d2 d3 d4 d5 r0 r1 rl
          have q0 := K7.out.cell 0 rfl
          have q1 := K7.out.cell 1 rfl
          have ql := K7.out.lt
          have dl := D7.out.lt
          obtain ⟨d0, d1, d2, d3, d4, d5⟩ := cells6 (w1 := w7) (fun _ _ _ => rfl) D7.out
          rcases HCASE.out with ⟨a, r, hM, hR⟩ | ⟨m, E, x, hM, hR, hL, hE, hS, hx⟩
          · have C29D : Hid (∀ W, ZR W (.slice (some ⟨gc, oc, none⟩) ch.length zc) ch → Calls Try.prog 29 #[.agg #[.int .i64 off, .slice (some ⟨gc, oc, none⟩) ch.length zc], .agg #[.int .i64 y, .int .i64 mo, .int .i64 d, .int .i64 h, .int .i64 i, .int .i64 s]] W fun e w' => e = .returned (.tuple #[.int .i64 a, .int .i64 0]) ∧ Below W.heap.size W w') := by
              intro W hz
              have hc := C29.out ⟨y, mo, d, h, i, s⟩ W hz
              rw [hR] at hc
              exact hc
            have hread := I7.out.read
            rw [hM] at hread
            rcases hread with ⟨_, hnil⟩ | ⟨gm, cm, rfl, hcm, hcx, hgm, hcells⟩
            · cases hnil
            have e0 := hcells 0 a rfl
            have hpos2 : (0 : Int) < ((a :: r).length : Int) := by simp
            generalize (a :: r).length = ml at *
            clear hcells HCASE C29 hM hR I7
            go_wp2_with fail
            have qr0 := cell_regrown q0
            have qr1 := cell_regrown q1
            have dr0 := cell_regrown d0
            have dr1 := cell_regrown d1
            have dr2 := cell_regrown d2
            have dr3 := cell_regrown d3
            have dr4 := cell_regrown d4
            have dr5 := cell_regrown d5
            refine wp_region_quiet_below (by kernel_rfl) (by kernel_rfl) ?_
            repeat (quiet_step (first | ((go_at_call 19; (with_reducible exact Calls.regrown_of (C19.out _))))| ((go_at_call 29; (with_reducible exact Calls.regrown_of (C29D.out _ (HZ7.out.below (below_regrown w7 _ _))))))))
            refine wpQuiet_nil ?_
            intro _ hw'
            obtain ⟨⟨dq, osq⟩, hw''⟩ := hw'
            subst hw''
            have hbq := below_regrown w7 dq osq
            have hB8 := bThen hB7 hbq
            have e8 := (hbq.cell (p := ⟨gm, 0, none⟩) hgm).trans e0
            clear qr0 qr1 dr0 dr1 dr2 dr3 dr4 dr5 q0 q1 d0 d1 d2 d3 d4 d5 e0
            generalize grow (redrawn w7 dq) osq = w8 at *
            go_wp2_with fail
            refine (C18.out _).mono ?_
            rintro e w9 ⟨rfl, hb9⟩
            have hB9 := bThen hB8 hb9
            go_wp2
            go_ret
            exact ⟨rfl, hB9⟩
          · have C29D : Hid (∀ W, ZR W (.slice (some ⟨gc, oc, none⟩) ch.length zc) ch → Calls Try.prog 29 #[.agg #[.int .i64 off, .slice (some ⟨gc, oc, none⟩) ch.length zc], .agg #[.int .i64 y, .int .i64 mo, .int .i64 d, .int .i64 h, .int .i64 i, .int .i64 s]] W fun e w' => e = .returned (.tuple #[.int .i64 m, .int .i64 0]) ∧ Below W.heap.size W w') := by
              intro W hz
              have hc := C29.out ⟨y, mo, d, h, i, s⟩ W hz
              rw [hR] at hc
              exact hc
            have hread := I7.out.read
            rw [hM] at hread
            obtain ⟨sa, cm, rfl⟩ : ∃ sa cm, mv = .slice sa 0 cm := by
              rcases hread with ⟨h1, _⟩ | ⟨gm, cm, h1, _⟩
              · exact ⟨_, _, h1⟩
              · exact ⟨_, _, h1⟩
            · obtain ⟨ey, em, ed, eh, ei, es⟩ := E
              have C27D : Hid (∀ W, ZR W (.slice (some ⟨gc, oc, none⟩) ch.length zc) ch → Calls Try.prog 27 #[.agg #[.int .i64 off, .slice (some ⟨gc, oc, none⟩) ch.length zc], .int .i64 m] W fun e w' => e = .returned (.tuple #[.agg #[.int .i64 ey, .int .i64 em, .int .i64 ed, .int .i64 eh, .int .i64 ei, .int .i64 es], .int .i64 0]) ∧ Below W.heap.size W w') := by
                intro W hz
                have hc := C27.out m W hz
                rw [hL] at hc
                exact hc
              have C13E : Hid (∀ W, Calls Try.prog 13 #[.agg #[.int .i64 ey, .int .i64 em, .int .i64 ed, .int .i64 eh, .int .i64 ei, .int .i64 es]] W fun e w' => e = .returned (.tuple #[.int .i64 x, .int .i64 0]) ∧ Below W.heap.size W w') := by
                intro W
                have hc := t13 ⟨ey, em, ed, eh, ei, es⟩ W
                rw [hE] at hc
                exact hc
              have C13D : Hid (∀ W, Calls Try.prog 13 #[.agg #[.int .i64 y, .int .i64 mo, .int .i64 d, .int .i64 h, .int .i64 i, .int .i64 s]] W fun e w' => e = .returned (.tuple #[.int .i64 S, .int .i64 0]) ∧ Below W.heap.size W w') := by
                intro W
                have hc := t13 ⟨y, mo, d, h, i, s⟩ W
                rw [hS] at hc
                exact hc
              clear HCASE C29 C27 hM hR hL hE hS I7
              go_wp2_with fail
              have qr0 := cell_regrown q0
              have qr1 := cell_regrown q1
              have dr0 := cell_regrown d0
              have dr1 := cell_regrown d1
              have dr2 := cell_regrown d2
              have dr3 := cell_regrown d3
              have dr4 := cell_regrown d4
              have dr5 := cell_regrown d5
              refine wp_region_quiet_below (by kernel_rfl) (by kernel_rfl) ?_
              repeat (quiet_step (first | ((go_at_call 19; (with_reducible exact Calls.regrown_of (C19.out _))))| ((go_at_call 29; (with_reducible exact Calls.regrown_of (C29D.out _ (HZ7.out.below (below_regrown w7 _ _))))))))
              refine wpQuiet_nil ?_
              intro _ hw'
              obtain ⟨⟨dq, osq⟩, hw''⟩ := hw'
              subst hw''
              have hbq := below_regrown w7 dq osq
              have hB8 := bThen hB7 hbq
              have HZ8 := Lib.hid (HZ7.out.below hbq)
              have K8 := Lib.hid (blkDown K7.out hbq)
              have D8 := Lib.hid (blkDown D7.out hbq)
              clear qr0 qr1 dr0 dr1 dr2 dr3 dr4 dr5 q0 q1 d0 d1 d2 d3 d4 d5 ql dl HZ7 K7 D7 hB7 hbq
              generalize grow (redrawn w7 dq) osq = w8 at *
              have q0 := K8.out.cell 0 rfl
              have q1 := K8.out.cell 1 rfl
              have hbx : (x != S) = true := by simpa using hx
              have hbx2 : (x == S) = false := by simpa using hx
              go_wp2_with fail
              refine (C27D.out w8 HZ8.out).mono ?_
              rintro e w9 ⟨rfl, hb9⟩
              have hB9 := bThen hB8 hb9
              have D9 := Lib.hid (blkDown D8.out hb9)
              clear q0 q1 hb9 hB8 D8 HZ8 K8
              go_wp2_with fail
              refine (C13E.out _).mono ?_
              rintro e w10 ⟨rfl, hb10⟩
              have hB10 := bThen (bAl hB9 _) hb10
              have D10 := Lib.hid (blkDown (D9.out.alloc _) hb10)
              obtain ⟨d0, d1, d2, d3, d4, d5⟩ := cells6 (w1 := w10) (fun _ _ _ => rfl) D10.out
              go_wp2_with fail
              refine (C19.out _).mono ?_
              rintro e w11 ⟨rfl, hb11⟩
              have hB11 := bThen hB10 hb11
              go_wp2_with fail
              refine (C13D.out _).mono ?_
              rintro e w12 ⟨rfl, hb12⟩
              have hB12 := bThen hB11 hb12
              go_wp2_with fail
              refine (C18.out _).mono ?_
              rintro e w13 ⟨rfl, hb13⟩
              have hB13 := bThen hB12 hb13
              go_wp2
              go_ret
              exact ⟨rfl, hB13⟩
)
end Go.Proofs.Ytojkkgmfccchbaa
