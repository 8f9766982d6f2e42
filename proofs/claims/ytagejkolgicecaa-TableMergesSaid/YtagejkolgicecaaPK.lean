/- TableMerges. -/
import Derived.Deep.RegionHeld3
import Derived.Test.YtagejkolgicecaaPM
import Derived.Test.YtagejkolgicecaaPJ
namespace Go.Proofs.Ytagejkolgicecaa
open Go Go.RowKit Go.Maps
set_option maxRecDepth 100000 in
set_option maxHeartbeats 16000000 in
theorem t8 (w : World) (ao : Option Addr) (cap : Nat) (ds : List Dd) (hD : DsP w ao ds) (hl : ds.length ≤ 9223372036854775807) (ao1 : Option Addr) (cap1 : Nat) (ms : List Dd) (hM : DsP w ao1 ms) (hl1 : ms.length ≤ 9223372036854775807) :
    Calls Try.prog 8 #[.slice ao ds.length cap, .slice ao1 ms.length cap1] w fun e w' => e = .returned (.bool true) ∧ Below w.heap.size w w' := by
  have C16 := Lib.hid (t16 (Zoo.start w) 0 ao cap ds hD hl)
  have HM := Lib.hid hM
  clear hD hM
  go_enter Try.func8, Try.ntmps8
  go_wp2_with fail
  refine C16.out.mono ?_
  clear C16
  rintro e w2 ⟨t, o, r, p, S, O, R, Q, f, N, rfl, hz2, hg, hN, -⟩
  have HG := Lib.hid hg
  have HN := Lib.hid hN
  have hb4 := bSelf w2 (.cells #[.pointer (some ⟨t, 0, none⟩), .pointer (some ⟨o, 0, none⟩), .pointer (some ⟨r, 0, none⟩), .pointer (some ⟨p, 0, none⟩)] 26)
  obtain ⟨P2, hzb, hQ, hQ2, -⟩ := hz2.base hb4
  have hZX := hz2.below hb4
  have HZX0 := Lib.hid hZX
  have hQ2' : ∀ k, k < w.heap.size → P2 k := fun k hk => hQ2 k hk trivial
  have HQ2 := Lib.hid hQ2'
  have HP4 : Hid (P2 w2.heap.size) := hQ _ (Nat.le_refl _)
  have HKP := Lib.hid (Blk.new w2 #[.pointer (some ⟨t, 0, none⟩), .pointer (some ⟨o, 0, none⟩), .pointer (some ⟨r, 0, none⟩), .pointer (some ⟨p, 0, none⟩)] 26)
  have C16b := Lib.hid (t16g hzb hZX.end_ hQ2' 4 ao1 cap1 ms HM.out hl1)
  clear hz2 hg hN hb4 hzb hQ hQ2 hQ2' hZX
  go_wp2_with fail
  generalize w2.alloc (.cells #[.pointer (some ⟨t, 0, none⟩), .pointer (some ⟨o, 0, none⟩), .pointer (some ⟨r, 0, none⟩), .pointer (some ⟨p, 0, none⟩)] 26) = W3 at *
  refine C16b.out.mono ?_
  clear C16b
  rintro e w4 ⟨t2, o2, r2, p2, S2, O2, R2, Q2, f2, N2, rfl, hz4, hg2, hN2, hou⟩
  have HG2 := Lib.hid hg2
  have HGa : Hid (Game 0 N f2 t o r p S O R Q) := HG.out.congr' (fun q _ hq => hou q (.inl (by omega)))
  have HN2 := Lib.hid hN2
  have hb5 := bSelf w4 (.cells #[.pointer (some ⟨t2, 0, none⟩), .pointer (some ⟨o2, 0, none⟩), .pointer (some ⟨r2, 0, none⟩), .pointer (some ⟨p2, 0, none⟩)] 26)
  obtain ⟨P3, hzc, hQ3, hQ4, -⟩ := hz4.base hb5
  have HZX5 := Lib.hid (HZX0.out.back (hz4.below hb5) (fun k hk _ => HQ2.out k hk))
  have HQ5 : Hid (∀ k, k < w.heap.size → P3 k) := fun k hk => hQ4 k (by have := HZX0.out.tn.size; omega) (HQ2.out k hk)
  have hPa : P3 w2.heap.size := hQ4 _ HKP.out.lt HP4.out
  have HPb : Hid (P3 w4.heap.size) := hQ3 _ (Nat.le_refl _)
  have hkb := (hz4.below hb5).row HP4.out HKP.out
  have hkc := Blk.new w4 #[.pointer (some ⟨t2, 0, none⟩), .pointer (some ⟨o2, 0, none⟩), .pointer (some ⟨r2, 0, none⟩), .pointer (some ⟨p2, 0, none⟩)] 26
  have HPA := Lib.hid hPa
  have HKA := Lib.hid hkb
  have x0 := hkb.cell 0 rfl
  have HKC := Lib.hid hkc
  have HZ5 := Lib.hid hzc
  have C23 := Lib.hid (zrows hzc HGa.out.ft)
  clear hz4 hg2 hN2 hou hb5 hzc hQ3 hQ4 hPa hkb hkc HG
  go_wp2_with fail
  generalize w4.alloc (.cells #[.pointer (some ⟨t2, 0, none⟩), .pointer (some ⟨o2, 0, none⟩), .pointer (some ⟨r2, 0, none⟩), .pointer (some ⟨p2, 0, none⟩)] 26) = W5 at *
  (try go_wp2_with fail)
  refine C23.out.mono ?_
  clear C23
  rintro e w6 ⟨al, cl, rfl, hR6, hb6, hal⟩
  obtain ⟨P4, hz6, hQ6, hQ7, -⟩ := HZ5.out.base hb6
  have HZX := Lib.hid (HZX5.out.back (HZ5.out.below hb6) (fun k hk _ => HQ5.out k hk))
  have HQX : Hid (∀ k, k < w.heap.size → P4 k) := fun k hk => hQ7 k (by have := HZX5.out.tn.size; omega) (HQ5.out k hk)
  have HPa : Hid (P4 w2.heap.size) := hQ7 _ HKA.out.lt HPA.out
  have HPc : Hid (P4 w4.heap.size) := hQ7 _ HKC.out.lt HPb.out
  have HPL : Hid (∀ rb, al = some ⟨rb, 0, none⟩ → P4 rb) := fun rb e => hQ6 rb (hal rb e)
  have hka := blkDown HKA.out hb6
  have hkc := blkDown HKC.out hb6
  have ka0 := hka.cell 0 rfl
  have ka1 := hka.cell 1 rfl
  have ka2 := hka.cell 2 rfl
  have ka3 := hka.cell 3 rfl
  have kc0 := hkc.cell 0 rfl
  have kc1 := hkc.cell 1 rfl
  have kc2 := hkc.cell 2 rfl
  have kc3 := hkc.cell 3 rfl
  have HR6 := Lib.hid hR6
  have HZ6 := Lib.hid hz6
  obtain ⟨Y, hY⟩ := HGa.out.aS
  obtain ⟨Y2, hY2⟩ := HG2.out.aS
  obtain ⟨X, hX⟩ : ∃ X, X = S.allE S2.rows := ⟨_, rfl⟩
  have HX := Lib.hid hX
  have C29 := Lib.hid (zmerge hz6 HGa.out.ft (d := 4) HG2.out.ft (by have := HGa.out.b1; have := HN.out; omega))
  have C30 := Lib.hid (fun wz (hz : Zoo P4 w6 wz (fset f2 0 (.t t (S.all S2.rows)))) => zmergeR hz (c := 2) (by rw [fset_other _ _ (by omega)]; exact HGa.out.fr) hY HGa.out.okS (d := 6) (by rw [fset_other _ _ (by omega)]; exact HG2.out.fr) hY2 HG2.out.okS (by have := HGa.out.b2; have := HN.out; omega) (hY.lens HGa.out.b5 HGa.out.b7))
  have HPRS : Hid (R2.prs = S2.rows) := hY2.prs
  have HR5 : Hid (R2.rows.length ≤ 500) := by show _ ≤ _; rw [hY2.len]; exact HG2.out.okS.len
  rw [← hX] at C29 C30
  clear hR6 hb6 hal hz6 hQ6 hQ7 hka hkc hX hY hY2 x0
  go_wp2_with fail
  refine C29.out.mono ?_
  clear C29
  rintro e w7 ⟨rfl, hz7, ho7⟩
  have y2 := hz7.cell HPa.out ka2
  have z2 := hz7.cell HPc.out kc2
  have HZ7 := Lib.hid hz7
  have HO7 := Lib.hid ho7
  clear hz7 ho7
  go_wp2_with fail
  refine (C30.out w7 HZ7.out).mono ?_
  clear C30
  rintro e w8 ⟨R8, ⟨rfl, ha8, hn8⟩, hz8⟩
  have hG8 := HGa.out.turned (by have := HN.out; omega) HO7.out ha8 (by have h9 := pt_all S S2.rows; have h10 := (rows_ok HG2.out.okS).2.2; omega) (by omega) (by have := bg_all S S2.rows; omega)
  have HG8 := Lib.hid hG8
  have hG4 : Game 4 N2 (fset (fset f2 0 (.t t (S.all S2.rows))) (0 + 2) (.r r R8)) t2 o2 r2 p2 S2 O2 R2 Q2 := HG2.out.congr' (fun q hq _ => by rw [fset_other _ _ (by omega), fset_other _ _ (by omega)])
  have HG4 := Lib.hid hG4
  obtain ⟨S8, hS8⟩ : ∃ x, x = S.all S2.rows := ⟨_, rfl⟩
  have HS8 := Lib.hid hS8
  have HPT : Hid (S8.pt ≤ 2000000) := by show _ ≤ _; rw [hS8]; have h9 := pt_all S S2.rows; have h10 := (rows_ok HG2.out.okS).2.2; have := HGa.out.b1; have := HN.out; omega
  change Zoo P4 w6 w8 (fset (fset f2 0 (.t t (S.all S2.rows))) (0 + 2) (.r r R8)) at hz8
  rw [← hS8] at hz8 HG8 HG4 HO7
  have HOK8 := Lib.hid HO7.out
  obtain ⟨f8, hf8⟩ : ∃ x, x = fset (fset f2 0 (.t t S8)) (0 + 2) (.r r R8) := ⟨_, rfl⟩
  have HF8 : Hid (f8 0 = some (.t t S8)) := by show _ = _; rw [hf8, fset_other _ _ (by omega), fset_same]
  have HFR8 : Hid (f8 2 = some (.r r R8)) := by show _ = _; rw [hf8, fset_same]
  have HFR2 : Hid (f8 6 = some (.r r2 R2)) := by show _ = _; rw [hf8, fset_other _ _ (by omega), fset_other _ _ (by omega)]; exact HG2.out.fr
  rw [← hf8] at hz8 HG8 HG4
  have HZ8 := Lib.hid hz8
  have v0 := hz8.cell HPa.out ka0
  have v1 := hz8.cell HPa.out ka1
  have v2 := hz8.cell HPa.out ka2
  have v3 := hz8.cell HPa.out ka3
  have u0 := hz8.cell HPc.out kc0
  have u1 := hz8.cell HPc.out kc1
  have u2 := hz8.cell HPc.out kc2
  have u3 := hz8.cell HPc.out kc3
  have C14a := Lib.hid (fun W (hb : Below w8.heap.size w8 W) => z14 (HZ8.out.below hb) HG8.out 0 (WalkArith.wf_i64 (by decide)))
  have C14b := Lib.hid (fun W (hb : Below w8.heap.size w8 W) => z14 (HZ8.out.below hb) HG4.out 0 (WalkArith.wf_i64 (by decide)))
  have HRW8 : Hid (RowsAt w8 al S.rows) := fun j k v hj => by
    obtain ⟨rb, e1, e2, e3⟩ := HR6.out j k v hj
    exact ⟨rb, e1, hz8.cell (HPL.out rb e1) e2, hz8.cell (HPL.out rb e1) e3⟩
  have HBB : Hid (Below w8.heap.size w8 w8) := Below.refl _ _
  clear hz8 ha8 hn8 hG8 hG4 hS8 hf8 y2 z2
  go_wp2_with fail
  refine (C14a.out _ HBB.out).mono ?_
  rintro e wA ⟨rfl, hbA⟩
  have q0 := below_cell hbA u0
  have q1 := below_cell hbA u1
  have q2 := below_cell hbA u2
  have q3 := below_cell hbA u3
  have C14c := Lib.hid (C14b.out _ hbA)
  have HBA := Lib.hid hbA
  clear hbA C14a C14b u0 u1 u3
  go_wp2_with fail
  refine C14c.out.mono ?_
  clear C14c
  rintro e wB ⟨rfl, hbB⟩
  have HB10 := Lib.hid (bThen HBA.out hbB)
  have xv0 := below_cell HB10.out v0
  have xu2 := below_cell HB10.out u2
  clear hbB q0 q1 q2 q3 v1 v2 v3 HBB HBA
  by_cases hX0 : X = 0
  · subst hX0
    have C31 := Lib.hid (by
      obtain ⟨G, hG⟩ := (HZ8.out.below HB10.out).get HFR2.out
      have h1 := t31 wB hG HR5.out
      rw [HPRS.out] at h1
      exact h1)
    go_wp2_with fail
    refine C31.out.mono ?_
    clear C31
    rintro e wC ⟨vl, rfl, hP, hbC, -⟩
    obtain ⟨a2, cl2, rfl, hRC, -, -⟩ := hP.read
    have HCC := Lib.hid (bThen HB10.out hbC)
    have HRC := Lib.hid hRC
    clear hP hRC hbC
    obtain ⟨ls, hls⟩ : ∃ x, x = S2.rows := ⟨_, rfl⟩
    have HLS := Lib.hid hls
    rw [← hls] at HRC ⊢
    have hln : ls.length ≤ 500 := by rw [hls]; exact (rows_ok HG2.out.okS).2.2
    have hln' : (ls.length : Int) ≤ 500 := by omega
    clear hls
    have HC0 : Hid (Below wC.heap.size wC wC) := Below.refl _ _
    go_wp2_with fail
    go_loopw [13, 14, 15] (fun i a b wr => ∃ j : Nat, j ≤ ls.length ∧ i = .int .i64 j ∧ Hid (Below wC.heap.size wC wr)) (fun i _ _ _ => ls.length - (intOf i).toNat)
    case atStart => exact ⟨0, Nat.zero_le _, rfl, HC0⟩
    case round =>
      obtain ⟨j, hj, rfl, HCr⟩ := hrel
      clear HC0
      have HCx := Lib.hid (HCC.out.trans (HCr.out.mono HCC.out.size))
      by_cases hlt : j < ls.length
      · obtain ⟨k, v, hg⟩ : ∃ k v, ls[j]? = some (k, v) := ⟨_, _, List.getElem?_eq_getElem hlt⟩
        obtain ⟨gl, hae, l0, l1⟩ := (HRC.out.below HCr.out) j k v hg
        subst hae
        have hlt' : (j : Int) < ls.length := by omega
        have hmem : (k, v) ∈ S2.rows := by rw [← HLS.out]; exact List.mem_of_getElem? hg
        have hge : S8.getE k = .returned (.tuple #[.int .i64 v, .int .i64 0]) := by
          rw [HS8.out, all_ok HX.out.symm]
          exact sets_getE S2.rows S (rows_ok HG2.out.okS).2.1 k v hmem
        have hwk : WF k := (rows_ok HG2.out.okS).1 (k, v) hmem
        have C28 := Lib.hid (by
          obtain ⟨G, hG⟩ := (HZ8.out.below HCx.out.drew).get HF8.out
          have h1 := t28U wr.drew hG hwk
          rw [hge] at h1
          exact h1)
        have qv0 := below_drew_cell (below_cell HCx.out v0)
        have ql0 := below_drew_cell l0
        have ql1 := below_drew_cell l1
        clear hg hmem hge hwk l0 l1
        go_wp2_with fail
        go_region_held3 (fun w' => w'.cell? ⟨w2.heap.size, 0, none⟩ = some (.pointer (some ⟨t, 0, none⟩)) ∧ w'.cell? ⟨gl, j * 2, none⟩ = some (.int .i64 k))
          (first
            | (with_reducible exact ⟨qv0, ql0⟩)
            | (with_reducible exact ⟨pv0, pl0⟩)
            | fail "nokeep")
          (first
            | (go_at_call 28; (with_reducible refine C28.out.mono ?_); rintro e wD ⟨rfl, hbD⟩; have pv0 := below_cell hbD qv0; have pl0 := below_cell hbD ql0; have pl1 := below_cell hbD ql1; have HCD := Lib.hid (bThen HCr.out.drew hbD); clear hbD)
            | fail "noarm")
        all_goals go_wp2_with fail
        all_goals go_roundw
        case rel => exact ⟨j + 1, by omega, by go_num, HCD⟩
        case measure => simp [intOf]; omega
      · have hlt' : ¬ ((j : Int) < ls.length) := by omega
        have HZt := Lib.hid (HZ8.out.below HCx.out)
        have a0 := HZt.out.cell HPa.out ka0
        have a2 := HZt.out.cell HPa.out ka2
        have C29 := Lib.hid (zmerge HZt.out HF8.out (d := 0) HF8.out (by have := HPT.out; omega))
        rw [(all_self HOK8.out).1, (all_self HOK8.out).2] at C29
        obtain ⟨fz, hfz⟩ : ∃ x, x = S8.fz := ⟨_, rfl⟩
        obtain ⟨gn, hgn⟩ : ∃ g : Int, g = (if fz then 13 else 0) := ⟨_, rfl⟩
        have hn0 : S8.allE [] = gn ∧ S8.all [] = S8 := by rw [hgn, hfz]; exact all_nil HOK8.out
        rw [← hfz, ← hgn] at C29
        have HFZ : Hid (fz = S8.fz) := hfz
        have HN0 := Lib.hid hn0
        have HGN := Lib.hid hgn
        clear hfz hn0 hgn
        (try go_wp2_with fail)
        refine C29.out.mono ?_
        clear C29
        rintro e w11 ⟨rfl, hz11, -⟩
        have b0 := hz11.cell HPa.out ka0
        have b2 := hz11.cell HPa.out ka2
        have HZ11 := Lib.hid hz11
        have C29n := Lib.hid (zT (S' := S8) hz11 (fset_same _ 0 (.t t S8)) (E := fun e => e = .returned (.int .i64 gn)) (fun F h1 h2 => (t29z w11 h1 h2 (.pointer none) (none_nil w11) (by have := HPT.out; omega)).mono (fun e w' ⟨x1, x2, x3⟩ => ⟨by rw [x1, HN0.out.1], by rw [HN0.out.2] at x2; exact x2, x3⟩)))
        clear hz11 a0 a2
        go_wp2_with fail
        refine C29n.out.mono ?_
        clear C29n
        rintro e w12 ⟨rfl, hz12, -⟩
        have d0 := hz12.cell HPa.out ka0
        have d1 := hz12.cell HPa.out ka1
        have d2 := hz12.cell HPa.out ka2
        have d3 := hz12.cell HPa.out ka3
        have HZ12 := Lib.hid hz12
        have hFR : fset (fset f8 0 (.t t S8)) 0 (.t t S8) 2 = some (.r r R8) := by rw [fset_other _ _ (by omega), fset_other _ _ (by omega)]; exact HFR8.out
        have hfr : w12.cell? ⟨r, 2, none⟩ = some (.bool fz) := by
          obtain ⟨G, rv, wv, hW⟩ := hz12.get hFR
          obtain ⟨Yz, hYz⟩ := HG8.out.aS
          rw [HFZ.out, ← hYz.fz]
          exact hW.blk.cell 2 rfl
        have hGz : Game 0 (N + 1) (fset (fset f8 0 (.t t S8)) 0 (.t t S8)) t o r p S8 O R8 Q := HG8.out.congr' (fun q h0 h4 => by
          by_cases e : q = 0
          · subst e; rw [fset_same]; exact HF8.out.symm
          · rw [fset_other _ _ e, fset_other _ _ e])
        have C14 := Lib.hid (z14 hz12 hGz 0 (WalkArith.wf_i64 (by decide)))
        have HBE := Lib.hid (HZX.out.back hz12 (fun k hk _ => HQX.out k hk)).end_
        clear hz12 hFR hGz b0 b2
        cases fz with
        | true =>
          obtain rfl : gn = 13 := HGN.out
          go_wp2_with (first | (go_at_call 14; refine C14.out.mono ?_; rintro e w13 ⟨rfl, hb13⟩) | (go_at_call 15; refine (t15 w13).mono ?_; rintro e w14 ⟨rfl, hb14⟩))
          (try go_wp2)
          go_ret
          exact ⟨rfl, HBE.out.trans ((bThen hb13 hb14).mono HBE.out.size)⟩
        | false =>
          obtain rfl : gn = 0 := HGN.out
          go_wp2_with (first | (go_at_call 14; refine C14.out.mono ?_; rintro e w13 ⟨rfl, hb13⟩) | (go_at_call 15; refine (t15 w13).mono ?_; rintro e w14 ⟨rfl, hb14⟩))
          (try go_wp2)
          go_ret
          exact ⟨rfl, HBE.out.trans ((bThen hb13 hb14).mono HBE.out.size)⟩
  · have hXb : (X != 0) = true := by simp; exact hX0
    have hXe : (X == 0) = false := by simp; exact hX0
    have hS : S8.rows = S.rows := by rw [HS8.out, all_of HX.out.symm hX0]
    have C23b := Lib.hid (by
      have h1 := zrows (HZ8.out.below HB10.out) HF8.out
      rw [hS] at h1
      exact h1)
    have C19 := Lib.hid (fun W (a3 : Option Addr) (c3 : Nat) (h : RowsAt W a3 S.rows) (h' : RowsAt W al S.rows) => (by
      have h1 := t19 W a3 al c3 cl S.rows S.rows h h' (by have := (rows_ok HGa.out.okS).2.2; omega)
      exact h1.mono (fun e w' ⟨e1, e2⟩ => ⟨by rw [e1]; simp, e2⟩) : Calls Try.prog 19 #[.slice a3 S.rows.length c3, .slice al S.rows.length cl] W fun e w' => e = .returned (.bool true) ∧ Below W.heap.size W w'))
    clear hS
    go_wp2_with fail
    refine C23b.out.mono ?_
    clear C23b
    rintro e wE ⟨a3, c3, rfl, hRE, hbE, -⟩
    have C19b := Lib.hid (C19.out wE a3 c3 hRE ((HRW8.out.below HB10.out).below hbE))
    have HBE1 := Lib.hid (bThen HB10.out hbE)
    have yu2 := below_cell hbE xu2
    clear hRE hbE C19
    go_wp2_with fail
    refine C19b.out.mono ?_
    clear C19b
    rintro e wF ⟨rfl, hbF⟩
    have HBF := Lib.hid (bThen HBE1.out hbF)
    have zu2 := below_cell hbF yu2
    clear hbF
    have C31 := Lib.hid (by
      obtain ⟨G, hG⟩ := (HZ8.out.below HBF.out).get HFR2.out
      have h1 := t31 wF hG HR5.out
      rw [HPRS.out] at h1
      exact h1)
    go_wp2_with fail
    refine C31.out.mono ?_
    clear C31
    rintro e wC ⟨vl, rfl, hP, hbC, -⟩
    obtain ⟨a2, cl2, rfl, hRC, -, -⟩ := hP.read
    have HCC := Lib.hid (bThen HBF.out hbC)
    have HRC := Lib.hid hRC
    clear hP hRC hbC
    obtain ⟨ls, hls⟩ : ∃ x, x = S2.rows := ⟨_, rfl⟩
    have HLS := Lib.hid hls
    rw [← hls] at HRC ⊢
    have hln : ls.length ≤ 500 := by rw [hls]; exact (rows_ok HG2.out.okS).2.2
    have hln' : (ls.length : Int) ≤ 500 := by omega
    clear hls
    have HC0 : Hid (Below wC.heap.size wC wC) := Below.refl _ _
    go_wp2_with fail
    have HCC0 : Hid (Below w8.heap.size w8 wC) := HCC.out
    go_loopw [13, 14, 15] (fun i a b wr => i = .int .i64 0 ∧ Hid (Below w8.heap.size w8 wr)) (fun _ _ _ _ => 0)
    case atStart => exact ⟨rfl, HCC0⟩
    case round =>
      obtain ⟨rfl, HCx⟩ := hrel
      clear HCC0 HC0
      by_cases hlt : 0 < ls.length
      · have hlt' : (0 : Int) < ls.length := by omega
        have HZt := Lib.hid (HZ8.out.below HCx.out)
        have a0 := HZt.out.cell HPa.out ka0
        have a2 := HZt.out.cell HPa.out ka2
        have C29 := Lib.hid (zmerge HZt.out HF8.out (d := 0) HF8.out (by have := HPT.out; omega))
        rw [(all_self HOK8.out).1, (all_self HOK8.out).2] at C29
        obtain ⟨fz, hfz⟩ : ∃ x, x = S8.fz := ⟨_, rfl⟩
        obtain ⟨gn, hgn⟩ : ∃ g : Int, g = (if fz then 13 else 0) := ⟨_, rfl⟩
        have hn0 : S8.allE [] = gn ∧ S8.all [] = S8 := by rw [hgn, hfz]; exact all_nil HOK8.out
        rw [← hfz, ← hgn] at C29
        have HFZ : Hid (fz = S8.fz) := hfz
        have HN0 := Lib.hid hn0
        have HGN := Lib.hid hgn
        clear hfz hn0 hgn
        (try go_wp2_with fail)
        refine C29.out.mono ?_
        clear C29
        rintro e w11 ⟨rfl, hz11, -⟩
        have b0 := hz11.cell HPa.out ka0
        have b2 := hz11.cell HPa.out ka2
        have HZ11 := Lib.hid hz11
        have C29n := Lib.hid (zT (S' := S8) hz11 (fset_same _ 0 (.t t S8)) (E := fun e => e = .returned (.int .i64 gn)) (fun F h1 h2 => (t29z w11 h1 h2 (.pointer none) (none_nil w11) (by have := HPT.out; omega)).mono (fun e w' ⟨x1, x2, x3⟩ => ⟨by rw [x1, HN0.out.1], by rw [HN0.out.2] at x2; exact x2, x3⟩)))
        clear hz11 a0 a2
        go_wp2_with fail
        refine C29n.out.mono ?_
        clear C29n
        rintro e w12 ⟨rfl, hz12, -⟩
        have d0 := hz12.cell HPa.out ka0
        have d1 := hz12.cell HPa.out ka1
        have d2 := hz12.cell HPa.out ka2
        have d3 := hz12.cell HPa.out ka3
        have HZ12 := Lib.hid hz12
        have hFR : fset (fset f8 0 (.t t S8)) 0 (.t t S8) 2 = some (.r r R8) := by rw [fset_other _ _ (by omega), fset_other _ _ (by omega)]; exact HFR8.out
        have hfr : w12.cell? ⟨r, 2, none⟩ = some (.bool fz) := by
          obtain ⟨G, rv, wv, hW⟩ := hz12.get hFR
          obtain ⟨Yz, hYz⟩ := HG8.out.aS
          rw [HFZ.out, ← hYz.fz]
          exact hW.blk.cell 2 rfl
        have hGz : Game 0 (N + 1) (fset (fset f8 0 (.t t S8)) 0 (.t t S8)) t o r p S8 O R8 Q := HG8.out.congr' (fun q h0 h4 => by
          by_cases e : q = 0
          · subst e; rw [fset_same]; exact HF8.out.symm
          · rw [fset_other _ _ e, fset_other _ _ e])
        have C14 := Lib.hid (z14 hz12 hGz 0 (WalkArith.wf_i64 (by decide)))
        have HBE := Lib.hid (HZX.out.back hz12 (fun k hk _ => HQX.out k hk)).end_
        clear hz12 hFR hGz b0 b2
        cases fz with
        | true =>
          obtain rfl : gn = 13 := HGN.out
          go_wp2_with (first | (go_at_call 14; refine C14.out.mono ?_; rintro e w13 ⟨rfl, hb13⟩) | (go_at_call 15; refine (t15 w13).mono ?_; rintro e w14 ⟨rfl, hb14⟩))
          (try go_wp2)
          go_ret
          exact ⟨rfl, HBE.out.trans ((bThen hb13 hb14).mono HBE.out.size)⟩
        | false =>
          obtain rfl : gn = 0 := HGN.out
          go_wp2_with (first | (go_at_call 14; refine C14.out.mono ?_; rintro e w13 ⟨rfl, hb13⟩) | (go_at_call 15; refine (t15 w13).mono ?_; rintro e w14 ⟨rfl, hb14⟩))
          (try go_wp2)
          go_ret
          exact ⟨rfl, HBE.out.trans ((bThen hb13 hb14).mono HBE.out.size)⟩
      · have hlt' : ¬ ((0 : Int) < ls.length) := by omega
        have HZt := Lib.hid (HZ8.out.below HCx.out)
        have a0 := HZt.out.cell HPa.out ka0
        have a2 := HZt.out.cell HPa.out ka2
        have C29 := Lib.hid (zmerge HZt.out HF8.out (d := 0) HF8.out (by have := HPT.out; omega))
        rw [(all_self HOK8.out).1, (all_self HOK8.out).2] at C29
        obtain ⟨fz, hfz⟩ : ∃ x, x = S8.fz := ⟨_, rfl⟩
        obtain ⟨gn, hgn⟩ : ∃ g : Int, g = (if fz then 13 else 0) := ⟨_, rfl⟩
        have hn0 : S8.allE [] = gn ∧ S8.all [] = S8 := by rw [hgn, hfz]; exact all_nil HOK8.out
        rw [← hfz, ← hgn] at C29
        have HFZ : Hid (fz = S8.fz) := hfz
        have HN0 := Lib.hid hn0
        have HGN := Lib.hid hgn
        clear hfz hn0 hgn
        (try go_wp2_with fail)
        refine C29.out.mono ?_
        clear C29
        rintro e w11 ⟨rfl, hz11, -⟩
        have b0 := hz11.cell HPa.out ka0
        have b2 := hz11.cell HPa.out ka2
        have HZ11 := Lib.hid hz11
        have C29n := Lib.hid (zT (S' := S8) hz11 (fset_same _ 0 (.t t S8)) (E := fun e => e = .returned (.int .i64 gn)) (fun F h1 h2 => (t29z w11 h1 h2 (.pointer none) (none_nil w11) (by have := HPT.out; omega)).mono (fun e w' ⟨x1, x2, x3⟩ => ⟨by rw [x1, HN0.out.1], by rw [HN0.out.2] at x2; exact x2, x3⟩)))
        clear hz11 a0 a2
        go_wp2_with fail
        refine C29n.out.mono ?_
        clear C29n
        rintro e w12 ⟨rfl, hz12, -⟩
        have d0 := hz12.cell HPa.out ka0
        have d1 := hz12.cell HPa.out ka1
        have d2 := hz12.cell HPa.out ka2
        have d3 := hz12.cell HPa.out ka3
        have HZ12 := Lib.hid hz12
        have hFR : fset (fset f8 0 (.t t S8)) 0 (.t t S8) 2 = some (.r r R8) := by rw [fset_other _ _ (by omega), fset_other _ _ (by omega)]; exact HFR8.out
        have hfr : w12.cell? ⟨r, 2, none⟩ = some (.bool fz) := by
          obtain ⟨G, rv, wv, hW⟩ := hz12.get hFR
          obtain ⟨Yz, hYz⟩ := HG8.out.aS
          rw [HFZ.out, ← hYz.fz]
          exact hW.blk.cell 2 rfl
        have hGz : Game 0 (N + 1) (fset (fset f8 0 (.t t S8)) 0 (.t t S8)) t o r p S8 O R8 Q := HG8.out.congr' (fun q h0 h4 => by
          by_cases e : q = 0
          · subst e; rw [fset_same]; exact HF8.out.symm
          · rw [fset_other _ _ e, fset_other _ _ e])
        have C14 := Lib.hid (z14 hz12 hGz 0 (WalkArith.wf_i64 (by decide)))
        have HBE := Lib.hid (HZX.out.back hz12 (fun k hk _ => HQX.out k hk)).end_
        clear hz12 hFR hGz b0 b2
        cases fz with
        | true =>
          obtain rfl : gn = 13 := HGN.out
          go_wp2_with (first | (go_at_call 14; refine C14.out.mono ?_; rintro e w13 ⟨rfl, hb13⟩) | (go_at_call 15; refine (t15 w13).mono ?_; rintro e w14 ⟨rfl, hb14⟩))
          (try go_wp2)
          go_ret
          exact ⟨rfl, HBE.out.trans ((bThen hb13 hb14).mono HBE.out.size)⟩
        | false =>
          obtain rfl : gn = 0 := HGN.out
          go_wp2_with (first | (go_at_call 14; refine C14.out.mono ?_; rintro e w13 ⟨rfl, hb13⟩) | (go_at_call 15; refine (t15 w13).mono ?_; rintro e w14 ⟨rfl, hb14⟩))
          (try go_wp2)
          go_ret
          exact ⟨rfl, HBE.out.trans ((bThen hb13 hb14).mono HBE.out.size)⟩
end Go.Proofs.Ytagejkolgicecaa
