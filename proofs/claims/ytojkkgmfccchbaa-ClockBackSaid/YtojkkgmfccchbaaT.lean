/- The law ClockBack. -/
import Derived.Test.YtojkkgmfccchbaaS
import Derived.Test.YtojkkgmfccchbaaLB
namespace Go.Proofs.Ytojkkgmfccchbaa
open Go Go.RowKit Go.Sort

set_option maxRecDepth 100000 in
set_option maxHeartbeats 0 in
theorem t7 (v : Value) (l : List Int) (moment : Int) (w : World) (hz : LR w v l) : Calls Try.prog 7 #[v, .int .i64 moment] w fun e w' => e = .returned (.bool true) ∧ Below w.heap.size w w' := by
  have C24 := Lib.hid (t24 v l w hz)
  have C18 := Lib.hid t18
  obtain ⟨m1, m2⟩ := tm9 moment
  clear hz
  go_enter Try.func7, Try.ntmps7
  go_wp2_with fail
  refine C24.out.mono ?_
  rintro e w1 ⟨off, ch, zv, hgood, rfl, hzr, hb1⟩
  have hchl := (zOk_parts hgood.1).2.1
  have C23 := Lib.hid (t23 off zv ch w1 hzr (by omega))
  obtain ⟨D, a, r, hloc, hDok, hmo, hres, hmem, hasc, hall⟩ := back_law hgood m1 m2
  have HOK := Lib.hid hgood.1
  have HLOC := Lib.hid hloc
  have HDOK := Lib.hid hDok
  have HMO := Lib.hid hmo
  have HRES := Lib.hid hres
  have HMEM := Lib.hid hmem
  have HASC := Lib.hid hasc
  have HALL := Lib.hid hall
  clear C24 hzr hgood hchl hloc hDok hmo hres hmem hasc hall
  go_wp2_with fail
  refine C23.out.mono ?_
  rintro e w2 ⟨zv2, rfl, hzr2, hb2⟩
  have hB2 := bThen hb1 hb2
  have hl2 := hzr2
  obtain ⟨za, zc, rfl, _, _⟩ := hl2
  have C27 := Lib.hid (fun m W hz => t27 off (.slice za ch.length zc) ch m W hz)
  have C28 := Lib.hid (fun W hz => t28_ok off (.slice za ch.length zc) ch D W hz HOK.out HDOK.out)
  have C29 := Lib.hid (fun W hz => t29 off (.slice za ch.length zc) ch D W hz)
  clear C23 hb1 hb2
  go_wp2_with fail
  generalize hm : moment.tmod 9000000 = m at *
  clear hm
  have HZ3 := Lib.hid (hzr2.below (bSelf w2 (.cells #[.int .i64 off, .slice za ch.length zc] 52)))
  have K3 := Lib.hid (Blk.new w2 #[.int .i64 off, .slice za ch.length zc] 52)
  have hB3 := bAl hB2 (.cells #[.int .i64 off, .slice za ch.length zc] 52)
  generalize w2.alloc (.cells #[.int .i64 off, .slice za ch.length zc] 52) = w3 at *
  clear hzr2 hB2
  have c27 := C27.out m w3 HZ3.out
  rw [HLOC.out] at c27
  refine c27.mono ?_
  rintro e w4 ⟨rfl, hb4⟩
  have hB4 := bThen hB3 hb4
  have HZ4 := Lib.hid (HZ3.out.below hb4)
  have K4 := Lib.hid (blkDown K3.out hb4)
  clear c27 hb4 hB3 HZ3 K3
  obtain ⟨y, mo, d, h, i, s⟩ := D
  have q0 := K4.out.cell 0 rfl
  have q1 := K4.out.cell 1 rfl
  have ql := K4.out.lt
  go_wp2_with fail
  clear q0 q1 ql
  have HZ5 := Lib.hid (HZ4.out.below (bSelf w4 (.cells #[.int .i64 y, .int .i64 mo, .int .i64 d, .int .i64 h, .int .i64 i, .int .i64 s] 24)))
  have K5 := Lib.hid (K4.out.alloc (.cells #[.int .i64 y, .int .i64 mo, .int .i64 d, .int .i64 h, .int .i64 i, .int .i64 s] 24))
  have D5 := Lib.hid (Blk.new w4 #[.int .i64 y, .int .i64 mo, .int .i64 d, .int .i64 h, .int .i64 i, .int .i64 s] 24)
  have hB5 := bAl hB4 (.cells #[.int .i64 y, .int .i64 mo, .int .i64 d, .int .i64 h, .int .i64 i, .int .i64 s] 24)
  generalize w4.alloc (.cells #[.int .i64 y, .int .i64 mo, .int .i64 d, .int .i64 h, .int .i64 i, .int .i64 s] 24) = w5 at *
  clear hB4 HZ4 K4
  refine (C28.out w5 HZ5.out).mono ?_
  rw [HMO.out]
  rintro e w6 ⟨mv, rfl, hir, hb6⟩
  have hB6 := bThen hB5 hb6
  have HZ6 := Lib.hid (HZ5.out.below hb6)
  have K6 := Lib.hid (blkDown K5.out hb6)
  have D6 := Lib.hid (blkDown D5.out hb6)
  have I6 := Lib.hid hir
  clear hb6 hB5 HZ5 K5 D5
  have q0 := K6.out.cell 0 rfl
  have q1 := K6.out.cell 1 rfl
  have ql := K6.out.lt
  obtain ⟨d0, d1, d2, d3, d4, d5⟩ := cells6 (w1 := w6) (fun _ _ _ => rfl) D6.out
  go_wp2_with fail
  clear q0 q1 ql d0 d1 d2 d3 d4 d5
  have c29 := C29.out w6 HZ6.out
  rw [HRES.out] at c29
  refine c29.mono ?_
  rintro e w7 ⟨rfl, hb7⟩
  have hB7 := bThen hB6 hb7
  have HZ7 := Lib.hid (HZ6.out.below hb7)
  have K7 := Lib.hid (blkDown K6.out hb7)
  have D7 := Lib.hid (blkDown D6.out hb7)
  have I7 := Lib.hid (I6.out.below hb7)
  clear c29 hb7 hB6 HZ6 K6 D6 I6 hir C28 C29
  have hread := I7.out.read
  rcases hread with ⟨_, hnil⟩ | ⟨gm, cm, rfl, hcm, hcx, hgm, hcells⟩
  · cases hnil
  have HC := Lib.hid hcells
  have e0 := hcells 0 a rfl
  obtain ⟨M, hMM⟩ : ∃ M, a :: r = M := ⟨_, rfl⟩
  have hpos : 0 < (a :: r).length := by simp
  rw [hMM] at hpos HC hcm I7 HMO HMEM HASC HALL ⊢
  have hpos' : (0 : Int) < (M.length : Int) := by omega
  have hne : ((M.length : Int) == 0) = false := by rw [beq_eq_false_iff_ne]; omega
  have hMl : (M.length : Int) ≤ 9223372036854775807 := by have h9 : cm ≤ 9223372036854775807 := hcx; omega
  clear hcells hcx hMM
  go_wp2_with fail
  generalize w2.heap.size = gz at *
  generalize w4.heap.size = gd at *
  have HCC : Hid (∀ k x, M[k]? = some x → w7.cell? ⟨gm, k, none⟩ = some (.int .i64 x)) := HC
  clear HC e0 HLOC HRES
  go_loopw [14, 13] (fun ii f wr => ∃ (k : Nat) (b : Bool), k ≤ M.length ∧ ii = .int .i64 k ∧ f = .bool b ∧ Hid (b = decide (m ∈ M.take k)) ∧ Hid (ZR wr (.slice za ch.length zc) ch) ∧ Hid (Blk wr gz 52 [.int .i64 off, .slice za ch.length zc]) ∧ Hid (Blk wr gd 24 [.int .i64 y, .int .i64 mo, .int .i64 d, .int .i64 h, .int .i64 i, .int .i64 s]) ∧ Hid (∀ k x, M[k]? = some x → wr.cell? ⟨gm, k, none⟩ = some (.int .i64 x)) ∧ gm < wr.heap.size ∧ Below w.heap.size w wr) (fun i _ _ => M.length - (intOf i).toNat)
  case atStart => exact ⟨0, false, Nat.zero_le _, rfl, rfl, by show _ = _; simp, HZ7, K7, D7, HCC, hgm, hB7⟩
  case round =>
    clear HZ7 K7 D7 HCC hgm hB7 I7
    obtain ⟨k, b, hk, rfl, rfl, HBB, HZr, K, Dr, HCr, hgm, hb⟩ := hrel
    by_cases hlt : k < M.length
    · have hg : M[k]? = some M[k] := List.getElem?_eq_getElem hlt
      have ex := HCr.out k _ hg
      have c27 := fun W hz => C27.out M[k] W hz
      rw [HALL.out M[k] (List.getElem_mem hlt)] at c27
      have C27x := Lib.hid c27
      have HTK : Hid (M.take (k + 1) = M.take k ++ [M[k]]) := by show _ = _; rw [List.take_add_one, hg]; rfl
      have hlt' : (k : Int) < M.length := by omega
      have HASK : Hid (∀ j, k = j + 1 → ∃ pv, M[j]? = some pv ∧ pv < M[k]) := by
        intro j hj
        have hj2 : j < M.length := by omega
        exact ⟨M[j], List.getElem?_eq_getElem hj2, List.pairwise_iff_getElem.1 HASC.out j k hj2 hlt (by omega)⟩
      have HGK := Lib.hid hg
      clear c27 hg
      generalize M[k] = x at *
      have q0 := K.out.cell 0 rfl
      have q1 := K.out.cell 1 rfl
      have ql := K.out.lt
      have HZd : Hid (ZR wr.drew (.slice za ch.length zc) ch) := HZr
      have hba := (bSelf wr (.cells #[.int .i64 0, .int .i64 0, .int .i64 0, .int .i64 0, .int .i64 0, .int .i64 0] 24))
      have HZe : Hid (ZR (wr.alloc (.cells #[.int .i64 0, .int .i64 0, .int .i64 0, .int .i64 0, .int .i64 0, .int .i64 0] 24)).drew (.slice za ch.length zc) ch) := Lib.hid (HZr.out.below hba.drew)
      have NN := Lib.hid (Blk.new wr #[.int .i64 0, .int .i64 0, .int .i64 0, .int .i64 0, .int .i64 0, .int .i64 0] 24)
      have HBA := Lib.hid hba
      clear hba
      go_wp2_with fail
      go_region_law
        (first
          | (go_simp; go_at_call 27; (with_reducible refine (C27x.out _ HZd.out).mono ?_); rintro e w8 ⟨rfl, hb8⟩; have hb8 := bUndrew hb8)
          | (go_simp; go_at_call 27; (with_reducible refine (C27x.out _ HZe.out).mono ?_); rintro e w8 ⟨rfl, hb8⟩; have hb8 := bUndrew hb8; have N8 := blkDown NN.out hb8; have z0 := N8.cell 0 rfl; have z1 := N8.cell 1 rfl; have z2 := N8.cell 2 rfl; have z3 := N8.cell 3 rfl; have z4 := N8.cell 4 rfl; have z5 := N8.cell 5 rfl; have g0 := N8.free 0; have g1 := N8.free 1; have g2 := N8.free 2; have g3 := N8.free 3; have g4 := N8.free 4; have g5 := N8.free 5))
      all_goals first
        | (fail_if_success have hN8 := N8
           have hbX := bSelf w8 (.cells #[.int .i64 y, .int .i64 mo, .int .i64 d, .int .i64 h, .int .i64 i, .int .i64 s] 24)
           have HZ9 := Lib.hid ((HZr.out.below hb8).below hbX)
           have K9 := Lib.hid ((blkDown K.out hb8).alloc (.cells #[.int .i64 y, .int .i64 mo, .int .i64 d, .int .i64 h, .int .i64 i, .int .i64 s] 24))
           have D9 := Lib.hid ((blkDown Dr.out hb8).alloc (.cells #[.int .i64 y, .int .i64 mo, .int .i64 d, .int .i64 h, .int .i64 i, .int .i64 s] 24))
           have N9 := Lib.hid (Blk.new w8 #[.int .i64 y, .int .i64 mo, .int .i64 d, .int .i64 h, .int .i64 i, .int .i64 s] 24)
           have HC9 : Hid (∀ k x, M[k]? = some x → (w8.alloc (.cells #[.int .i64 y, .int .i64 mo, .int .i64 d, .int .i64 h, .int .i64 i, .int .i64 s] 24)).cell? ⟨gm, k, none⟩ = some (.int .i64 x)) := fun k x hx => (((bThen hb8 hbX).cell (p := ⟨gm, k, none⟩) hgm)).trans (HCr.out k x hx)
           have hgm9 : gm < (w8.alloc (.cells #[.int .i64 y, .int .i64 mo, .int .i64 d, .int .i64 h, .int .i64 i, .int .i64 s] 24)).heap.size := Nat.lt_of_lt_of_le hgm (bThen hb8 hbX).size
           have hb9 := bThen hb (bThen hb8 hbX)
           generalize w8.alloc (.cells #[.int .i64 y, .int .i64 mo, .int .i64 d, .int .i64 h, .int .i64 i, .int .i64 s] 24) = w9 at *
           clear hbX hb8 HZr K Dr HCr hb q0 q1 ql ex HZd HZe NN HBA
           have q0 := K9.out.cell 0 rfl
           have q1 := K9.out.cell 1 rfl
           obtain ⟨d0, d1, d2, d3, d4, d5⟩ := cells6 (w1 := w9) (fun _ _ _ => rfl) D9.out
           obtain ⟨n0, n1, n2, n3, n4, n5⟩ := cells6 (w1 := w9) (fun _ _ _ => rfl) N9.out
           have ex9 := HC9.out k _ HGK.out
           cases k with
           | zero =>
             go_wp2_with fail
             go_quiet (fail)
             cases b
             · by_cases hxm : x = m
               · have hbx : (x == m) = true := by simp [hxm]
                 have HB2 : Hid (true = decide (m ∈ M.take (0 + 1))) := by show _ = _; rw [HTK.out, hxm]; simp
                 clear hxm
                 go_wp2_with fail
                 go_roundw
                 case rel => exact ⟨0 + 1, true, by omega, by go_num, rfl, HB2, Lib.hid (HZ9.out), Lib.hid (K9.out), Lib.hid (D9.out), Lib.hid (HC9.out), hgm9, below_drewN hb9 _⟩
                 case measure => simp [intOf] <;> omega
               · have hbx : (x == m) = false := by simpa using hxm
                 have HB2 : Hid (false = decide (m ∈ M.take (0 + 1))) := by
                   show _ = _
                   have h8 := HBB.out
                   rw [HTK.out]
                   symm
                   rw [decide_eq_false_iff_not, List.mem_append]
                   rintro (h7 | h7)
                   · exact of_decide_eq_false h8.symm h7
                   · exact hxm (List.mem_singleton.1 h7).symm
                 clear hxm
                 go_wp2_with fail
                 go_roundw
                 case rel => exact ⟨0 + 1, false, by omega, by go_num, rfl, HB2, Lib.hid (HZ9.out), Lib.hid (K9.out), Lib.hid (D9.out), Lib.hid (HC9.out), hgm9, below_drewN hb9 _⟩
                 case measure => simp [intOf] <;> omega
             · have HB2 : Hid (true = decide (m ∈ M.take (0 + 1))) := by
                 show _ = _
                 have h8 := HBB.out
                 rw [HTK.out]
                 symm
                 rw [decide_eq_true_iff, List.mem_append]
                 exact .inl (of_decide_eq_true h8.symm)
               go_wp2_with fail
               go_roundw
               case rel => exact ⟨0 + 1, true, by omega, by go_num, rfl, HB2, Lib.hid (HZ9.out), Lib.hid (K9.out), Lib.hid (D9.out), Lib.hid (HC9.out), hgm9, below_drewN hb9 _⟩
               case measure => simp [intOf] <;> omega
           | succ j =>
             obtain ⟨pv, hp1, hp2⟩ := HASK.out j rfl
             have ep := HC9.out j _ hp1
             have v1 : IntKind.i64.wrap (j : Int) = j := IntWalk.i64_in _ (by omega)
             have v2 : IntKind.i64.wrap ((j : Int) + 1 - 1) = j := by rw [show (j : Int) + 1 - 1 = j by omega]; exact v1
             have hj0 : (0 : Int) ≤ j := by omega
             have hj1 : (j : Int) < M.length := by omega
             have hj2 : j < M.length := by omega
             have hge : ¬ (x ≤ pv) := by omega
             clear hp1
             go_wp2_with fail
             go_quiet (fail)
             clear v1 v2
             cases b
             · by_cases hxm : x = m
               · have hbx : (x == m) = true := by simp [hxm]
                 have HB2 : Hid (true = decide (m ∈ M.take (j + 1 + 1))) := by show _ = _; rw [HTK.out, hxm]; simp
                 clear hxm
                 go_wp2_with fail
                 go_roundw
                 case rel => exact ⟨j + 1 + 1, true, by omega, by go_num, rfl, HB2, Lib.hid (HZ9.out), Lib.hid (K9.out), Lib.hid (D9.out), Lib.hid (HC9.out), hgm9, below_drewN hb9 _⟩
                 case measure => simp [intOf] <;> omega
               · have hbx : (x == m) = false := by simpa using hxm
                 have HB2 : Hid (false = decide (m ∈ M.take (j + 1 + 1))) := by
                   show _ = _
                   have h8 := HBB.out
                   rw [HTK.out]
                   symm
                   rw [decide_eq_false_iff_not, List.mem_append]
                   rintro (h7 | h7)
                   · exact of_decide_eq_false h8.symm h7
                   · exact hxm (List.mem_singleton.1 h7).symm
                 clear hxm
                 go_wp2_with fail
                 go_roundw
                 case rel => exact ⟨j + 1 + 1, false, by omega, by go_num, rfl, HB2, Lib.hid (HZ9.out), Lib.hid (K9.out), Lib.hid (D9.out), Lib.hid (HC9.out), hgm9, below_drewN hb9 _⟩
                 case measure => simp [intOf] <;> omega
             · have HB2 : Hid (true = decide (m ∈ M.take (j + 1 + 1))) := by
                 show _ = _
                 have h8 := HBB.out
                 rw [HTK.out]
                 symm
                 rw [decide_eq_true_iff, List.mem_append]
                 exact .inl (of_decide_eq_true h8.symm)
               go_wp2_with fail
               go_roundw
               case rel => exact ⟨j + 1 + 1, true, by omega, by go_num, rfl, HB2, Lib.hid (HZ9.out), Lib.hid (K9.out), Lib.hid (D9.out), Lib.hid (HC9.out), hgm9, below_drewN hb9 _⟩
               case measure => simp [intOf] <;> omega)
        | (have hN8 := N8
           have hb8' := bThen HBA.out hb8
           have hne1 : gz ≠ wr.heap.size := by have := K.out.lt; omega
           have hne2 : gd ≠ wr.heap.size := by have := Dr.out.lt; omega
           have hbs6 := below6 (g := wr.heap.size) hb8' (Nat.le_refl _) (.int .i64 y) (.int .i64 mo) (.int .i64 d) (.int .i64 h) (.int .i64 i) (.int .i64 s)
           have HZ9 := Lib.hid (HZr.out.below hbs6)
           have K9 := Lib.hid (other6 (g' := wr.heap.size) (blkDown K.out hb8') hne1 (.int .i64 y) (.int .i64 mo) (.int .i64 d) (.int .i64 h) (.int .i64 i) (.int .i64 s))
           have D9 := Lib.hid (other6 (g' := wr.heap.size) (blkDown Dr.out hb8') hne2 (.int .i64 y) (.int .i64 mo) (.int .i64 d) (.int .i64 h) (.int .i64 i) (.int .i64 s))
           have N9 := Lib.hid (set6 (v0 := .int .i64 y) (v1 := .int .i64 mo) (v2 := .int .i64 d) (v3 := .int .i64 h) (v4 := .int .i64 i) (v5 := .int .i64 s) N8)
           have HC9 : Hid (∀ k x, M[k]? = some x → ((((((w8.setCell ⟨wr.heap.size, 0, none⟩ (.int .i64 y)).setCell ⟨wr.heap.size, 1, none⟩ (.int .i64 mo)).setCell ⟨wr.heap.size, 2, none⟩ (.int .i64 d)).setCell ⟨wr.heap.size, 3, none⟩ (.int .i64 h)).setCell ⟨wr.heap.size, 4, none⟩ (.int .i64 i)).setCell ⟨wr.heap.size, 5, none⟩ (.int .i64 s)).cell? ⟨gm, k, none⟩ = some (.int .i64 x)) := fun k x hx => ((hbs6.cell (p := ⟨gm, k, none⟩) hgm)).trans (HCr.out k x hx)
           have hgm9 : gm < ((((((w8.setCell ⟨wr.heap.size, 0, none⟩ (.int .i64 y)).setCell ⟨wr.heap.size, 1, none⟩ (.int .i64 mo)).setCell ⟨wr.heap.size, 2, none⟩ (.int .i64 d)).setCell ⟨wr.heap.size, 3, none⟩ (.int .i64 h)).setCell ⟨wr.heap.size, 4, none⟩ (.int .i64 i)).setCell ⟨wr.heap.size, 5, none⟩ (.int .i64 s)).heap.size := Nat.lt_of_lt_of_le hgm hbs6.size
           have hb9 := bThen hb hbs6
           generalize ((((((w8.setCell ⟨wr.heap.size, 0, none⟩ (.int .i64 y)).setCell ⟨wr.heap.size, 1, none⟩ (.int .i64 mo)).setCell ⟨wr.heap.size, 2, none⟩ (.int .i64 d)).setCell ⟨wr.heap.size, 3, none⟩ (.int .i64 h)).setCell ⟨wr.heap.size, 4, none⟩ (.int .i64 i)).setCell ⟨wr.heap.size, 5, none⟩ (.int .i64 s)) = w9 at *
           clear hbs6 hb8' hb8 HZr K Dr HCr hb q0 q1 ql ex HZd HZe NN HBA N8 z0 z1 z2 z3 z4 z5 g0 g1 g2 g3 g4 g5
           clear hN8
           have q0 := K9.out.cell 0 rfl
           have q1 := K9.out.cell 1 rfl
           obtain ⟨d0, d1, d2, d3, d4, d5⟩ := cells6 (w1 := w9) (fun _ _ _ => rfl) D9.out
           obtain ⟨n0, n1, n2, n3, n4, n5⟩ := cells6 (w1 := w9) (fun _ _ _ => rfl) N9.out
           have ex9 := HC9.out k _ HGK.out
           simp only [List.getElem_toArray, List.getElem_cons_succ, List.getElem_cons_zero]
           go_frame
           cases k with
           | zero =>
             go_wp2_with fail
             go_quiet (fail)
             cases b
             · by_cases hxm : x = m
               · have hbx : (x == m) = true := by simp [hxm]
                 have HB2 : Hid (true = decide (m ∈ M.take (0 + 1))) := by show _ = _; rw [HTK.out, hxm]; simp
                 clear hxm
                 go_wp2_with fail
                 go_roundw
                 case rel => exact ⟨0 + 1, true, by omega, by go_num, rfl, HB2, Lib.hid (HZ9.out), Lib.hid (K9.out), Lib.hid (D9.out), Lib.hid (HC9.out), hgm9, below_drewN hb9 _⟩
                 case measure => simp [intOf] <;> omega
               · have hbx : (x == m) = false := by simpa using hxm
                 have HB2 : Hid (false = decide (m ∈ M.take (0 + 1))) := by
                   show _ = _
                   have h8 := HBB.out
                   rw [HTK.out]
                   symm
                   rw [decide_eq_false_iff_not, List.mem_append]
                   rintro (h7 | h7)
                   · exact of_decide_eq_false h8.symm h7
                   · exact hxm (List.mem_singleton.1 h7).symm
                 clear hxm
                 go_wp2_with fail
                 go_roundw
                 case rel => exact ⟨0 + 1, false, by omega, by go_num, rfl, HB2, Lib.hid (HZ9.out), Lib.hid (K9.out), Lib.hid (D9.out), Lib.hid (HC9.out), hgm9, below_drewN hb9 _⟩
                 case measure => simp [intOf] <;> omega
             · have HB2 : Hid (true = decide (m ∈ M.take (0 + 1))) := by
                 show _ = _
                 have h8 := HBB.out
                 rw [HTK.out]
                 symm
                 rw [decide_eq_true_iff, List.mem_append]
                 exact .inl (of_decide_eq_true h8.symm)
               go_wp2_with fail
               go_roundw
               case rel => exact ⟨0 + 1, true, by omega, by go_num, rfl, HB2, Lib.hid (HZ9.out), Lib.hid (K9.out), Lib.hid (D9.out), Lib.hid (HC9.out), hgm9, below_drewN hb9 _⟩
               case measure => simp [intOf] <;> omega
           | succ j =>
             obtain ⟨pv, hp1, hp2⟩ := HASK.out j rfl
             have ep := HC9.out j _ hp1
             have v1 : IntKind.i64.wrap (j : Int) = j := IntWalk.i64_in _ (by omega)
             have v2 : IntKind.i64.wrap ((j : Int) + 1 - 1) = j := by rw [show (j : Int) + 1 - 1 = j by omega]; exact v1
             have hj0 : (0 : Int) ≤ j := by omega
             have hj1 : (j : Int) < M.length := by omega
             have hj2 : j < M.length := by omega
             have hge : ¬ (x ≤ pv) := by omega
             clear hp1
             go_wp2_with fail
             go_quiet (fail)
             clear v1 v2
             cases b
             · by_cases hxm : x = m
               · have hbx : (x == m) = true := by simp [hxm]
                 have HB2 : Hid (true = decide (m ∈ M.take (j + 1 + 1))) := by show _ = _; rw [HTK.out, hxm]; simp
                 clear hxm
                 go_wp2_with fail
                 go_roundw
                 case rel => exact ⟨j + 1 + 1, true, by omega, by go_num, rfl, HB2, Lib.hid (HZ9.out), Lib.hid (K9.out), Lib.hid (D9.out), Lib.hid (HC9.out), hgm9, below_drewN hb9 _⟩
                 case measure => simp [intOf] <;> omega
               · have hbx : (x == m) = false := by simpa using hxm
                 have HB2 : Hid (false = decide (m ∈ M.take (j + 1 + 1))) := by
                   show _ = _
                   have h8 := HBB.out
                   rw [HTK.out]
                   symm
                   rw [decide_eq_false_iff_not, List.mem_append]
                   rintro (h7 | h7)
                   · exact of_decide_eq_false h8.symm h7
                   · exact hxm (List.mem_singleton.1 h7).symm
                 clear hxm
                 go_wp2_with fail
                 go_roundw
                 case rel => exact ⟨j + 1 + 1, false, by omega, by go_num, rfl, HB2, Lib.hid (HZ9.out), Lib.hid (K9.out), Lib.hid (D9.out), Lib.hid (HC9.out), hgm9, below_drewN hb9 _⟩
                 case measure => simp [intOf] <;> omega
             · have HB2 : Hid (true = decide (m ∈ M.take (j + 1 + 1))) := by
                 show _ = _
                 have h8 := HBB.out
                 rw [HTK.out]
                 symm
                 rw [decide_eq_true_iff, List.mem_append]
                 exact .inl (of_decide_eq_true h8.symm)
               go_wp2_with fail
               go_roundw
               case rel => exact ⟨j + 1 + 1, true, by omega, by go_num, rfl, HB2, Lib.hid (HZ9.out), Lib.hid (K9.out), Lib.hid (D9.out), Lib.hid (HC9.out), hgm9, below_drewN hb9 _⟩
               case measure => simp [intOf] <;> omega)
    · have he : M.take k = M := List.take_of_length_le (by omega)
      have HE : Hid (b = true) := by
        show _ = _
        have h8 := HBB.out
        rw [he] at h8
        rw [h8]
        exact decide_eq_true HMEM.out
      obtain rfl := HE.out
      go_wp2_with fail
      refine (C18.out _).mono ?_
      rintro e w8 ⟨rfl, hb8⟩
      have hB8 := bThen hb hb8
      go_wp2
      go_ret
      exact ⟨rfl, hB8⟩
end Go.Proofs.Ytojkkgmfccchbaa
