/- The law ClockOf. -/
import Derived.Test.YtojkkgmfccchbaaRH
namespace Go.Proofs.Ytojkkgmfccchbaa
open Go Go.RowKit Go.Sort

theorem of_yes {n : Int} (h : isMo n = true) (W : World) : Calls Try.prog 10 #[.int .i64 n] W fun e w' => e = .returned (EV (at_ n).v 0) ∧ Below W.heap.size W w' := by
  have := t10 n W
  rw [show ofN n = (at_ n, 0) by unfold ofN; rw [if_pos h]] at this
  exact this
theorem of_no {n : Int} (h : ¬ isMo n = true) (W : World) : Calls Try.prog 10 #[.int .i64 n] W fun e w' => e = .returned (EV (DV 0 0 0 0 0 0) 5) ∧ Below W.heap.size W w' := by
  have := t10 n W
  rw [show ofN n = (Dt.zero, 5) by unfold ofN; rw [if_neg h]] at this
  exact this
theorem rof_yes {n : Int} (h : isMo n = true) (W : World) : Calls Try.prog 11 #[.int .i64 n] W fun e w' => e = .returned (EV (at_ n).v 0) ∧ Below W.heap.size W w' := by
  have := t11 n W
  rw [show ofN n = (at_ n, 0) by unfold ofN; rw [if_pos h]] at this
  exact this
theorem rof_no {n : Int} (h : ¬ isMo n = true) (W : World) : Calls Try.prog 11 #[.int .i64 n] W fun e w' => e = .returned (EV (DV 0 0 0 0 0 0) 5) ∧ Below W.heap.size W w' := by
  have := t11 n W
  rw [show ofN n = (Dt.zero, 5) by unfold ofN; rw [if_neg h]] at this
  exact this
theorem mom_at {n : Int} (h : isMo n = true) (W : World) : Calls Try.prog 13 #[(at_ n).v] W fun e w' => e = .returned (EV (.int .i64 n) 0) ∧ Below W.heap.size W w' := by
  have := t13 (at_ n) W
  rw [show momN (at_ n) = (n, 0) by unfold momN; rw [if_pos (mo_ok h), at_sec, if_pos h]] at this
  exact this
set_option maxRecDepth 100000 in
set_option maxHeartbeats 4000000 in
theorem t3 (moment year month : Int) (w : World) : Calls Try.prog 3 #[.int .i64 moment, .int .i64 year, .int .i64 month] w fun e w' => e = .returned (.bool true) ∧ Below w.heap.size w w' := by
  obtain ⟨ky, ey, ay, by_⟩ := u_m year 8001 (by decide) (by decide)
  obtain ⟨km, em, am, bm⟩ := u_m month 12 (by decide) (by decide)
  have EY := Lib.hid ey
  have EM := Lib.hid em
  have C18 := Lib.hid t18
  clear ey em
  go_enter Try.func3, Try.ntmps3
  go_wp2_with fail
  generalize moment.tmod 100000000000 = n1
  generalize moment.tmod 5000000000 = n2
  go_loopw [8] (fun t wr => ∃ k : Nat, k ≤ 3 ∧ t = .int .i64 k ∧ Hid (Blk wr w.heap.size 3 [.int .i64 moment, .int .i64 n1, .int .i64 n2]) ∧ Below w.heap.size w wr) (fun t _ => (3 - intOf t).toNat)
  case atStart => exact ⟨0, by omega, rfl, Blk.new w _ _, bSelf w _⟩
  case round =>
    obtain ⟨k, hk, rfl, HK, hB⟩ := hrel
    by_cases hlt : k < 3
    · obtain ⟨a, hca⟩ : ∃ a, [Value.int .i64 moment, .int .i64 n1, .int .i64 n2][k]? = some (.int .i64 a) := by
        have h3 : k = 0 ∨ k = 1 ∨ k = 2 := by omega
        rcases h3 with rfl | rfl | rfl
        · exact ⟨_, rfl⟩
        · exact ⟨_, rfl⟩
        · exact ⟨_, rfl⟩
      have hq := HK.out.cell k hca
      have hl := HK.out.lt
      have HCA := Lib.hid hca
      have hk2 : (k : Int) < 3 := by omega
      clear hca
      by_cases hm : isMo a = true
      · have C10 := Lib.hid (of_yes hm)
        have C11 := Lib.hid (rof_yes hm)
        have C13 := Lib.hid (mom_at hm)
        clear hm
        generalize at_ a = x at *
        obtain ⟨y, m, d, h, i, s⟩ := x
        have C12 := Lib.hid (t12 ⟨y, m, d, h, i, s⟩)
        have hB0 := hB
        clear hB
        go_wp2_with fail
        refine (C10.out _).mono ?_
        rintro e w1 ⟨rfl, hb1⟩
        have hB1 := bThen hB0 hb1
        have S1 := Lib.hid (blkDown HK.out hb1)
        clear hb1 hB0 HK hq hl
        have hq := S1.out.cell k HCA.out
        have hl := S1.out.lt
        go_wp2_with fail
        have hB2 := bAl hB1 (.cells #[.int .i64 y, .int .i64 m, .int .i64 d, .int .i64 h, .int .i64 i, .int .i64 s] 24)
        have H1 : Hid (Blk (w1.alloc (.cells #[.int .i64 y, .int .i64 m, .int .i64 d, .int .i64 h, .int .i64 i, .int .i64 s] 24)) w1.heap.size 24 [.int .i64 y, .int .i64 m, .int .i64 d, .int .i64 h, .int .i64 i, .int .i64 s]) := Blk.new w1 #[.int .i64 y, .int .i64 m, .int .i64 d, .int .i64 h, .int .i64 i, .int .i64 s] 24
        have S2 := Lib.hid (S1.out.alloc (.cells #[.int .i64 y, .int .i64 m, .int .i64 d, .int .i64 h, .int .i64 i, .int .i64 s] 24))
        clear S1 hq hl
        generalize w1.alloc (.cells #[.int .i64 y, .int .i64 m, .int .i64 d, .int .i64 h, .int .i64 i, .int .i64 s] 24) = w2 at *
        clear hB1
        have b := H1.out
        have bl := b.lt
        refine (C11.out _).mono ?_
        rintro e w3 ⟨rfl, hb3⟩
        have hB3 := bThen hB2 hb3
        have S3 := Lib.hid (blkDown S2.out hb3)
        have T3 := Lib.hid (blkDown H1.out hb3)
        clear hb3 hB2 S2 H1 b bl
        have hq := S3.out.cell k HCA.out
        have hl := S3.out.lt
        go_wp2_with fail
        have hB4 := bAl hB3 (.cells #[.int .i64 y, .int .i64 m, .int .i64 d, .int .i64 h, .int .i64 i, .int .i64 s] 28)
        have H2 := Lib.hid (T3.out.alloc (.cells #[.int .i64 y, .int .i64 m, .int .i64 d, .int .i64 h, .int .i64 i, .int .i64 s] 28))
        clear T3
        have H3 : Hid (Blk (w3.alloc (.cells #[.int .i64 y, .int .i64 m, .int .i64 d, .int .i64 h, .int .i64 i, .int .i64 s] 28)) w3.heap.size 28 [.int .i64 y, .int .i64 m, .int .i64 d, .int .i64 h, .int .i64 i, .int .i64 s]) := Blk.new w3 #[.int .i64 y, .int .i64 m, .int .i64 d, .int .i64 h, .int .i64 i, .int .i64 s] 28
        have S4 := Lib.hid (S3.out.alloc (.cells #[.int .i64 y, .int .i64 m, .int .i64 d, .int .i64 h, .int .i64 i, .int .i64 s] 28))
        clear S3 hq hl
        generalize w3.alloc (.cells #[.int .i64 y, .int .i64 m, .int .i64 d, .int .i64 h, .int .i64 i, .int .i64 s] 28) = w4 at *
        clear hB3
        have b := H2.out
        obtain ⟨bc0, bc1, bc2, bc3, bc4, bc5⟩ := cells6 (w1 := w4) (fun _ _ _ => rfl) b
        have bl := b.lt
        have c := H3.out
        obtain ⟨cc0, cc1, cc2, cc3, cc4, cc5⟩ := cells6 (w1 := w4) (fun _ _ _ => rfl) c
        have cl := c.lt
        have br0 := cell_regrown bc0
        have br1 := cell_regrown bc1
        have br2 := cell_regrown bc2
        have br3 := cell_regrown bc3
        have br4 := cell_regrown bc4
        have br5 := cell_regrown bc5
        have cr0 := cell_regrown cc0
        have cr1 := cell_regrown cc1
        have cr2 := cell_regrown cc2
        have cr3 := cell_regrown cc3
        have cr4 := cell_regrown cc4
        have cr5 := cell_regrown cc5
        clear bc0 bc1 bc2 bc3 bc4 bc5 bl b
        clear cc0 cc1 cc2 cc3 cc4 cc5 cl c
        refine wp_region_quiet_below (by kernel_rfl) (by kernel_rfl) ?_
        repeat (quiet_step ((go_at_call 12; (with_reducible exact Calls.regrown_of (C12.out _)))))
        refine wpQuiet_nil ?_
        intro _ hw'
        obtain ⟨⟨dq, osq⟩, hw''⟩ := hw'
        subst hw''
        clear br0 br1 br2 br3 br4 br5 cr0 cr1 cr2 cr3 cr4 cr5
        have hbq := below_regrown w4 dq osq
        have hB5 := bThen hB4 hbq
        have S5 := Lib.hid (blkDown S4.out hbq)
        have B5 := Lib.hid (blkDown H2.out hbq)
        generalize grow (redrawn w4 dq) osq = w5 at *
        clear hbq hB4 S4 H2 H3
        obtain ⟨bc0, bc1, bc2, bc3, bc4, bc5⟩ := cells6 (w1 := w5) (fun _ _ _ => rfl) B5.out
        have hq := S5.out.cell k HCA.out
        go_wp2_with fail
        clear bc0 bc1 bc2 bc3 bc4 bc5 hq
        refine (C13.out _).mono ?_
        rintro e w6 ⟨rfl, hb6⟩
        have hB6 := bThen hB5 hb6
        have S6 := Lib.hid (blkDown S5.out hb6)
        clear hb6 hB5 S5 B5
        have hq := S6.out.cell k HCA.out
        go_wp2_with fail
        go_roundw
        case rel => exact ⟨k + 1, by omega, by go_num, S6, hB6⟩
        case measure => simp [intOf] <;> omega
      · have C10 := Lib.hid (of_no hm)
        have C11 := Lib.hid (rof_no hm)
        have C12 := Lib.hid (t12 ⟨0, 0, 0, 0, 0, 0⟩)
        clear hm
        have hB0 := hB
        clear hB
        go_wp2_with fail
        refine (C10.out _).mono ?_
        rintro e w1 ⟨rfl, hb1⟩
        have hB1 := bThen hB0 hb1
        have S1 := Lib.hid (blkDown HK.out hb1)
        clear hb1 hB0 HK hq hl
        have hq := S1.out.cell k HCA.out
        have hl := S1.out.lt
        go_wp2_with fail
        have hB2 := bAl hB1 (.cells #[.int .i64 0, .int .i64 0, .int .i64 0, .int .i64 0, .int .i64 0, .int .i64 0] 24)
        have H1 : Hid (Blk (w1.alloc (.cells #[.int .i64 0, .int .i64 0, .int .i64 0, .int .i64 0, .int .i64 0, .int .i64 0] 24)) w1.heap.size 24 [.int .i64 0, .int .i64 0, .int .i64 0, .int .i64 0, .int .i64 0, .int .i64 0]) := Blk.new w1 #[.int .i64 0, .int .i64 0, .int .i64 0, .int .i64 0, .int .i64 0, .int .i64 0] 24
        have S2 := Lib.hid (S1.out.alloc (.cells #[.int .i64 0, .int .i64 0, .int .i64 0, .int .i64 0, .int .i64 0, .int .i64 0] 24))
        clear S1 hq hl
        generalize w1.alloc (.cells #[.int .i64 0, .int .i64 0, .int .i64 0, .int .i64 0, .int .i64 0, .int .i64 0] 24) = w2 at *
        clear hB1
        have b := H1.out
        have bl := b.lt
        refine (C11.out _).mono ?_
        rintro e w3 ⟨rfl, hb3⟩
        have hB3 := bThen hB2 hb3
        have S3 := Lib.hid (blkDown S2.out hb3)
        have T3 := Lib.hid (blkDown H1.out hb3)
        clear hb3 hB2 S2 H1 b bl
        have hq := S3.out.cell k HCA.out
        have hl := S3.out.lt
        go_wp2_with fail
        have hB4 := bAl hB3 (.cells #[.int .i64 0, .int .i64 0, .int .i64 0, .int .i64 0, .int .i64 0, .int .i64 0] 28)
        have H2 := Lib.hid (T3.out.alloc (.cells #[.int .i64 0, .int .i64 0, .int .i64 0, .int .i64 0, .int .i64 0, .int .i64 0] 28))
        clear T3
        have H3 : Hid (Blk (w3.alloc (.cells #[.int .i64 0, .int .i64 0, .int .i64 0, .int .i64 0, .int .i64 0, .int .i64 0] 28)) w3.heap.size 28 [.int .i64 0, .int .i64 0, .int .i64 0, .int .i64 0, .int .i64 0, .int .i64 0]) := Blk.new w3 #[.int .i64 0, .int .i64 0, .int .i64 0, .int .i64 0, .int .i64 0, .int .i64 0] 28
        have S4 := Lib.hid (S3.out.alloc (.cells #[.int .i64 0, .int .i64 0, .int .i64 0, .int .i64 0, .int .i64 0, .int .i64 0] 28))
        clear S3 hq hl
        generalize w3.alloc (.cells #[.int .i64 0, .int .i64 0, .int .i64 0, .int .i64 0, .int .i64 0, .int .i64 0] 28) = w4 at *
        clear hB3
        have b := H2.out
        obtain ⟨bc0, bc1, bc2, bc3, bc4, bc5⟩ := cells6 (w1 := w4) (fun _ _ _ => rfl) b
        have bl := b.lt
        have c := H3.out
        obtain ⟨cc0, cc1, cc2, cc3, cc4, cc5⟩ := cells6 (w1 := w4) (fun _ _ _ => rfl) c
        have cl := c.lt
        have br0 := cell_regrown bc0
        have br1 := cell_regrown bc1
        have br2 := cell_regrown bc2
        have br3 := cell_regrown bc3
        have br4 := cell_regrown bc4
        have br5 := cell_regrown bc5
        have cr0 := cell_regrown cc0
        have cr1 := cell_regrown cc1
        have cr2 := cell_regrown cc2
        have cr3 := cell_regrown cc3
        have cr4 := cell_regrown cc4
        have cr5 := cell_regrown cc5
        clear bc0 bc1 bc2 bc3 bc4 bc5 bl b
        clear cc0 cc1 cc2 cc3 cc4 cc5 cl c
        refine wp_region_quiet_below (by kernel_rfl) (by kernel_rfl) ?_
        repeat (quiet_step ((go_at_call 12; (with_reducible exact Calls.regrown_of (C12.out _)))))
        refine wpQuiet_nil ?_
        intro _ hw'
        obtain ⟨⟨dq, osq⟩, hw''⟩ := hw'
        subst hw''
        clear br0 br1 br2 br3 br4 br5 cr0 cr1 cr2 cr3 cr4 cr5
        have hbq := below_regrown w4 dq osq
        have hB5 := bThen hB4 hbq
        have S5 := Lib.hid (blkDown S4.out hbq)
        have B5 := Lib.hid (blkDown H2.out hbq)
        generalize grow (redrawn w4 dq) osq = w5 at *
        clear hbq hB4 S4 H2 H3
        obtain ⟨bc0, bc1, bc2, bc3, bc4, bc5⟩ := cells6 (w1 := w5) (fun _ _ _ => rfl) B5.out
        have hq := S5.out.cell k HCA.out
        go_wp2_with fail
        go_roundw
        case rel => exact ⟨k + 1, by omega, by go_num, S5, hB5⟩
        case measure => simp [intOf] <;> omega
    · have hl := HK.out.lt
      clear HK
      have ey := EY.out
      go_wp2_with fail
      clear ey
      generalize hg : wr.heap.size = g at *
      have hge : w.heap.size ≤ g := by omega
      have HG := Lib.hid hg
      go_loopw [16] (fun t ws => ∃ k : Nat, k ≤ 2 ∧ t = .int .i64 k ∧ Hid (Blk ws g 3 [.int .i64 year, .int .i64 (ky - 2000)]) ∧ Below w.heap.size w ws) (fun t _ => (2 - intOf t).toNat)
      case atStart => exact ⟨0, by omega, rfl, newAt _ _ _ _ _ HG.out.symm rfl, bAl hB _⟩
      case round =>
        clear hg HG hl hB
        obtain ⟨k, hk, rfl, HK, hB⟩ := hrel
        by_cases hlt : k < 2
        · obtain ⟨a, hca⟩ : ∃ a, [Value.int .i64 year, .int .i64 (ky - 2000)][k]? = some (.int .i64 a) := by
            have h3 : k = 0 ∨ k = 1 := by omega
            rcases h3 with rfl | rfl
            · exact ⟨_, rfl⟩
            · exact ⟨_, rfl⟩
          have hq := HK.out.cell k hca
          have HCA := Lib.hid hca
          have hk2 : (k : Int) < 2 := by omega
          clear hca
          have C14 := Lib.hid (t14 a)
          have C15 := Lib.hid (t15 a)
          have C16 := Lib.hid (t16 a month)
          have C17 := Lib.hid (t17 a month)
          have C16m := Lib.hid (t16 a (1 + km))
          have C17m := Lib.hid (t17 a (1 + km))
          generalize lpN a = L1 at *
          generalize dsN a month = L2 at *
          generalize dsN a (1 + km) = L3 at *
          obtain ⟨la, lb⟩ := L1
          obtain ⟨lc, ld⟩ := L2
          obtain ⟨le, lf⟩ := L3
          go_wp2_with (first | (go_at_call 14; (with_reducible refine (C14.out _).mono ?_); rintro e w' ⟨rfl, rfl⟩) | (go_at_call 15; (with_reducible refine (C15.out _).mono ?_); rintro e w' ⟨rfl, rfl⟩) | (go_at_call 16; (with_reducible refine (C16.out _).mono ?_); rintro e w' ⟨rfl, rfl⟩))
          refine (C17.out _).mono ?_
          rintro e w1 ⟨rfl, hb1⟩
          have hB1 := bThen hB hb1
          have S1 := Lib.hid (blkDown HK.out hb1)
          clear hb1 hB HK hq
          have hq := S1.out.cell k HCA.out
          have em := EM.out
          go_wp2_with (go_at_call 16; (with_reducible refine (C16m.out _).mono ?_); rintro e w' ⟨rfl, rfl⟩)
          refine (C17m.out _).mono ?_
          rintro e w2 ⟨rfl, hb2⟩
          have hB2 := bThen hB1 hb2
          have S2 := Lib.hid (blkDown S1.out hb2)
          clear hb2 hB1 S1 hq em
          go_wp2_with fail
          go_roundw
          case rel => exact ⟨k + 1, by omega, by go_num, S2, hB2⟩
          case measure => simp [intOf] <;> omega
        · clear HK
          go_wp2_with fail
          refine (C18.out _).mono ?_
          rintro e w1 ⟨rfl, hb1⟩
          have hB1 := bThen hB hb1
          go_wp2
          go_ret
          exact ⟨rfl, hB1⟩
end Go.Proofs.Ytojkkgmfccchbaa
