/- The reference: Between. -/
import Derived.Test.YtojkkgmfccchbaaRF
import Derived.Test.YtojkkgmfccchbaaF
namespace Go.Proofs.Ytojkkgmfccchbaa
open Go Go.RowKit Go.Sort

set_option maxHeartbeats 2000000 in
theorem t49_bad (a b : Dt) (w : World) (hn : ¬ (a.ok = true ∧ b.ok = true ∧ a.sec ≤ b.sec)) : Calls Try.prog 49 #[a.v, b.v] w fun e w' => e = .returned (beN a b).v ∧ Below w.heap.size w w' := by
  have e : beN a b = ⟨0, 0, 0, 1⟩ := by unfold beN; rw [if_neg hn]
  rw [e]
  clear e
  by_cases ha : a.ok = true
  · by_cases hb : b.ok = true
    · have C37 := Lib.hid (t76_b ha)
      have C37' := Lib.hid (t76_b hb)
      have C38 := Lib.hid (t79_b ha)
      have C38' := Lib.hid (t79_b hb)
      have hlt : b.sec < a.sec := by
        rcases Int.lt_or_le b.sec a.sec with h | h
        · exact h
        · exact absurd ⟨ha, hb, h⟩ hn
      have hsa := ok_sec ha
      have hsb := ok_sec hb
      clear hn ha hb
      generalize a.sec = A at *
      generalize b.sec = B at *
      obtain ⟨y, m, d, h, mi, s⟩ := a
      obtain ⟨y', m', d', h', mi', s'⟩ := b
      try dsimp only at *
      go_enter Try.func49, Try.ntmps49
      go_wp2_with fail
      have hb0 : Below w.heap.size w ((w.alloc (.cells #[.int .i64 y, .int .i64 m, .int .i64 d, .int .i64 h, .int .i64 mi, .int .i64 s] 28)).alloc (.cells #[.int .i64 y', .int .i64 m', .int .i64 d', .int .i64 h', .int .i64 mi', .int .i64 s'] 28)) := (bSelf w _).alloc (by simp) _
      have k1 : Blk ((w.alloc (.cells #[.int .i64 y, .int .i64 m, .int .i64 d, .int .i64 h, .int .i64 mi, .int .i64 s] 28)).alloc (.cells #[.int .i64 y', .int .i64 m', .int .i64 d', .int .i64 h', .int .i64 mi', .int .i64 s'] 28)) w.heap.size 28 [.int .i64 y, .int .i64 m, .int .i64 d, .int .i64 h, .int .i64 mi, .int .i64 s] := (Blk.new w _ _).alloc _
      have k2 : Blk ((w.alloc (.cells #[.int .i64 y, .int .i64 m, .int .i64 d, .int .i64 h, .int .i64 mi, .int .i64 s] 28)).alloc (.cells #[.int .i64 y', .int .i64 m', .int .i64 d', .int .i64 h', .int .i64 mi', .int .i64 s'] 28)) (w.heap.size + 1) 28 [.int .i64 y', .int .i64 m', .int .i64 d', .int .i64 h', .int .i64 mi', .int .i64 s'] := newAt _ _ _ _ _ (by simp) rfl
      generalize (w.alloc (.cells #[.int .i64 y, .int .i64 m, .int .i64 d, .int .i64 h, .int .i64 mi, .int .i64 s] 28)).alloc (.cells #[.int .i64 y', .int .i64 m', .int .i64 d', .int .i64 h', .int .i64 mi', .int .i64 s'] 28) = w1 at *
      have K1 := Lib.hid k1
      have K2 := Lib.hid k2
      obtain ⟨p0, p1, p2, p3, p4, p5⟩ := cells6 (w1 := w1) (fun _ _ _ => rfl) k1
      obtain ⟨q0, q1, q2, q3, q4, q5⟩ := cells6 (w1 := w1) (fun _ _ _ => rfl) k2
      clear k1 k2
      have r0 := cell_regrown p0
      have r1 := cell_regrown p1
      have r2 := cell_regrown p2
      have r3 := cell_regrown p3
      have r4 := cell_regrown p4
      have r5 := cell_regrown p5
      have s0 := cell_regrown q0
      have s1 := cell_regrown q1
      have s2 := cell_regrown q2
      have s3 := cell_regrown q3
      have s4 := cell_regrown q4
      have s5 := cell_regrown q5
      clear p0 p1 p2 p3 p4 p5 q0 q1 q2 q3 q4 q5
      refine wp_region_quiet_below (by kernel_rfl) (by kernel_rfl) ?_
      repeat (quiet_step (first | ((go_at_call 76; (with_reducible exact Calls.regrown_of (C37.out _))))| ((go_at_call 76; (with_reducible exact Calls.regrown_of (C37'.out _))))| ((go_at_call 79; (with_reducible exact Calls.regrown_of (C38.out _))))| ((go_at_call 79; (with_reducible exact Calls.regrown_of (C38'.out _))))))
      refine wpQuiet_nil ?_
      intro _ hw'
      obtain ⟨⟨dq, osq⟩, hw''⟩ := hw'
      subst hw''
      clear r0 r1 r2 r3 r4 r5 s0 s1 s2 s3 s4 s5
      have hbq := below_regrown w1 dq osq
      generalize grow (redrawn w1 dq) osq = w2 at *
      have k1 := blkDown K1.out hbq
      have k2 := blkDown K2.out hbq
      have hbw2 := bThen hb0 hbq
      clear hbq K1 K2
      go_wp2
      refine bodyPost_ret (results_tmp4 rfl _ _ _) rfl ?_
      exact ⟨rfl, hbw2⟩
    · have C37 := Lib.hid (t76_b ha)
      have C37' := Lib.hid (t76_b (eq_false_of_ne_true hb))
      clear hn ha hb
      obtain ⟨y, m, d, h, mi, s⟩ := a
      obtain ⟨y', m', d', h', mi', s'⟩ := b
      try dsimp only at *
      go_enter Try.func49, Try.ntmps49
      go_wp2_with fail
      have hb0 : Below w.heap.size w ((w.alloc (.cells #[.int .i64 y, .int .i64 m, .int .i64 d, .int .i64 h, .int .i64 mi, .int .i64 s] 28)).alloc (.cells #[.int .i64 y', .int .i64 m', .int .i64 d', .int .i64 h', .int .i64 mi', .int .i64 s'] 28)) := (bSelf w _).alloc (by simp) _
      have k1 : Blk ((w.alloc (.cells #[.int .i64 y, .int .i64 m, .int .i64 d, .int .i64 h, .int .i64 mi, .int .i64 s] 28)).alloc (.cells #[.int .i64 y', .int .i64 m', .int .i64 d', .int .i64 h', .int .i64 mi', .int .i64 s'] 28)) w.heap.size 28 [.int .i64 y, .int .i64 m, .int .i64 d, .int .i64 h, .int .i64 mi, .int .i64 s] := (Blk.new w _ _).alloc _
      have k2 : Blk ((w.alloc (.cells #[.int .i64 y, .int .i64 m, .int .i64 d, .int .i64 h, .int .i64 mi, .int .i64 s] 28)).alloc (.cells #[.int .i64 y', .int .i64 m', .int .i64 d', .int .i64 h', .int .i64 mi', .int .i64 s'] 28)) (w.heap.size + 1) 28 [.int .i64 y', .int .i64 m', .int .i64 d', .int .i64 h', .int .i64 mi', .int .i64 s'] := newAt _ _ _ _ _ (by simp) rfl
      generalize (w.alloc (.cells #[.int .i64 y, .int .i64 m, .int .i64 d, .int .i64 h, .int .i64 mi, .int .i64 s] 28)).alloc (.cells #[.int .i64 y', .int .i64 m', .int .i64 d', .int .i64 h', .int .i64 mi', .int .i64 s'] 28) = w1 at *
      have K1 := Lib.hid k1
      have K2 := Lib.hid k2
      obtain ⟨p0, p1, p2, p3, p4, p5⟩ := cells6 (w1 := w1) (fun _ _ _ => rfl) k1
      obtain ⟨q0, q1, q2, q3, q4, q5⟩ := cells6 (w1 := w1) (fun _ _ _ => rfl) k2
      clear k1 k2
      have r0 := cell_regrown p0
      have r1 := cell_regrown p1
      have r2 := cell_regrown p2
      have r3 := cell_regrown p3
      have r4 := cell_regrown p4
      have r5 := cell_regrown p5
      have s0 := cell_regrown q0
      have s1 := cell_regrown q1
      have s2 := cell_regrown q2
      have s3 := cell_regrown q3
      have s4 := cell_regrown q4
      have s5 := cell_regrown q5
      clear p0 p1 p2 p3 p4 p5 q0 q1 q2 q3 q4 q5
      refine wp_region_quiet_below (by kernel_rfl) (by kernel_rfl) ?_
      repeat (quiet_step (first | ((go_at_call 76; (with_reducible exact Calls.regrown_of (C37.out _))))| ((go_at_call 76; (with_reducible exact Calls.regrown_of (C37'.out _))))))
      refine wpQuiet_nil ?_
      intro _ hw'
      obtain ⟨⟨dq, osq⟩, hw''⟩ := hw'
      subst hw''
      clear r0 r1 r2 r3 r4 r5 s0 s1 s2 s3 s4 s5
      have hbq := below_regrown w1 dq osq
      generalize grow (redrawn w1 dq) osq = w2 at *
      have k1 := blkDown K1.out hbq
      have k2 := blkDown K2.out hbq
      have hbw2 := bThen hb0 hbq
      clear hbq K1 K2
      go_wp2
      refine bodyPost_ret (results_tmp4 rfl _ _ _) rfl ?_
      exact ⟨rfl, hbw2⟩
  · have C37 := Lib.hid (t76_b (eq_false_of_ne_true ha))
    clear hn ha
    obtain ⟨y, m, d, h, mi, s⟩ := a
    obtain ⟨y', m', d', h', mi', s'⟩ := b
    try dsimp only at *
    go_enter Try.func49, Try.ntmps49
    go_wp2_with fail
    have hb0 : Below w.heap.size w ((w.alloc (.cells #[.int .i64 y, .int .i64 m, .int .i64 d, .int .i64 h, .int .i64 mi, .int .i64 s] 28)).alloc (.cells #[.int .i64 y', .int .i64 m', .int .i64 d', .int .i64 h', .int .i64 mi', .int .i64 s'] 28)) := (bSelf w _).alloc (by simp) _
    have k1 : Blk ((w.alloc (.cells #[.int .i64 y, .int .i64 m, .int .i64 d, .int .i64 h, .int .i64 mi, .int .i64 s] 28)).alloc (.cells #[.int .i64 y', .int .i64 m', .int .i64 d', .int .i64 h', .int .i64 mi', .int .i64 s'] 28)) w.heap.size 28 [.int .i64 y, .int .i64 m, .int .i64 d, .int .i64 h, .int .i64 mi, .int .i64 s] := (Blk.new w _ _).alloc _
    have k2 : Blk ((w.alloc (.cells #[.int .i64 y, .int .i64 m, .int .i64 d, .int .i64 h, .int .i64 mi, .int .i64 s] 28)).alloc (.cells #[.int .i64 y', .int .i64 m', .int .i64 d', .int .i64 h', .int .i64 mi', .int .i64 s'] 28)) (w.heap.size + 1) 28 [.int .i64 y', .int .i64 m', .int .i64 d', .int .i64 h', .int .i64 mi', .int .i64 s'] := newAt _ _ _ _ _ (by simp) rfl
    generalize (w.alloc (.cells #[.int .i64 y, .int .i64 m, .int .i64 d, .int .i64 h, .int .i64 mi, .int .i64 s] 28)).alloc (.cells #[.int .i64 y', .int .i64 m', .int .i64 d', .int .i64 h', .int .i64 mi', .int .i64 s'] 28) = w1 at *
    have K1 := Lib.hid k1
    have K2 := Lib.hid k2
    obtain ⟨p0, p1, p2, p3, p4, p5⟩ := cells6 (w1 := w1) (fun _ _ _ => rfl) k1
    obtain ⟨q0, q1, q2, q3, q4, q5⟩ := cells6 (w1 := w1) (fun _ _ _ => rfl) k2
    clear k1 k2
    have r0 := cell_regrown p0
    have r1 := cell_regrown p1
    have r2 := cell_regrown p2
    have r3 := cell_regrown p3
    have r4 := cell_regrown p4
    have r5 := cell_regrown p5
    have s0 := cell_regrown q0
    have s1 := cell_regrown q1
    have s2 := cell_regrown q2
    have s3 := cell_regrown q3
    have s4 := cell_regrown q4
    have s5 := cell_regrown q5
    clear p0 p1 p2 p3 p4 p5 q0 q1 q2 q3 q4 q5
    refine wp_region_quiet_below (by kernel_rfl) (by kernel_rfl) ?_
    repeat (quiet_step (first | ((go_at_call 76; (with_reducible exact Calls.regrown_of (C37.out _))))))
    refine wpQuiet_nil ?_
    intro _ hw'
    obtain ⟨⟨dq, osq⟩, hw''⟩ := hw'
    subst hw''
    clear r0 r1 r2 r3 r4 r5 s0 s1 s2 s3 s4 s5
    have hbq := below_regrown w1 dq osq
    generalize grow (redrawn w1 dq) osq = w2 at *
    have k1 := blkDown K1.out hbq
    have k2 := blkDown K2.out hbq
    have hbw2 := bThen hb0 hbq
    clear hbq K1 K2
    go_wp2
    refine bodyPost_ret (results_tmp4 rfl _ _ _) rfl ?_
    exact ⟨rfl, hbw2⟩
set_option maxHeartbeats 4000000 in
theorem t49_ok (a b : Dt) (w : World) (ha : a.ok = true) (hb : b.ok = true) (hab : a.sec ≤ b.sec) : Calls Try.prog 49 #[a.v, b.v] w fun e w' => e = .returned (beN a b).v ∧ Below w.heap.size w w' := by
  have e : beN a b = ⟨bmN a b / 12, bmN a b % 12, (b.sec - (lat_ a (bmN a b)).sec) / 86400, 0⟩ := by unfold beN; rw [if_pos ⟨ha, hb, hab⟩]
  rw [e]
  clear e
  obtain ⟨f1, f2, f3, f4, f5, f6, f7⟩ := bm_facts ha hb hab
  have ga := ok_facts ha
  have gb := ok_facts hb
  have C37 := Lib.hid (t76_b ha)
  have C37' := Lib.hid (t76_b hb)
  have C38 := Lib.hid (t79_b ha)
  have C38' := Lib.hid (t79_b hb)
  have hy0 : (lat_ a ((b.y - a.y) * 12 + b.m - a.m)).y = (b.y * 12 + b.m - 1) / 12 := by
    show (a.y * 12 + a.m - 1 + ((b.y - a.y) * 12 + b.m - a.m)) / 12 = _
    rw [bm_key]
  have C75 := Lib.hid (t77_b (n := (b.y - a.y) * 12 + b.m - a.m) ha (by omega) (by omega))
  have C38l := Lib.hid (t79_l (n := (b.y - a.y) * 12 + b.m - a.m) ha (by omega) (by omega))
  have C75n := Lib.hid (t77_b (n := bmN a b) ha (by omega) (by omega))
  have C38n := Lib.hid (t79_l (n := bmN a b) ha (by omega) (by omega))
  have hsa := ok_sec ha
  have hsb := ok_sec hb
  have hl1 : -200000000000 ≤ (lat_ a (bmN a b)).sec := by
    have q1 := num_in (lat_isD ha (bmN a b))
    have q2 := lat_time ha (bmN a b)
    have q3 : dby (-2000) ≤ dby (lat_ a (bmN a b)).y := dby_le (by omega)
    have q5 : dby (-2000) = -730485 := by decide
    rw [sec_num]
    have q7 : (lat_ a (bmN a b)).num = num (lat_ a (bmN a b)).y (lat_ a (bmN a b)).m (lat_ a (bmN a b)).d := rfl
    omega
  by_cases hc : (lat_ a ((b.y - a.y) * 12 + b.m - a.m)).sec ≤ b.sec
  · have hn0 : bmN a b = (b.y - a.y) * 12 + b.m - a.m := bm_yes hc
    have hP : 12 * (b.y - a.y) + b.m - a.m = (b.y - a.y) * 12 + b.m - a.m := by omega
    clear hy0 ha hb f4 f5 f6 f7
    have hk1 : -24001 ≤ 12 * a.y := by omega
    generalize a.sec = A at *
    generalize b.sec = B at *
    generalize bmN a b = N at *
    generalize (lat_ a N).sec = L at *
    generalize lat_ a N = X at *
    generalize (lat_ a ((b.y - a.y) * 12 + b.m - a.m)).sec = M at *
    generalize lat_ a ((b.y - a.y) * 12 + b.m - a.m) = Y at *
    generalize (b.y - a.y) * 12 + b.m - a.m = N0 at *
    subst hn0
    have HP := Lib.hid hP
    clear hP
    obtain ⟨y, m, d, h, mi, s⟩ := a
    obtain ⟨y', m', d', h', mi', s'⟩ := b
    try dsimp only at *
    go_enter Try.func49, Try.ntmps49
    go_wp2_with fail
    have hb0 : Below w.heap.size w ((w.alloc (.cells #[.int .i64 y, .int .i64 m, .int .i64 d, .int .i64 h, .int .i64 mi, .int .i64 s] 28)).alloc (.cells #[.int .i64 y', .int .i64 m', .int .i64 d', .int .i64 h', .int .i64 mi', .int .i64 s'] 28)) := (bSelf w _).alloc (by simp) _
    have k1 : Blk ((w.alloc (.cells #[.int .i64 y, .int .i64 m, .int .i64 d, .int .i64 h, .int .i64 mi, .int .i64 s] 28)).alloc (.cells #[.int .i64 y', .int .i64 m', .int .i64 d', .int .i64 h', .int .i64 mi', .int .i64 s'] 28)) w.heap.size 28 [.int .i64 y, .int .i64 m, .int .i64 d, .int .i64 h, .int .i64 mi, .int .i64 s] := (Blk.new w _ _).alloc _
    have k2 : Blk ((w.alloc (.cells #[.int .i64 y, .int .i64 m, .int .i64 d, .int .i64 h, .int .i64 mi, .int .i64 s] 28)).alloc (.cells #[.int .i64 y', .int .i64 m', .int .i64 d', .int .i64 h', .int .i64 mi', .int .i64 s'] 28)) (w.heap.size + 1) 28 [.int .i64 y', .int .i64 m', .int .i64 d', .int .i64 h', .int .i64 mi', .int .i64 s'] := newAt _ _ _ _ _ (by simp) rfl
    generalize (w.alloc (.cells #[.int .i64 y, .int .i64 m, .int .i64 d, .int .i64 h, .int .i64 mi, .int .i64 s] 28)).alloc (.cells #[.int .i64 y', .int .i64 m', .int .i64 d', .int .i64 h', .int .i64 mi', .int .i64 s'] 28) = w1 at *
    have K1 := Lib.hid k1
    have K2 := Lib.hid k2
    obtain ⟨p0, p1, p2, p3, p4, p5⟩ := cells6 (w1 := w1) (fun _ _ _ => rfl) k1
    obtain ⟨q0, q1, q2, q3, q4, q5⟩ := cells6 (w1 := w1) (fun _ _ _ => rfl) k2
    clear k1 k2
    have r0 := cell_regrown p0
    have r1 := cell_regrown p1
    have r2 := cell_regrown p2
    have r3 := cell_regrown p3
    have r4 := cell_regrown p4
    have r5 := cell_regrown p5
    have s0 := cell_regrown q0
    have s1 := cell_regrown q1
    have s2 := cell_regrown q2
    have s3 := cell_regrown q3
    have s4 := cell_regrown q4
    have s5 := cell_regrown q5
    clear p0 p1 p2 p3 p4 p5 q0 q1 q2 q3 q4 q5
    refine wp_region_quiet_below (by kernel_rfl) (by kernel_rfl) ?_
    repeat (quiet_step (first | ((go_at_call 76; (with_reducible exact Calls.regrown_of (C37.out _))))| ((go_at_call 76; (with_reducible exact Calls.regrown_of (C37'.out _))))| ((go_at_call 79; (with_reducible exact Calls.regrown_of (C38.out _))))| ((go_at_call 79; (with_reducible exact Calls.regrown_of (C38'.out _))))))
    refine wpQuiet_nil ?_
    intro _ hw'
    obtain ⟨⟨dq, osq⟩, hw''⟩ := hw'
    subst hw''
    clear r0 r1 r2 r3 r4 r5 s0 s1 s2 s3 s4 s5
    have hbq := below_regrown w1 dq osq
    generalize grow (redrawn w1 dq) osq = w2 at *
    have k1 := blkDown K1.out hbq
    have k2 := blkDown K2.out hbq
    have hbw2 := bThen hb0 hbq
    clear hbq K1 K2
    obtain ⟨p0, p1, p2, p3, p4, p5⟩ := cells6 (w1 := w2) (fun _ _ _ => rfl) k1
    obtain ⟨q0, q1, q2, q3, q4, q5⟩ := cells6 (w1 := w2) (fun _ _ _ => rfl) k2
    have hP := HP.out
    go_wp2_with fail
    clear p0 p1 p2 p3 p4 p5 q0 q1 q2 q3 q4 q5 hP
    have K1 := Lib.hid k1
    have K2 := Lib.hid k2
    have HB2 := Lib.hid hbw2
    clear k1 k2 hbw2
    go_loopw [8] (fun t wr => t = .int .i64 N ∧ Hid (Blk wr w.heap.size 28 [.int .i64 y, .int .i64 m, .int .i64 d, .int .i64 h, .int .i64 mi, .int .i64 s]) ∧ Hid (Blk wr (w.heap.size + 1) 28 [.int .i64 y', .int .i64 m', .int .i64 d', .int .i64 h', .int .i64 mi', .int .i64 s']) ∧ Hid (Below w.heap.size w wr)) (fun t _ => (intOf t).toNat)
    case atStart => exact ⟨rfl, K1, K2, HB2⟩
    case round =>
      obtain ⟨rfl, K1', K2', HB⟩ := hrel
      have k1 := K1'.out
      have k2 := K2'.out
      have hb := HB.out
      go_wp2_with fail
      have K1 := Lib.hid k1
      have K2 := Lib.hid k2
      obtain ⟨p0, p1, p2, p3, p4, p5⟩ := cells6 (w1 := wr) (fun _ _ _ => rfl) k1
      obtain ⟨q0, q1, q2, q3, q4, q5⟩ := cells6 (w1 := wr) (fun _ _ _ => rfl) k2
      clear k1 k2
      have r0 := cell_regrown p0
      have r1 := cell_regrown p1
      have r2 := cell_regrown p2
      have r3 := cell_regrown p3
      have r4 := cell_regrown p4
      have r5 := cell_regrown p5
      have s0 := cell_regrown q0
      have s1 := cell_regrown q1
      have s2 := cell_regrown q2
      have s3 := cell_regrown q3
      have s4 := cell_regrown q4
      have s5 := cell_regrown q5
      clear p0 p1 p2 p3 p4 p5 q0 q1 q2 q3 q4 q5
      refine wp_region_quiet_below (by kernel_rfl) (by kernel_rfl) ?_
      repeat (quiet_step (first | ((go_at_call 77; (with_reducible exact Calls.regrown_of (C75n.out _))))| ((go_at_call 79; (with_reducible exact Calls.regrown_of (C38n.out _))))| ((go_at_call 79; (with_reducible exact Calls.regrown_of (C38'.out _))))))
      refine wpQuiet_nil ?_
      intro _ hw'
      obtain ⟨⟨dq, osq⟩, hw''⟩ := hw'
      subst hw''
      clear r0 r1 r2 r3 r4 r5 s0 s1 s2 s3 s4 s5
      have hbq := below_regrown wr dq osq
      generalize grow (redrawn wr dq) osq = w3 at *
      have k1 := blkDown K1.out hbq
      have k2 := blkDown K2.out hbq
      have hbw3 := bThen hb hbq
      clear hbq K1 K2
      go_wp2_with fail
      have hP := HP.out
      clear hP
      have v1 : IntKind.i64.wrap (B - L) = B - L := IntWalk.i64_in _ (by omega)
      have v2 : N.tdiv 12 = N / 12 := Int.tdiv_eq_ediv_of_nonneg (by omega)
      have v3 : N.tmod 12 = N % 12 := Int.tmod_eq_emod_of_nonneg (by omega)
      have v4 : (B - L).tdiv 86400 = (B - L) / 86400 := Int.tdiv_eq_ediv_of_nonneg (by omega)
      have v5 : IntKind.i64.wrap (N / 12) = N / 12 := IntWalk.i64_in _ (by omega)
      have v6 : IntKind.i64.wrap (N % 12) = N % 12 := IntWalk.i64_in _ (by omega)
      have v7 : IntKind.i64.wrap ((B - L) / 86400) = (B - L) / 86400 := IntWalk.i64_in _ (by omega)
      have K1 := Lib.hid k1
      have K2 := Lib.hid k2
      obtain ⟨p0, p1, p2, p3, p4, p5⟩ := cells6 (w1 := w3) (fun _ _ _ => rfl) k1
      obtain ⟨q0, q1, q2, q3, q4, q5⟩ := cells6 (w1 := w3) (fun _ _ _ => rfl) k2
      clear k1 k2
      have r0 := cell_regrown p0
      have r1 := cell_regrown p1
      have r2 := cell_regrown p2
      have r3 := cell_regrown p3
      have r4 := cell_regrown p4
      have r5 := cell_regrown p5
      have s0 := cell_regrown q0
      have s1 := cell_regrown q1
      have s2 := cell_regrown q2
      have s3 := cell_regrown q3
      have s4 := cell_regrown q4
      have s5 := cell_regrown q5
      clear p0 p1 p2 p3 p4 p5 q0 q1 q2 q3 q4 q5
      refine wp_region_quiet_below (by kernel_rfl) (by kernel_rfl) ?_
      repeat (quiet_step (first | ((go_at_call 77; (with_reducible exact Calls.regrown_of (C75n.out _))))| ((go_at_call 79; (with_reducible exact Calls.regrown_of (C38n.out _))))| ((go_at_call 79; (with_reducible exact Calls.regrown_of (C38'.out _))))))
      refine wpQuiet_nil ?_
      intro _ hw'
      obtain ⟨⟨dq, osq⟩, hw''⟩ := hw'
      subst hw''
      clear r0 r1 r2 r3 r4 r5 s0 s1 s2 s3 s4 s5
      have hbq := below_regrown w3 dq osq
      generalize grow (redrawn w3 dq) osq = w4 at *
      have k1 := blkDown K1.out hbq
      have k2 := blkDown K2.out hbq
      have hbw4 := bThen hbw3 hbq
      clear hbq K1 K2
      clear v1 v2 v3 v4 v5 v6 v7
      go_wp2
      refine bodyPost_ret (results_tmp4 rfl _ _ _) rfl ?_
      exact ⟨rfl, hbw4⟩
  · have hn0 : bmN a b = (b.y - a.y) * 12 + b.m - a.m - 1 := bm_no hc
    have hP : 12 * (b.y - a.y) + b.m - a.m = (b.y - a.y) * 12 + b.m - a.m := by omega
    clear hy0 ha hb f4 f5 f6 f7
    have hk1 : -24001 ≤ 12 * a.y := by omega
    generalize a.sec = A at *
    generalize b.sec = B at *
    generalize bmN a b = N at *
    generalize (lat_ a N).sec = L at *
    generalize lat_ a N = X at *
    generalize (lat_ a ((b.y - a.y) * 12 + b.m - a.m)).sec = M at *
    generalize lat_ a ((b.y - a.y) * 12 + b.m - a.m) = Y at *
    generalize (b.y - a.y) * 12 + b.m - a.m = N0 at *
    have hn1 : N0 = N + 1 := by omega
    clear hn0
    subst hn1
    have HP := Lib.hid hP
    clear hP
    obtain ⟨y, m, d, h, mi, s⟩ := a
    obtain ⟨y', m', d', h', mi', s'⟩ := b
    try dsimp only at *
    go_enter Try.func49, Try.ntmps49
    go_wp2_with fail
    have hb0 : Below w.heap.size w ((w.alloc (.cells #[.int .i64 y, .int .i64 m, .int .i64 d, .int .i64 h, .int .i64 mi, .int .i64 s] 28)).alloc (.cells #[.int .i64 y', .int .i64 m', .int .i64 d', .int .i64 h', .int .i64 mi', .int .i64 s'] 28)) := (bSelf w _).alloc (by simp) _
    have k1 : Blk ((w.alloc (.cells #[.int .i64 y, .int .i64 m, .int .i64 d, .int .i64 h, .int .i64 mi, .int .i64 s] 28)).alloc (.cells #[.int .i64 y', .int .i64 m', .int .i64 d', .int .i64 h', .int .i64 mi', .int .i64 s'] 28)) w.heap.size 28 [.int .i64 y, .int .i64 m, .int .i64 d, .int .i64 h, .int .i64 mi, .int .i64 s] := (Blk.new w _ _).alloc _
    have k2 : Blk ((w.alloc (.cells #[.int .i64 y, .int .i64 m, .int .i64 d, .int .i64 h, .int .i64 mi, .int .i64 s] 28)).alloc (.cells #[.int .i64 y', .int .i64 m', .int .i64 d', .int .i64 h', .int .i64 mi', .int .i64 s'] 28)) (w.heap.size + 1) 28 [.int .i64 y', .int .i64 m', .int .i64 d', .int .i64 h', .int .i64 mi', .int .i64 s'] := newAt _ _ _ _ _ (by simp) rfl
    generalize (w.alloc (.cells #[.int .i64 y, .int .i64 m, .int .i64 d, .int .i64 h, .int .i64 mi, .int .i64 s] 28)).alloc (.cells #[.int .i64 y', .int .i64 m', .int .i64 d', .int .i64 h', .int .i64 mi', .int .i64 s'] 28) = w1 at *
    have K1 := Lib.hid k1
    have K2 := Lib.hid k2
    obtain ⟨p0, p1, p2, p3, p4, p5⟩ := cells6 (w1 := w1) (fun _ _ _ => rfl) k1
    obtain ⟨q0, q1, q2, q3, q4, q5⟩ := cells6 (w1 := w1) (fun _ _ _ => rfl) k2
    clear k1 k2
    have r0 := cell_regrown p0
    have r1 := cell_regrown p1
    have r2 := cell_regrown p2
    have r3 := cell_regrown p3
    have r4 := cell_regrown p4
    have r5 := cell_regrown p5
    have s0 := cell_regrown q0
    have s1 := cell_regrown q1
    have s2 := cell_regrown q2
    have s3 := cell_regrown q3
    have s4 := cell_regrown q4
    have s5 := cell_regrown q5
    clear p0 p1 p2 p3 p4 p5 q0 q1 q2 q3 q4 q5
    refine wp_region_quiet_below (by kernel_rfl) (by kernel_rfl) ?_
    repeat (quiet_step (first | ((go_at_call 76; (with_reducible exact Calls.regrown_of (C37.out _))))| ((go_at_call 76; (with_reducible exact Calls.regrown_of (C37'.out _))))| ((go_at_call 79; (with_reducible exact Calls.regrown_of (C38.out _))))| ((go_at_call 79; (with_reducible exact Calls.regrown_of (C38'.out _))))))
    refine wpQuiet_nil ?_
    intro _ hw'
    obtain ⟨⟨dq, osq⟩, hw''⟩ := hw'
    subst hw''
    clear r0 r1 r2 r3 r4 r5 s0 s1 s2 s3 s4 s5
    have hbq := below_regrown w1 dq osq
    generalize grow (redrawn w1 dq) osq = w2 at *
    have k1 := blkDown K1.out hbq
    have k2 := blkDown K2.out hbq
    have hbw2 := bThen hb0 hbq
    clear hbq K1 K2
    obtain ⟨p0, p1, p2, p3, p4, p5⟩ := cells6 (w1 := w2) (fun _ _ _ => rfl) k1
    obtain ⟨q0, q1, q2, q3, q4, q5⟩ := cells6 (w1 := w2) (fun _ _ _ => rfl) k2
    have hP := HP.out
    go_wp2_with fail
    clear p0 p1 p2 p3 p4 p5 q0 q1 q2 q3 q4 q5 hP
    have K1 := Lib.hid k1
    have K2 := Lib.hid k2
    have HB2 := Lib.hid hbw2
    clear k1 k2 hbw2
    go_loopw [8] (fun t wr => (t = .int .i64 (N + 1) ∨ t = .int .i64 N) ∧ Hid (Blk wr w.heap.size 28 [.int .i64 y, .int .i64 m, .int .i64 d, .int .i64 h, .int .i64 mi, .int .i64 s]) ∧ Hid (Blk wr (w.heap.size + 1) 28 [.int .i64 y', .int .i64 m', .int .i64 d', .int .i64 h', .int .i64 mi', .int .i64 s']) ∧ Hid (Below w.heap.size w wr)) (fun t _ => (intOf t - N).toNat)
    case atStart => exact ⟨.inl rfl, K1, K2, HB2⟩
    case round =>
      obtain ⟨rfl | rfl, K1', K2', HB⟩ := hrel
      · have k1 := K1'.out
        have k2 := K2'.out
        have hb := HB.out
        go_wp2_with fail
        have K1 := Lib.hid k1
        have K2 := Lib.hid k2
        obtain ⟨p0, p1, p2, p3, p4, p5⟩ := cells6 (w1 := wr) (fun _ _ _ => rfl) k1
        obtain ⟨q0, q1, q2, q3, q4, q5⟩ := cells6 (w1 := wr) (fun _ _ _ => rfl) k2
        clear k1 k2
        have r0 := cell_regrown p0
        have r1 := cell_regrown p1
        have r2 := cell_regrown p2
        have r3 := cell_regrown p3
        have r4 := cell_regrown p4
        have r5 := cell_regrown p5
        have s0 := cell_regrown q0
        have s1 := cell_regrown q1
        have s2 := cell_regrown q2
        have s3 := cell_regrown q3
        have s4 := cell_regrown q4
        have s5 := cell_regrown q5
        clear p0 p1 p2 p3 p4 p5 q0 q1 q2 q3 q4 q5
        refine wp_region_quiet_below (by kernel_rfl) (by kernel_rfl) ?_
        repeat (quiet_step (first | ((go_at_call 77; (with_reducible exact Calls.regrown_of (C75.out _))))| ((go_at_call 79; (with_reducible exact Calls.regrown_of (C38l.out _))))| ((go_at_call 79; (with_reducible exact Calls.regrown_of (C38'.out _))))))
        refine wpQuiet_nil ?_
        intro _ hw'
        obtain ⟨⟨dq, osq⟩, hw''⟩ := hw'
        subst hw''
        clear r0 r1 r2 r3 r4 r5 s0 s1 s2 s3 s4 s5
        have hbq := below_regrown wr dq osq
        generalize grow (redrawn wr dq) osq = w3 at *
        have k1 := blkDown K1.out hbq
        have k2 := blkDown K2.out hbq
        have hbw3 := bThen hb hbq
        clear hbq K1 K2
        go_wp2_with fail
        go_roundw
        case rel => exact ⟨.inr (by go_num), k1, k2, hbw3⟩
        case measure => simp [intOf] <;> omega
      · have k1 := K1'.out
        have k2 := K2'.out
        have hb := HB.out
        go_wp2_with fail
        have K1 := Lib.hid k1
        have K2 := Lib.hid k2
        obtain ⟨p0, p1, p2, p3, p4, p5⟩ := cells6 (w1 := wr) (fun _ _ _ => rfl) k1
        obtain ⟨q0, q1, q2, q3, q4, q5⟩ := cells6 (w1 := wr) (fun _ _ _ => rfl) k2
        clear k1 k2
        have r0 := cell_regrown p0
        have r1 := cell_regrown p1
        have r2 := cell_regrown p2
        have r3 := cell_regrown p3
        have r4 := cell_regrown p4
        have r5 := cell_regrown p5
        have s0 := cell_regrown q0
        have s1 := cell_regrown q1
        have s2 := cell_regrown q2
        have s3 := cell_regrown q3
        have s4 := cell_regrown q4
        have s5 := cell_regrown q5
        clear p0 p1 p2 p3 p4 p5 q0 q1 q2 q3 q4 q5
        refine wp_region_quiet_below (by kernel_rfl) (by kernel_rfl) ?_
        repeat (quiet_step (first | ((go_at_call 77; (with_reducible exact Calls.regrown_of (C75n.out _))))| ((go_at_call 79; (with_reducible exact Calls.regrown_of (C38n.out _))))| ((go_at_call 79; (with_reducible exact Calls.regrown_of (C38'.out _))))))
        refine wpQuiet_nil ?_
        intro _ hw'
        obtain ⟨⟨dq, osq⟩, hw''⟩ := hw'
        subst hw''
        clear r0 r1 r2 r3 r4 r5 s0 s1 s2 s3 s4 s5
        have hbq := below_regrown wr dq osq
        generalize grow (redrawn wr dq) osq = w3 at *
        have k1 := blkDown K1.out hbq
        have k2 := blkDown K2.out hbq
        have hbw3 := bThen hb hbq
        clear hbq K1 K2
        go_wp2_with fail
        have hP := HP.out
        clear hP
        have v1 : IntKind.i64.wrap (B - L) = B - L := IntWalk.i64_in _ (by omega)
        have v2 : N.tdiv 12 = N / 12 := Int.tdiv_eq_ediv_of_nonneg (by omega)
        have v3 : N.tmod 12 = N % 12 := Int.tmod_eq_emod_of_nonneg (by omega)
        have v4 : (B - L).tdiv 86400 = (B - L) / 86400 := Int.tdiv_eq_ediv_of_nonneg (by omega)
        have v5 : IntKind.i64.wrap (N / 12) = N / 12 := IntWalk.i64_in _ (by omega)
        have v6 : IntKind.i64.wrap (N % 12) = N % 12 := IntWalk.i64_in _ (by omega)
        have v7 : IntKind.i64.wrap ((B - L) / 86400) = (B - L) / 86400 := IntWalk.i64_in _ (by omega)
        have K1 := Lib.hid k1
        have K2 := Lib.hid k2
        obtain ⟨p0, p1, p2, p3, p4, p5⟩ := cells6 (w1 := w3) (fun _ _ _ => rfl) k1
        obtain ⟨q0, q1, q2, q3, q4, q5⟩ := cells6 (w1 := w3) (fun _ _ _ => rfl) k2
        clear k1 k2
        have r0 := cell_regrown p0
        have r1 := cell_regrown p1
        have r2 := cell_regrown p2
        have r3 := cell_regrown p3
        have r4 := cell_regrown p4
        have r5 := cell_regrown p5
        have s0 := cell_regrown q0
        have s1 := cell_regrown q1
        have s2 := cell_regrown q2
        have s3 := cell_regrown q3
        have s4 := cell_regrown q4
        have s5 := cell_regrown q5
        clear p0 p1 p2 p3 p4 p5 q0 q1 q2 q3 q4 q5
        refine wp_region_quiet_below (by kernel_rfl) (by kernel_rfl) ?_
        repeat (quiet_step (first | ((go_at_call 77; (with_reducible exact Calls.regrown_of (C75n.out _))))| ((go_at_call 79; (with_reducible exact Calls.regrown_of (C38n.out _))))| ((go_at_call 79; (with_reducible exact Calls.regrown_of (C38'.out _))))))
        refine wpQuiet_nil ?_
        intro _ hw'
        obtain ⟨⟨dq, osq⟩, hw''⟩ := hw'
        subst hw''
        clear r0 r1 r2 r3 r4 r5 s0 s1 s2 s3 s4 s5
        have hbq := below_regrown w3 dq osq
        generalize grow (redrawn w3 dq) osq = w4 at *
        have k1 := blkDown K1.out hbq
        have k2 := blkDown K2.out hbq
        have hbw4 := bThen hbw3 hbq
        clear hbq K1 K2
        clear v1 v2 v3 v4 v5 v6 v7
        go_wp2
        refine bodyPost_ret (results_tmp4 rfl _ _ _) rfl ?_
        exact ⟨rfl, hbw4⟩
theorem t49 (a b : Dt) (w : World) : Calls Try.prog 49 #[a.v, b.v] w fun e w' => e = .returned (beN a b).v ∧ Below w.heap.size w w' := by
  by_cases h : a.ok = true ∧ b.ok = true ∧ a.sec ≤ b.sec
  · exact t49_ok a b w h.1 h.2.1 h.2.2
  · exact t49_bad a b w h
theorem t48 (a b : Dt) (w : World) : Calls Try.prog 48 #[a.v, b.v] w fun e w' => e = .returned (beN a b).v ∧ Below w.heap.size w w' := by
  by_cases h : a.ok = true ∧ b.ok = true ∧ a.sec ≤ b.sec
  · exact t48_ok a b w h.1 h.2.1 h.2.2
  · exact t48_bad a b w h
end Go.Proofs.Ytojkkgmfccchbaa
