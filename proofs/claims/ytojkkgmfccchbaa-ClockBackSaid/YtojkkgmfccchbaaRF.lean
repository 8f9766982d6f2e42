/- The reference: Moment, Of, Leap, Days, AddMonths, AddDays. -/
import Derived.Test.YtojkkgmfccchbaaRE
namespace Go.Proofs.Ytojkkgmfccchbaa
open Go Go.RowKit Go.Sort

theorem t35_m {n : Int} {b : Bool} (h : isMo n = b) (W : World) : Calls Try.prog 35 #[.int .i64 n, .int .i64 (-100000000000), .int .i64 100000000000] W fun e w' => e = .returned (.bool b) ∧ W = w' := t35_b h W
theorem t50 (x : Dt) (w : World) : Calls Try.prog 50 #[x.v] w fun e w' => e = .returned (EV (.int .i64 (momN x).1) (momN x).2) ∧ Below w.heap.size w w' := by
  by_cases hv : x.ok = true
  · have C37 := Lib.hid (t76_b hv)
    have C38 := Lib.hid (t79_b hv)
    have hs := ok_sec hv
    by_cases hm : isMo x.sec = true
    · have e : momN x = (x.sec, 0) := by unfold momN; rw [if_pos hv, if_pos hm]
      have C33 := Lib.hid (t35_m hm)
      rw [e]
      clear e hv hm
      generalize x.sec = N at *
      obtain ⟨y, m, d, h, mi, s⟩ := x
      go_enter Try.func50, Try.ntmps50
      go_wp2_with fail
      refine (C37.out _).mono ?_
      rintro e w1 ⟨rfl, hb1⟩
      obtain ⟨hc1, hf1⟩ := bcell hb1
      have hB1 := (bSelf _ _).trans (hb1.mono (by simp <;> omega))
      have hz1 : w.heap.size + 0 < w1.heap.size := by have := hb1.size; simp at this; omega
      go_wp2_with fail
      refine (C38.out _).mono ?_
      rintro e w2 ⟨rfl, hb2⟩
      obtain ⟨hc2, hf2⟩ := bcell hb2
      have hB2 := bThen hB1 hb2
      have hz2 : w.heap.size + 0 < w2.heap.size := by have := hb2.size; omega
      go_wp2_with (go_at_call 35; (with_reducible refine (C33.out _).mono ?_); rintro e w' ⟨rfl, rfl⟩)
      go_ret2
      exact ⟨rfl, hB2⟩
    · have e : momN x = (0, 5) := by unfold momN; rw [if_pos hv, if_neg hm]
      have C33 := Lib.hid (t35_m (eq_false_of_ne_true hm))
      rw [e]
      clear e hv hm
      generalize x.sec = N at *
      obtain ⟨y, m, d, h, mi, s⟩ := x
      go_enter Try.func50, Try.ntmps50
      go_wp2_with fail
      refine (C37.out _).mono ?_
      rintro e w1 ⟨rfl, hb1⟩
      obtain ⟨hc1, hf1⟩ := bcell hb1
      have hB1 := (bSelf _ _).trans (hb1.mono (by simp <;> omega))
      have hz1 : w.heap.size + 0 < w1.heap.size := by have := hb1.size; simp at this; omega
      go_wp2_with fail
      refine (C38.out _).mono ?_
      rintro e w2 ⟨rfl, hb2⟩
      obtain ⟨hc2, hf2⟩ := bcell hb2
      have hB2 := bThen hB1 hb2
      have hz2 : w.heap.size + 0 < w2.heap.size := by have := hb2.size; omega
      go_wp2_with (go_at_call 35; (with_reducible refine (C33.out _).mono ?_); rintro e w' ⟨rfl, rfl⟩)
      go_ret2
      exact ⟨rfl, hB2⟩
  · have e : momN x = (0, 1) := by unfold momN; rw [if_neg hv]
    have C37 := Lib.hid (t76_b (eq_false_of_ne_true hv))
    rw [e]
    clear e hv
    obtain ⟨y, m, d, h, mi, s⟩ := x
    go_enter Try.func50, Try.ntmps50
    go_wp2_with fail
    refine (C37.out _).mono ?_
    rintro e w1 ⟨rfl, hb1⟩
    obtain ⟨hc1, hf1⟩ := bcell hb1
    have hB1 := (bSelf _ _).trans (hb1.mono (by simp <;> omega))
    have hz1 : w.heap.size + 0 < w1.heap.size := by have := hb1.size; simp at this; omega
    go_wp2
    go_ret2
    exact ⟨rfl, hB1⟩
theorem t11 (n : Int) (w : World) : Calls Try.prog 11 #[.int .i64 n] w fun e w' => e = .returned (EV (ofN n).1.v (ofN n).2) ∧ Below w.heap.size w w' := by
  by_cases hm : isMo n = true
  · have e : ofN n = (at_ n, 0) := by unfold ofN; rw [if_pos hm]
    have C33 := Lib.hid (t35_m hm)
    have hi := inB_iff.1 hm
    have C34 := Lib.hid (fun W => t36_b (n := n) (by omega) (by omega) W)
    rw [e]
    clear e hm hi
    generalize at_ n = X at C34 ⊢
    obtain ⟨y, m, d, h, mi, s⟩ := X
    go_enter Try.func11, Try.ntmps11
    go_wp2_with (go_at_call 35; (with_reducible refine (C33.out _).mono ?_); rintro e w' ⟨rfl, rfl⟩)
    refine (C34.out _).mono ?_
    rintro e w1 ⟨rfl, hb1⟩
    obtain ⟨hc1, hf1⟩ := bcell hb1
    have hB1 := (bSelf _ _).trans (hb1.mono (by simp))
    have hz1 : w.heap.size < w1.heap.size := by have := hb1.size; simp at this; omega
    go_wp2
    refine bodyPost_ret ?r rfl ⟨rfl, ?b⟩
    case r => simp [results, Try.results11, go_sem, hc1]
    case b =>
      repeat' (first | with_reducible exact hB1 | with_reducible refine bSet ?_ _ _ (Nat.le_refl _) _)
  · have e : ofN n = (Dt.zero, 5) := by unfold ofN; rw [if_neg hm]
    have C33 := Lib.hid (t35_m (eq_false_of_ne_true hm))
    rw [e]
    clear e hm
    go_enter Try.func11, Try.ntmps11
    go_wp2_with (go_at_call 35; (with_reducible refine (C33.out _).mono ?_); rintro e w' ⟨rfl, rfl⟩)
    refine bodyPost_ret ?r rfl ⟨rfl, ?b⟩
    case r => simp [results, Try.results11, go_sem, Dt.zero]
    case b => exact bSelf _ _
theorem t15 (y : Int) (w : World) : Calls Try.prog 15 #[.int .i64 y] w fun e w' => e = .returned (EV (.bool (lpN y).1) (lpN y).2) ∧ w = w' := by
  by_cases h : inB y (-2000) 6000 = true
  · have e : lpN y = (lpB y, 0) := by unfold lpN; rw [if_pos h]
    have C39 := Lib.hid (t35_b h)
    rw [e]
    clear e h
    go_enter Try.func15, Try.ntmps15
    go_wp2_with (first | (go_at_call 35; (with_reducible refine (C39.out _).mono ?_); rintro e w' ⟨rfl, rfl⟩) | (go_at_call 41; refine (t41 _ _).mono ?_; rintro e w' ⟨rfl, rfl⟩))
    go_ret2
    exact ⟨rfl, rfl⟩
  · have e : lpN y = (false, 1) := by unfold lpN; rw [if_neg h]
    have C39 := Lib.hid (t35_b (eq_false_of_ne_true h))
    rw [e]
    clear e h
    go_enter Try.func15, Try.ntmps15
    go_wp2_with (go_at_call 35; (with_reducible refine (C39.out _).mono ?_); rintro e w' ⟨rfl, rfl⟩)
    go_ret2
    exact ⟨rfl, rfl⟩
theorem t17 (y m : Int) (w : World) : Calls Try.prog 17 #[.int .i64 y, .int .i64 m] w fun e w' => e = .returned (EV (.int .i64 (dsN y m).1) (dsN y m).2) ∧ Below w.heap.size w w' := by
  by_cases hy : inB y (-2000) 6000 = true
  · have CY := Lib.hid (t35_b hy)
    by_cases hm : inB m 1 12 = true
    · have e : dsN y m = (dim y m, 0) := by unfold dsN; rw [if_pos ⟨hy, hm⟩]
      have CM := Lib.hid (t35_b hm)
      have hi := inB_iff.1 hm
      have C44 := Lib.hid (fun W => t44 y m W hi.1 hi.2)
      rw [e]
      clear e hy hm hi
      go_enter Try.func17, Try.ntmps17
      go_wp2_with (go_at_call 35; first | ((with_reducible refine (CY.out _).mono ?_); rintro e w' ⟨rfl, rfl⟩) | ((with_reducible refine (CM.out _).mono ?_); rintro e w' ⟨rfl, rfl⟩))
      refine (C44.out _).mono ?_
      rintro e w1 ⟨rfl, hb1⟩
      go_wp2
      go_ret2
      exact ⟨rfl, hb1⟩
    · have e : dsN y m = (0, 1) := by unfold dsN; rw [if_neg (fun h => hm h.2)]
      have CM := Lib.hid (t35_b (eq_false_of_ne_true hm))
      rw [e]
      clear e hy hm
      go_enter Try.func17, Try.ntmps17
      go_wp2_with (go_at_call 35; first | ((with_reducible refine (CY.out _).mono ?_); rintro e w' ⟨rfl, rfl⟩) | ((with_reducible refine (CM.out _).mono ?_); rintro e w' ⟨rfl, rfl⟩))
      go_ret2
      exact ⟨rfl, Below.refl _ _⟩
  · have e : dsN y m = (0, 1) := by unfold dsN; rw [if_neg (fun h => hy h.1)]
    have CY := Lib.hid (t35_b (eq_false_of_ne_true hy))
    rw [e]
    clear e hy
    go_enter Try.func17, Try.ntmps17
    go_wp2_with (go_at_call 35; (with_reducible refine (CY.out _).mono ?_); rintro e w' ⟨rfl, rfl⟩)
    go_ret2
    exact ⟨rfl, Below.refl _ _⟩
theorem lat_ok_eq {x : Dt} (h : x.ok = true) (n : Int) : (lat_ x n).ok = inB (lat_ x n).y (-2000) 6000 := by
  cases hy : inB (lat_ x n).y (-2000) 6000
  · cases ho : (lat_ x n).ok
    · rfl
    · have := (ok_facts ho).1
      rw [inB_t this.1 this.2] at hy
      cases hy
  · exact lat_okk h hy
theorem at_ok_eq (n : Int) : (at_ n).ok = inB (at_ n).y (-2000) 6000 := by
  cases hy : inB (at_ n).y (-2000) 6000
  · cases ho : (at_ n).ok
    · rfl
    · have := (ok_facts ho).1
      rw [inB_t this.1 this.2] at hy
      cases hy
  · exact at_ok n hy
theorem at_add {x : Dt} (h : x.ok = true) (n : Int) : at_ (x.sec + n * 86400) = ⟨yr (x.num + n), moN (x.num + n), dyN (x.num + n), x.h, x.mi, x.s⟩ := by
  have f := ok_facts h
  have e1 : dayOf (x.sec + n * 86400) = x.num + n := by rw [sec_num]; unfold dayOf; omega
  have e2 : hOf (x.sec + n * 86400) = x.h := by rw [sec_num]; unfold hOf; omega
  have e3 : miOf (x.sec + n * 86400) = x.mi := by rw [sec_num]; unfold miOf; omega
  have e4 : sOf (x.sec + n * 86400) = x.s := by rw [sec_num]; unfold sOf; omega
  unfold at_
  rw [e1, e2, e3, e4]
set_option maxHeartbeats 2000000 in
theorem t46 (x : Dt) (n : Int) (w : World) : Calls Try.prog 46 #[x.v, .int .i64 n] w fun e w' => e = .returned (EV (amN x n).1.v (amN x n).2) ∧ Below w.heap.size w w' := by
  by_cases hv : x.ok = true
  · have C76 := Lib.hid (t76_b hv)
    by_cases hn : inB n (-120000) 120000 = true
    · have C66 := Lib.hid (t35_b hn)
      have hi := inB_iff.1 hn
      have C77 := Lib.hid (t77_b (n := n) hv (by omega) (by omega))
      have e : amN x n = inY (lat_ x n) := by unfold amN; rw [if_pos ⟨hv, hn⟩]
      rw [e]
      clear e
      by_cases hy : inB (lat_ x n).y (-2000) 6000 = true
      · have e : inY (lat_ x n) = ((lat_ x n), 0) := by unfold inY; rw [if_pos hy]
        have C76l := Lib.hid (t76_b ((lat_ok_eq hv n).trans hy))
        rw [e]
        clear e hy hv hn
        generalize lat_ x n = X at *
        obtain ⟨y', m', d', h', mi', s'⟩ := X
        obtain ⟨y, m, d, h, mi, s⟩ := x
        try dsimp only at *
        go_enter Try.func46, Try.ntmps46
        go_wp2_with fail
        have hb0 : Below w.heap.size w ((w.alloc (.cells #[.int .i64 y, .int .i64 m, .int .i64 d, .int .i64 h, .int .i64 mi, .int .i64 s] 28)).alloc (.cells #[.int .i64 0, .int .i64 0, .int .i64 0, .int .i64 0, .int .i64 0, .int .i64 0] 28)) := (bSelf w _).alloc (by simp) _
        have K1 : Hid (Blk ((w.alloc (.cells #[.int .i64 y, .int .i64 m, .int .i64 d, .int .i64 h, .int .i64 mi, .int .i64 s] 28)).alloc (.cells #[.int .i64 0, .int .i64 0, .int .i64 0, .int .i64 0, .int .i64 0, .int .i64 0] 28)) w.heap.size 28 (c6 y m d h mi s)) := (Blk.new w _ _).alloc _
        have K2 : Hid (Blk ((w.alloc (.cells #[.int .i64 y, .int .i64 m, .int .i64 d, .int .i64 h, .int .i64 mi, .int .i64 s] 28)).alloc (.cells #[.int .i64 0, .int .i64 0, .int .i64 0, .int .i64 0, .int .i64 0, .int .i64 0] 28)) (w.heap.size + 1) 28 (c6 0 0 0 0 0 0)) := newAt _ _ _ _ _ (by simp) rfl
        generalize (w.alloc (.cells #[.int .i64 y, .int .i64 m, .int .i64 d, .int .i64 h, .int .i64 mi, .int .i64 s] 28)).alloc (.cells #[.int .i64 0, .int .i64 0, .int .i64 0, .int .i64 0, .int .i64 0, .int .i64 0] 28) = W at *
        refine (C76.out _).mono ?_
        rintro e w1 ⟨rfl, hb1⟩
        have hB1 := bThen hb0 hb1
        have k1 := K1.out.below hb1 K1.out.lt
        have k2 := K2.out.below hb1 K2.out.lt
        obtain ⟨e0, e1, e2, e3, e4, e5⟩ := cells6 (w1 := w1) (fun _ _ _ => rfl) k1
        obtain ⟨z0, z1, z2, z3, z4, z5⟩ := cells6 (w1 := w1) (fun _ _ _ => rfl) k2
        have g0 := k2.free 0
        have g1 := k2.free 1
        have g2 := k2.free 2
        have g3 := k2.free 3
        have g4 := k2.free 4
        have g5 := k2.free 5
        have l1 := k1.lt
        have l2 := k2.lt
        go_wp2_with (go_at_call 35; (with_reducible refine (C66.out _).mono ?_); rintro e w' ⟨rfl, rfl⟩)
        refine (C77.out _).mono ?_
        rintro e w2 ⟨rfl, hb2⟩
        have hB2 := bThen hB1 hb2
        have hW2 := bThen hb1 hb2
        clear e0 e1 e2 e3 e4 e5 z0 z1 z2 z3 z4 z5 g0 g1 g2 g3 g4 g5 k1 k2 l1 l2
        go_wp2_with fail
        have kx := Blk.new w2 #[.int .i64 y', .int .i64 m', .int .i64 d', .int .i64 h', .int .i64 mi', .int .i64 s'] 28
        refine (C76l.out _).mono ?_
        rintro e w3 ⟨rfl, hb3⟩
        have hb3' := (bSelf w2 _).trans (hb3.mono (by simp))
        have hB3 := bThen hB2 hb3'
        have hW3 := bThen hW2 hb3'
        have kx := kx.below hb3 kx.lt
        obtain ⟨x0, x1, x2, x3, x4, x5⟩ := cells6 (w1 := w3) (fun _ _ _ => rfl) kx
        clear kx hb3 hb3'
        have k1 := K1.out.below hW3 K1.out.lt
        have k2 := K2.out.below hW3 K2.out.lt
        obtain ⟨e0, e1, e2, e3, e4, e5⟩ := cells6 (w1 := w3) (fun _ _ _ => rfl) k1
        obtain ⟨z0, z1, z2, z3, z4, z5⟩ := cells6 (w1 := w3) (fun _ _ _ => rfl) k2
        have g0 := k2.free 0
        have g1 := k2.free 1
        have g2 := k2.free 2
        have g3 := k2.free 3
        have g4 := k2.free 4
        have g5 := k2.free 5
        have l1 := k1.lt
        have l2 := k2.lt
        go_wp2
        refine bodyPost_ret ?r rfl ⟨rfl, ?b⟩
        case r => simp [results, Try.results46, go_sem, z0, z1, z2, z3, z4, z5]
        case b =>
          repeat' (first | with_reducible exact hB3 | with_reducible refine bSet ?_ _ _ (by omega) _)
      · have e : inY (lat_ x n) = (Dt.zero, 5) := by unfold inY; rw [if_neg hy]
        have C76l := Lib.hid (t76_b ((lat_ok_eq hv n).trans (eq_false_of_ne_true hy)))
        rw [e]
        clear e hy hv hn
        generalize lat_ x n = X at *
        obtain ⟨y', m', d', h', mi', s'⟩ := X
        obtain ⟨y, m, d, h, mi, s⟩ := x
        try dsimp only at *
        go_enter Try.func46, Try.ntmps46
        go_wp2_with fail
        have hb0 : Below w.heap.size w ((w.alloc (.cells #[.int .i64 y, .int .i64 m, .int .i64 d, .int .i64 h, .int .i64 mi, .int .i64 s] 28)).alloc (.cells #[.int .i64 0, .int .i64 0, .int .i64 0, .int .i64 0, .int .i64 0, .int .i64 0] 28)) := (bSelf w _).alloc (by simp) _
        have K1 : Hid (Blk ((w.alloc (.cells #[.int .i64 y, .int .i64 m, .int .i64 d, .int .i64 h, .int .i64 mi, .int .i64 s] 28)).alloc (.cells #[.int .i64 0, .int .i64 0, .int .i64 0, .int .i64 0, .int .i64 0, .int .i64 0] 28)) w.heap.size 28 (c6 y m d h mi s)) := (Blk.new w _ _).alloc _
        have K2 : Hid (Blk ((w.alloc (.cells #[.int .i64 y, .int .i64 m, .int .i64 d, .int .i64 h, .int .i64 mi, .int .i64 s] 28)).alloc (.cells #[.int .i64 0, .int .i64 0, .int .i64 0, .int .i64 0, .int .i64 0, .int .i64 0] 28)) (w.heap.size + 1) 28 (c6 0 0 0 0 0 0)) := newAt _ _ _ _ _ (by simp) rfl
        generalize (w.alloc (.cells #[.int .i64 y, .int .i64 m, .int .i64 d, .int .i64 h, .int .i64 mi, .int .i64 s] 28)).alloc (.cells #[.int .i64 0, .int .i64 0, .int .i64 0, .int .i64 0, .int .i64 0, .int .i64 0] 28) = W at *
        refine (C76.out _).mono ?_
        rintro e w1 ⟨rfl, hb1⟩
        have hB1 := bThen hb0 hb1
        have k1 := K1.out.below hb1 K1.out.lt
        have k2 := K2.out.below hb1 K2.out.lt
        obtain ⟨e0, e1, e2, e3, e4, e5⟩ := cells6 (w1 := w1) (fun _ _ _ => rfl) k1
        obtain ⟨z0, z1, z2, z3, z4, z5⟩ := cells6 (w1 := w1) (fun _ _ _ => rfl) k2
        have g0 := k2.free 0
        have g1 := k2.free 1
        have g2 := k2.free 2
        have g3 := k2.free 3
        have g4 := k2.free 4
        have g5 := k2.free 5
        have l1 := k1.lt
        have l2 := k2.lt
        go_wp2_with (go_at_call 35; (with_reducible refine (C66.out _).mono ?_); rintro e w' ⟨rfl, rfl⟩)
        refine (C77.out _).mono ?_
        rintro e w2 ⟨rfl, hb2⟩
        have hB2 := bThen hB1 hb2
        have hW2 := bThen hb1 hb2
        clear e0 e1 e2 e3 e4 e5 z0 z1 z2 z3 z4 z5 g0 g1 g2 g3 g4 g5 k1 k2 l1 l2
        go_wp2_with fail
        have kx := Blk.new w2 #[.int .i64 y', .int .i64 m', .int .i64 d', .int .i64 h', .int .i64 mi', .int .i64 s'] 28
        refine (C76l.out _).mono ?_
        rintro e w3 ⟨rfl, hb3⟩
        have hb3' := (bSelf w2 _).trans (hb3.mono (by simp))
        have hB3 := bThen hB2 hb3'
        have hW3 := bThen hW2 hb3'
        have kx := kx.below hb3 kx.lt
        obtain ⟨x0, x1, x2, x3, x4, x5⟩ := cells6 (w1 := w3) (fun _ _ _ => rfl) kx
        clear kx hb3 hb3'
        have k1 := K1.out.below hW3 K1.out.lt
        have k2 := K2.out.below hW3 K2.out.lt
        obtain ⟨e0, e1, e2, e3, e4, e5⟩ := cells6 (w1 := w3) (fun _ _ _ => rfl) k1
        obtain ⟨z0, z1, z2, z3, z4, z5⟩ := cells6 (w1 := w3) (fun _ _ _ => rfl) k2
        have g0 := k2.free 0
        have g1 := k2.free 1
        have g2 := k2.free 2
        have g3 := k2.free 3
        have g4 := k2.free 4
        have g5 := k2.free 5
        have l1 := k1.lt
        have l2 := k2.lt
        go_wp2
        refine bodyPost_ret ?r rfl ⟨rfl, ?b⟩
        case r => simp [results, Try.results46, go_sem, Dt.zero, z0, z1, z2, z3, z4, z5]
        case b =>
          repeat' (first | with_reducible exact hB3 | with_reducible refine bSet ?_ _ _ (by omega) _)
    · have e : amN x n = (Dt.zero, 1) := by unfold amN; rw [if_neg (fun h => hn h.2)]
      have C66 := Lib.hid (t35_b (eq_false_of_ne_true hn))
      rw [e]
      clear e hv hn
      obtain ⟨y, m, d, h, mi, s⟩ := x
      try dsimp only at *
      go_enter Try.func46, Try.ntmps46
      go_wp2_with fail
      have hb0 : Below w.heap.size w ((w.alloc (.cells #[.int .i64 y, .int .i64 m, .int .i64 d, .int .i64 h, .int .i64 mi, .int .i64 s] 28)).alloc (.cells #[.int .i64 0, .int .i64 0, .int .i64 0, .int .i64 0, .int .i64 0, .int .i64 0] 28)) := (bSelf w _).alloc (by simp) _
      have K1 : Hid (Blk ((w.alloc (.cells #[.int .i64 y, .int .i64 m, .int .i64 d, .int .i64 h, .int .i64 mi, .int .i64 s] 28)).alloc (.cells #[.int .i64 0, .int .i64 0, .int .i64 0, .int .i64 0, .int .i64 0, .int .i64 0] 28)) w.heap.size 28 (c6 y m d h mi s)) := (Blk.new w _ _).alloc _
      have K2 : Hid (Blk ((w.alloc (.cells #[.int .i64 y, .int .i64 m, .int .i64 d, .int .i64 h, .int .i64 mi, .int .i64 s] 28)).alloc (.cells #[.int .i64 0, .int .i64 0, .int .i64 0, .int .i64 0, .int .i64 0, .int .i64 0] 28)) (w.heap.size + 1) 28 (c6 0 0 0 0 0 0)) := newAt _ _ _ _ _ (by simp) rfl
      generalize (w.alloc (.cells #[.int .i64 y, .int .i64 m, .int .i64 d, .int .i64 h, .int .i64 mi, .int .i64 s] 28)).alloc (.cells #[.int .i64 0, .int .i64 0, .int .i64 0, .int .i64 0, .int .i64 0, .int .i64 0] 28) = W at *
      refine (C76.out _).mono ?_
      rintro e w1 ⟨rfl, hb1⟩
      have hB1 := bThen hb0 hb1
      have k1 := K1.out.below hb1 K1.out.lt
      have k2 := K2.out.below hb1 K2.out.lt
      obtain ⟨e0, e1, e2, e3, e4, e5⟩ := cells6 (w1 := w1) (fun _ _ _ => rfl) k1
      obtain ⟨z0, z1, z2, z3, z4, z5⟩ := cells6 (w1 := w1) (fun _ _ _ => rfl) k2
      have g0 := k2.free 0
      have g1 := k2.free 1
      have g2 := k2.free 2
      have g3 := k2.free 3
      have g4 := k2.free 4
      have g5 := k2.free 5
      have l1 := k1.lt
      have l2 := k2.lt
      go_wp2_with (go_at_call 35; (with_reducible refine (C66.out _).mono ?_); rintro e w' ⟨rfl, rfl⟩)
      refine bodyPost_ret ?r rfl ⟨rfl, ?b⟩
      case r => simp [results, Try.results46, go_sem, Dt.zero, z0, z1, z2, z3, z4, z5]
      case b =>
        repeat' (first | with_reducible exact hB1 | with_reducible refine bSet ?_ _ _ (by omega) _)
  · have e : amN x n = (Dt.zero, 1) := by unfold amN; rw [if_neg (fun h => hv h.1)]
    have C76 := Lib.hid (t76_b (eq_false_of_ne_true hv))
    rw [e]
    clear e hv
    obtain ⟨y, m, d, h, mi, s⟩ := x
    try dsimp only at *
    go_enter Try.func46, Try.ntmps46
    go_wp2_with fail
    have hb0 : Below w.heap.size w ((w.alloc (.cells #[.int .i64 y, .int .i64 m, .int .i64 d, .int .i64 h, .int .i64 mi, .int .i64 s] 28)).alloc (.cells #[.int .i64 0, .int .i64 0, .int .i64 0, .int .i64 0, .int .i64 0, .int .i64 0] 28)) := (bSelf w _).alloc (by simp) _
    have K1 : Hid (Blk ((w.alloc (.cells #[.int .i64 y, .int .i64 m, .int .i64 d, .int .i64 h, .int .i64 mi, .int .i64 s] 28)).alloc (.cells #[.int .i64 0, .int .i64 0, .int .i64 0, .int .i64 0, .int .i64 0, .int .i64 0] 28)) w.heap.size 28 (c6 y m d h mi s)) := (Blk.new w _ _).alloc _
    have K2 : Hid (Blk ((w.alloc (.cells #[.int .i64 y, .int .i64 m, .int .i64 d, .int .i64 h, .int .i64 mi, .int .i64 s] 28)).alloc (.cells #[.int .i64 0, .int .i64 0, .int .i64 0, .int .i64 0, .int .i64 0, .int .i64 0] 28)) (w.heap.size + 1) 28 (c6 0 0 0 0 0 0)) := newAt _ _ _ _ _ (by simp) rfl
    generalize (w.alloc (.cells #[.int .i64 y, .int .i64 m, .int .i64 d, .int .i64 h, .int .i64 mi, .int .i64 s] 28)).alloc (.cells #[.int .i64 0, .int .i64 0, .int .i64 0, .int .i64 0, .int .i64 0, .int .i64 0] 28) = W at *
    refine (C76.out _).mono ?_
    rintro e w1 ⟨rfl, hb1⟩
    have hB1 := bThen hb0 hb1
    have k1 := K1.out.below hb1 K1.out.lt
    have k2 := K2.out.below hb1 K2.out.lt
    obtain ⟨e0, e1, e2, e3, e4, e5⟩ := cells6 (w1 := w1) (fun _ _ _ => rfl) k1
    obtain ⟨z0, z1, z2, z3, z4, z5⟩ := cells6 (w1 := w1) (fun _ _ _ => rfl) k2
    have g0 := k2.free 0
    have g1 := k2.free 1
    have g2 := k2.free 2
    have g3 := k2.free 3
    have g4 := k2.free 4
    have g5 := k2.free 5
    have l1 := k1.lt
    have l2 := k2.lt
    go_wp2
    refine bodyPost_ret ?r rfl ⟨rfl, ?b⟩
    case r => simp [results, Try.results46, go_sem, Dt.zero, z0, z1, z2, z3, z4, z5]
    case b =>
      repeat' (first | with_reducible exact hB1 | with_reducible refine bSet ?_ _ _ (by omega) _)
theorem t73_b {n : Int} (h1 : -30000000 ≤ n - 719528) (h2 : n - 719528 ≤ 30000000) (W : World) : Calls Try.prog 73 #[.int .i64 (n - 719528)] W fun e w' => e = .returned (DV (yr n) (moN n) (dyN n) 0 0 0) ∧ Below W.heap.size W w' := by
  have := t73 (n - 719528) W h1 h2
  rw [show n - 719528 + 719528 = n by omega] at this
  exact this
set_option maxHeartbeats 2000000 in
theorem t47 (x : Dt) (n : Int) (w : World) : Calls Try.prog 47 #[x.v, .int .i64 n] w fun e w' => e = .returned (EV (adN x n).1.v (adN x n).2) ∧ Below w.heap.size w w' := by
  by_cases hv : x.ok = true
  · have C76 := Lib.hid (t76_b hv)
    by_cases hn : inB n (-10000000) 10000000 = true
    · have C66 := Lib.hid (t35_b hn)
      have hi := inB_iff.1 hn
      have hnn := ok_num hv
      have C78 := Lib.hid (t78_b hv)
      have C73 := Lib.hid (t73_b (n := x.num + n) (by omega) (by omega))
      have v1 : Hid (x.num - 719528 + n = x.num + n - 719528) := by show _ = _; omega
      have e : adN x n = inY (at_ (x.sec + n * 86400)) := by unfold adN; rw [if_pos ⟨hv, hn⟩]
      rw [e]
      clear e
      by_cases hy : inB (at_ (x.sec + n * 86400)).y (-2000) 6000 = true
      · have e : inY (at_ (x.sec + n * 86400)) = ((at_ (x.sec + n * 86400)), 0) := by unfold inY; rw [if_pos hy]
        have C76l := Lib.hid (t76_b ((at_ok_eq _).trans hy))
        rw [e]
        clear e hy hn
        rw [at_add hv n] at C76l ⊢
        clear hv
        generalize yr (x.num + n) = Y at *
        generalize moN (x.num + n) = M at *
        generalize dyN (x.num + n) = D at *
        generalize x.num = N at *
        obtain ⟨y, m, d, h, mi, s⟩ := x
        try dsimp only at *
        go_enter Try.func47, Try.ntmps47
        go_wp2_with fail
        have hb0 : Below w.heap.size w ((w.alloc (.cells #[.int .i64 y, .int .i64 m, .int .i64 d, .int .i64 h, .int .i64 mi, .int .i64 s] 28)).alloc (.cells #[.int .i64 0, .int .i64 0, .int .i64 0, .int .i64 0, .int .i64 0, .int .i64 0] 28)) := (bSelf w _).alloc (by simp) _
        have K1 : Hid (Blk ((w.alloc (.cells #[.int .i64 y, .int .i64 m, .int .i64 d, .int .i64 h, .int .i64 mi, .int .i64 s] 28)).alloc (.cells #[.int .i64 0, .int .i64 0, .int .i64 0, .int .i64 0, .int .i64 0, .int .i64 0] 28)) w.heap.size 28 (c6 y m d h mi s)) := (Blk.new w _ _).alloc _
        have K2 : Hid (Blk ((w.alloc (.cells #[.int .i64 y, .int .i64 m, .int .i64 d, .int .i64 h, .int .i64 mi, .int .i64 s] 28)).alloc (.cells #[.int .i64 0, .int .i64 0, .int .i64 0, .int .i64 0, .int .i64 0, .int .i64 0] 28)) (w.heap.size + 1) 28 (c6 0 0 0 0 0 0)) := newAt _ _ _ _ _ (by simp) rfl
        generalize (w.alloc (.cells #[.int .i64 y, .int .i64 m, .int .i64 d, .int .i64 h, .int .i64 mi, .int .i64 s] 28)).alloc (.cells #[.int .i64 0, .int .i64 0, .int .i64 0, .int .i64 0, .int .i64 0, .int .i64 0] 28) = W at *
        refine (C76.out _).mono ?_
        rintro e w1 ⟨rfl, hb1⟩
        have hB1 := bThen hb0 hb1
        have k1 := K1.out.below hb1 K1.out.lt
        have k2 := K2.out.below hb1 K2.out.lt
        obtain ⟨e0, e1, e2, e3, e4, e5⟩ := cells6 (w1 := w1) (fun _ _ _ => rfl) k1
        obtain ⟨z0, z1, z2, z3, z4, z5⟩ := cells6 (w1 := w1) (fun _ _ _ => rfl) k2
        have g0 := k2.free 0
        have g1 := k2.free 1
        have g2 := k2.free 2
        have g3 := k2.free 3
        have g4 := k2.free 4
        have g5 := k2.free 5
        have l1 := k1.lt
        have l2 := k2.lt
        go_wp2_with (go_at_call 35; (with_reducible refine (C66.out _).mono ?_); rintro e w' ⟨rfl, rfl⟩)
        refine (C78.out _).mono ?_
        rintro e w2 ⟨rfl, hb2⟩
        have hB2 := bThen hB1 hb2
        have hW2 := bThen hb1 hb2
        clear e0 e1 e2 e3 e4 e5 z0 z1 z2 z3 z4 z5 g0 g1 g2 g3 g4 g5 k1 k2 l1 l2
        have V1 := v1.out
        go_wp2_with fail
        refine (C73.out _).mono ?_
        rintro e w3 ⟨rfl, hb3⟩
        have hB3 := bThen hB2 hb3
        have hW3 := bThen hW2 hb3
        have k1 := K1.out.below hW3 K1.out.lt
        have k2 := K2.out.below hW3 K2.out.lt
        obtain ⟨e0, e1, e2, e3, e4, e5⟩ := cells6 (w1 := w3) (fun _ _ _ => rfl) k1
        obtain ⟨z0, z1, z2, z3, z4, z5⟩ := cells6 (w1 := w3) (fun _ _ _ => rfl) k2
        have g0 := k2.free 0
        have g1 := k2.free 1
        have g2 := k2.free 2
        have g3 := k2.free 3
        have g4 := k2.free 4
        have g5 := k2.free 5
        have l1 := k1.lt
        have l2 := k2.lt
        have hne1 : w.heap.size ≠ w3.heap.size := by omega
        have hne2 : w.heap.size + 1 ≠ w3.heap.size := by omega
        go_wp2_with fail
        have kx := Blk.new w3 #[.int .i64 Y, .int .i64 M, .int .i64 D, .int .i64 h, .int .i64 mi, .int .i64 s] 28
        clear e0 e1 e2 e3 e4 e5 z0 z1 z2 z3 z4 z5 g0 g1 g2 g3 g4 g5 k1 k2 l1 l2
        refine (C76l.out _).mono ?_
        rintro e w4 ⟨rfl, hb4⟩
        have hb4' := (bSelf w3 _).trans (hb4.mono (by simp))
        have hB4 := bThen hB3 hb4'
        have hW4 := bThen hW3 hb4'
        have kx := kx.below hb4 kx.lt
        obtain ⟨x0, x1, x2, x3, x4, x5⟩ := cells6 (w1 := w4) (fun _ _ _ => rfl) kx
        clear kx hb4 hb4'
        have k1 := K1.out.below hW4 K1.out.lt
        have k2 := K2.out.below hW4 K2.out.lt
        obtain ⟨e0, e1, e2, e3, e4, e5⟩ := cells6 (w1 := w4) (fun _ _ _ => rfl) k1
        obtain ⟨z0, z1, z2, z3, z4, z5⟩ := cells6 (w1 := w4) (fun _ _ _ => rfl) k2
        have g0 := k2.free 0
        have g1 := k2.free 1
        have g2 := k2.free 2
        have g3 := k2.free 3
        have g4 := k2.free 4
        have g5 := k2.free 5
        have l1 := k1.lt
        have l2 := k2.lt
        go_wp2
        refine bodyPost_ret ?r rfl ⟨rfl, ?b⟩
        case r => simp [results, Try.results47, go_sem, z0, z1, z2, z3, z4, z5]
        case b =>
          repeat' (first | with_reducible exact hB4 | with_reducible refine bSet ?_ _ _ (by omega) _)
      · have e : inY (at_ (x.sec + n * 86400)) = (Dt.zero, 5) := by unfold inY; rw [if_neg hy]
        have C76l := Lib.hid (t76_b ((at_ok_eq _).trans (eq_false_of_ne_true hy)))
        rw [e]
        clear e hy hn
        rw [at_add hv n] at C76l
        clear hv
        generalize yr (x.num + n) = Y at *
        generalize moN (x.num + n) = M at *
        generalize dyN (x.num + n) = D at *
        generalize x.num = N at *
        obtain ⟨y, m, d, h, mi, s⟩ := x
        try dsimp only at *
        go_enter Try.func47, Try.ntmps47
        go_wp2_with fail
        have hb0 : Below w.heap.size w ((w.alloc (.cells #[.int .i64 y, .int .i64 m, .int .i64 d, .int .i64 h, .int .i64 mi, .int .i64 s] 28)).alloc (.cells #[.int .i64 0, .int .i64 0, .int .i64 0, .int .i64 0, .int .i64 0, .int .i64 0] 28)) := (bSelf w _).alloc (by simp) _
        have K1 : Hid (Blk ((w.alloc (.cells #[.int .i64 y, .int .i64 m, .int .i64 d, .int .i64 h, .int .i64 mi, .int .i64 s] 28)).alloc (.cells #[.int .i64 0, .int .i64 0, .int .i64 0, .int .i64 0, .int .i64 0, .int .i64 0] 28)) w.heap.size 28 (c6 y m d h mi s)) := (Blk.new w _ _).alloc _
        have K2 : Hid (Blk ((w.alloc (.cells #[.int .i64 y, .int .i64 m, .int .i64 d, .int .i64 h, .int .i64 mi, .int .i64 s] 28)).alloc (.cells #[.int .i64 0, .int .i64 0, .int .i64 0, .int .i64 0, .int .i64 0, .int .i64 0] 28)) (w.heap.size + 1) 28 (c6 0 0 0 0 0 0)) := newAt _ _ _ _ _ (by simp) rfl
        generalize (w.alloc (.cells #[.int .i64 y, .int .i64 m, .int .i64 d, .int .i64 h, .int .i64 mi, .int .i64 s] 28)).alloc (.cells #[.int .i64 0, .int .i64 0, .int .i64 0, .int .i64 0, .int .i64 0, .int .i64 0] 28) = W at *
        refine (C76.out _).mono ?_
        rintro e w1 ⟨rfl, hb1⟩
        have hB1 := bThen hb0 hb1
        have k1 := K1.out.below hb1 K1.out.lt
        have k2 := K2.out.below hb1 K2.out.lt
        obtain ⟨e0, e1, e2, e3, e4, e5⟩ := cells6 (w1 := w1) (fun _ _ _ => rfl) k1
        obtain ⟨z0, z1, z2, z3, z4, z5⟩ := cells6 (w1 := w1) (fun _ _ _ => rfl) k2
        have g0 := k2.free 0
        have g1 := k2.free 1
        have g2 := k2.free 2
        have g3 := k2.free 3
        have g4 := k2.free 4
        have g5 := k2.free 5
        have l1 := k1.lt
        have l2 := k2.lt
        go_wp2_with (go_at_call 35; (with_reducible refine (C66.out _).mono ?_); rintro e w' ⟨rfl, rfl⟩)
        refine (C78.out _).mono ?_
        rintro e w2 ⟨rfl, hb2⟩
        have hB2 := bThen hB1 hb2
        have hW2 := bThen hb1 hb2
        clear e0 e1 e2 e3 e4 e5 z0 z1 z2 z3 z4 z5 g0 g1 g2 g3 g4 g5 k1 k2 l1 l2
        have V1 := v1.out
        go_wp2_with fail
        refine (C73.out _).mono ?_
        rintro e w3 ⟨rfl, hb3⟩
        have hB3 := bThen hB2 hb3
        have hW3 := bThen hW2 hb3
        have k1 := K1.out.below hW3 K1.out.lt
        have k2 := K2.out.below hW3 K2.out.lt
        obtain ⟨e0, e1, e2, e3, e4, e5⟩ := cells6 (w1 := w3) (fun _ _ _ => rfl) k1
        obtain ⟨z0, z1, z2, z3, z4, z5⟩ := cells6 (w1 := w3) (fun _ _ _ => rfl) k2
        have g0 := k2.free 0
        have g1 := k2.free 1
        have g2 := k2.free 2
        have g3 := k2.free 3
        have g4 := k2.free 4
        have g5 := k2.free 5
        have l1 := k1.lt
        have l2 := k2.lt
        have hne1 : w.heap.size ≠ w3.heap.size := by omega
        have hne2 : w.heap.size + 1 ≠ w3.heap.size := by omega
        go_wp2_with fail
        have kx := Blk.new w3 #[.int .i64 Y, .int .i64 M, .int .i64 D, .int .i64 h, .int .i64 mi, .int .i64 s] 28
        clear e0 e1 e2 e3 e4 e5 z0 z1 z2 z3 z4 z5 g0 g1 g2 g3 g4 g5 k1 k2 l1 l2
        refine (C76l.out _).mono ?_
        rintro e w4 ⟨rfl, hb4⟩
        have hb4' := (bSelf w3 _).trans (hb4.mono (by simp))
        have hB4 := bThen hB3 hb4'
        have hW4 := bThen hW3 hb4'
        have kx := kx.below hb4 kx.lt
        obtain ⟨x0, x1, x2, x3, x4, x5⟩ := cells6 (w1 := w4) (fun _ _ _ => rfl) kx
        clear kx hb4 hb4'
        have k1 := K1.out.below hW4 K1.out.lt
        have k2 := K2.out.below hW4 K2.out.lt
        obtain ⟨e0, e1, e2, e3, e4, e5⟩ := cells6 (w1 := w4) (fun _ _ _ => rfl) k1
        obtain ⟨z0, z1, z2, z3, z4, z5⟩ := cells6 (w1 := w4) (fun _ _ _ => rfl) k2
        have g0 := k2.free 0
        have g1 := k2.free 1
        have g2 := k2.free 2
        have g3 := k2.free 3
        have g4 := k2.free 4
        have g5 := k2.free 5
        have l1 := k1.lt
        have l2 := k2.lt
        go_wp2
        refine bodyPost_ret ?r rfl ⟨rfl, ?b⟩
        case r => simp [results, Try.results47, go_sem, Dt.zero, z0, z1, z2, z3, z4, z5]
        case b =>
          repeat' (first | with_reducible exact hB4 | with_reducible refine bSet ?_ _ _ (by omega) _)
    · have e : adN x n = (Dt.zero, 1) := by unfold adN; rw [if_neg (fun h => hn h.2)]
      have C66 := Lib.hid (t35_b (eq_false_of_ne_true hn))
      rw [e]
      clear e hv hn
      obtain ⟨y, m, d, h, mi, s⟩ := x
      try dsimp only at *
      go_enter Try.func47, Try.ntmps47
      go_wp2_with fail
      have hb0 : Below w.heap.size w ((w.alloc (.cells #[.int .i64 y, .int .i64 m, .int .i64 d, .int .i64 h, .int .i64 mi, .int .i64 s] 28)).alloc (.cells #[.int .i64 0, .int .i64 0, .int .i64 0, .int .i64 0, .int .i64 0, .int .i64 0] 28)) := (bSelf w _).alloc (by simp) _
      have K1 : Hid (Blk ((w.alloc (.cells #[.int .i64 y, .int .i64 m, .int .i64 d, .int .i64 h, .int .i64 mi, .int .i64 s] 28)).alloc (.cells #[.int .i64 0, .int .i64 0, .int .i64 0, .int .i64 0, .int .i64 0, .int .i64 0] 28)) w.heap.size 28 (c6 y m d h mi s)) := (Blk.new w _ _).alloc _
      have K2 : Hid (Blk ((w.alloc (.cells #[.int .i64 y, .int .i64 m, .int .i64 d, .int .i64 h, .int .i64 mi, .int .i64 s] 28)).alloc (.cells #[.int .i64 0, .int .i64 0, .int .i64 0, .int .i64 0, .int .i64 0, .int .i64 0] 28)) (w.heap.size + 1) 28 (c6 0 0 0 0 0 0)) := newAt _ _ _ _ _ (by simp) rfl
      generalize (w.alloc (.cells #[.int .i64 y, .int .i64 m, .int .i64 d, .int .i64 h, .int .i64 mi, .int .i64 s] 28)).alloc (.cells #[.int .i64 0, .int .i64 0, .int .i64 0, .int .i64 0, .int .i64 0, .int .i64 0] 28) = W at *
      refine (C76.out _).mono ?_
      rintro e w1 ⟨rfl, hb1⟩
      have hB1 := bThen hb0 hb1
      have k1 := K1.out.below hb1 K1.out.lt
      have k2 := K2.out.below hb1 K2.out.lt
      obtain ⟨e0, e1, e2, e3, e4, e5⟩ := cells6 (w1 := w1) (fun _ _ _ => rfl) k1
      obtain ⟨z0, z1, z2, z3, z4, z5⟩ := cells6 (w1 := w1) (fun _ _ _ => rfl) k2
      have g0 := k2.free 0
      have g1 := k2.free 1
      have g2 := k2.free 2
      have g3 := k2.free 3
      have g4 := k2.free 4
      have g5 := k2.free 5
      have l1 := k1.lt
      have l2 := k2.lt
      go_wp2_with (go_at_call 35; (with_reducible refine (C66.out _).mono ?_); rintro e w' ⟨rfl, rfl⟩)
      refine bodyPost_ret ?r rfl ⟨rfl, ?b⟩
      case r => simp [results, Try.results47, go_sem, Dt.zero, z0, z1, z2, z3, z4, z5]
      case b =>
        repeat' (first | with_reducible exact hB1 | with_reducible refine bSet ?_ _ _ (by omega) _)
  · have e : adN x n = (Dt.zero, 1) := by unfold adN; rw [if_neg (fun h => hv h.1)]
    have C76 := Lib.hid (t76_b (eq_false_of_ne_true hv))
    rw [e]
    clear e hv
    obtain ⟨y, m, d, h, mi, s⟩ := x
    try dsimp only at *
    go_enter Try.func47, Try.ntmps47
    go_wp2_with fail
    have hb0 : Below w.heap.size w ((w.alloc (.cells #[.int .i64 y, .int .i64 m, .int .i64 d, .int .i64 h, .int .i64 mi, .int .i64 s] 28)).alloc (.cells #[.int .i64 0, .int .i64 0, .int .i64 0, .int .i64 0, .int .i64 0, .int .i64 0] 28)) := (bSelf w _).alloc (by simp) _
    have K1 : Hid (Blk ((w.alloc (.cells #[.int .i64 y, .int .i64 m, .int .i64 d, .int .i64 h, .int .i64 mi, .int .i64 s] 28)).alloc (.cells #[.int .i64 0, .int .i64 0, .int .i64 0, .int .i64 0, .int .i64 0, .int .i64 0] 28)) w.heap.size 28 (c6 y m d h mi s)) := (Blk.new w _ _).alloc _
    have K2 : Hid (Blk ((w.alloc (.cells #[.int .i64 y, .int .i64 m, .int .i64 d, .int .i64 h, .int .i64 mi, .int .i64 s] 28)).alloc (.cells #[.int .i64 0, .int .i64 0, .int .i64 0, .int .i64 0, .int .i64 0, .int .i64 0] 28)) (w.heap.size + 1) 28 (c6 0 0 0 0 0 0)) := newAt _ _ _ _ _ (by simp) rfl
    generalize (w.alloc (.cells #[.int .i64 y, .int .i64 m, .int .i64 d, .int .i64 h, .int .i64 mi, .int .i64 s] 28)).alloc (.cells #[.int .i64 0, .int .i64 0, .int .i64 0, .int .i64 0, .int .i64 0, .int .i64 0] 28) = W at *
    refine (C76.out _).mono ?_
    rintro e w1 ⟨rfl, hb1⟩
    have hB1 := bThen hb0 hb1
    have k1 := K1.out.below hb1 K1.out.lt
    have k2 := K2.out.below hb1 K2.out.lt
    obtain ⟨e0, e1, e2, e3, e4, e5⟩ := cells6 (w1 := w1) (fun _ _ _ => rfl) k1
    obtain ⟨z0, z1, z2, z3, z4, z5⟩ := cells6 (w1 := w1) (fun _ _ _ => rfl) k2
    have g0 := k2.free 0
    have g1 := k2.free 1
    have g2 := k2.free 2
    have g3 := k2.free 3
    have g4 := k2.free 4
    have g5 := k2.free 5
    have l1 := k1.lt
    have l2 := k2.lt
    go_wp2
    refine bodyPost_ret ?r rfl ⟨rfl, ?b⟩
    case r => simp [results, Try.results47, go_sem, Dt.zero, z0, z1, z2, z3, z4, z5]
    case b =>
      repeat' (first | with_reducible exact hB1 | with_reducible refine bSet ?_ _ _ (by omega) _)
end Go.Proofs.Ytojkkgmfccchbaa
