/- Contracts of Moment, Of, Weekday, YearDay, Leap, Days, AddMonths, AddDays. -/
import Derived.Test.YtojkkgmfccchbaaD
import Derived.Lib.QuietBelow
namespace Go.Proofs.Ytojkkgmfccchbaa
open Go Go.RowKit Go.Sort

abbrev Dt.v (x : Dt) : Value := DV x.y x.m x.d x.h x.mi x.s
abbrev EV (v : Value) (e : Int) : Value := .tuple #[v, .int .i64 e]
theorem at_v (n : Int) : AT n = (at_ n).v := rfl
theorem lat_v (x : Dt) (n : Int) : LV x.y x.m x.d x.h x.mi x.s n = (lat_ x n).v := rfl
theorem t33 (n : Int) (w : World) : Calls Try.prog 33 #[.int .i64 n] w fun e w' => e = .returned (.bool (isMo n)) ∧ w = w' := by
  unfold isMo
  go_enter Try.func33, Try.ntmps33
  go_wp2_with (go_at_call 66; refine (t66 _ _ _ _).mono ?_; rintro e w' ⟨rfl, rfl⟩)
  go_ret
  exact ⟨rfl, rfl⟩
theorem t37_b {x : Dt} {b : Bool} (h : x.ok = b) (W : World) : Calls Try.prog 37 #[x.v] W fun e w' => e = .returned (.bool b) ∧ Below W.heap.size W w' := by
  subst h; exact t37 _ _ _ _ _ _ W
theorem t38_b {x : Dt} (h : x.ok = true) (W : World) : Calls Try.prog 38 #[x.v] W fun e w' => e = .returned (.int .i64 x.sec) ∧ Below W.heap.size W w' := by
  have f := ok_facts h
  exact t38 _ _ _ _ _ _ W (by omega) (by omega) (ok_isD h) f.2.2.2.1.1 f.2.2.2.1.2 f.2.2.2.2.1.1 f.2.2.2.2.1.2 f.2.2.2.2.2.1 f.2.2.2.2.2.2
theorem t69_b {x : Dt} (h : x.ok = true) (W : World) : Calls Try.prog 69 #[x.v] W fun e w' => e = .returned (.int .i64 x.num) ∧ Below W.heap.size W w' := by
  have f := ok_facts h
  exact t69 _ _ _ _ _ _ W (by omega) (by omega) (ok_isD h)
theorem t33_b {n : Int} {b : Bool} (h : isMo n = b) (W : World) : Calls Try.prog 33 #[.int .i64 n] W fun e w' => e = .returned (.bool b) ∧ W = w' := by
  subst h; exact t33 _ _
theorem t13 (x : Dt) (w : World) : Calls Try.prog 13 #[x.v] w fun e w' => e = .returned (EV (.int .i64 (momN x).1) (momN x).2) ∧ Below w.heap.size w w' := by
  by_cases hv : x.ok = true
  · have C37 := Lib.hid (t37_b hv)
    have C38 := Lib.hid (t38_b hv)
    have hs := ok_sec hv
    by_cases hm : isMo x.sec = true
    · have e : momN x = (x.sec, 0) := by unfold momN; rw [if_pos hv, if_pos hm]
      have C33 := Lib.hid (t33_b hm)
      rw [e]
      clear e hv hm
      generalize x.sec = N at *
      obtain ⟨y, m, d, h, mi, s⟩ := x
      go_enter Try.func13, Try.ntmps13
      go_wp2_with fail
      refine (C37.out _).mono ?_
      rintro e w1 ⟨rfl, hb1⟩
      obtain ⟨hc1, hf1⟩ := bcell hb1
      have hB1 := (bSelf _ _).trans (hb1.mono (by simp <;> omega))
      have hz1 : w.heap.size + 0 < w1.heap.size := by have := hb1.size; simp at this; omega
      go_wp2_with fail
      refine (C38.out _).mono ?_
      rintro e w2 ⟨rfl, hb2⟩
      obtain ⟨hc2, hf2⟩ := bcell hb2
      have hB2 := bThen hB1 hb2
      have hz2 : w.heap.size + 0 < w2.heap.size := by have := hb2.size; omega
      go_wp2_with (go_at_call 33; (with_reducible refine (C33.out _).mono ?_); rintro e w' ⟨rfl, rfl⟩)
      go_ret2
      exact ⟨rfl, hB2⟩
    · have e : momN x = (0, 5) := by unfold momN; rw [if_pos hv, if_neg hm]
      have C33 := Lib.hid (t33_b (eq_false_of_ne_true hm))
      rw [e]
      clear e hv hm
      generalize x.sec = N at *
      obtain ⟨y, m, d, h, mi, s⟩ := x
      go_enter Try.func13, Try.ntmps13
      go_wp2_with fail
      refine (C37.out _).mono ?_
      rintro e w1 ⟨rfl, hb1⟩
      obtain ⟨hc1, hf1⟩ := bcell hb1
      have hB1 := (bSelf _ _).trans (hb1.mono (by simp <;> omega))
      have hz1 : w.heap.size + 0 < w1.heap.size := by have := hb1.size; simp at this; omega
      go_wp2_with fail
      refine (C38.out _).mono ?_
      rintro e w2 ⟨rfl, hb2⟩
      obtain ⟨hc2, hf2⟩ := bcell hb2
      have hB2 := bThen hB1 hb2
      have hz2 : w.heap.size + 0 < w2.heap.size := by have := hb2.size; omega
      go_wp2_with (go_at_call 33; (with_reducible refine (C33.out _).mono ?_); rintro e w' ⟨rfl, rfl⟩)
      go_ret2
      exact ⟨rfl, hB2⟩
  · have e : momN x = (0, 1) := by unfold momN; rw [if_neg hv]
    have C37 := Lib.hid (t37_b (eq_false_of_ne_true hv))
    rw [e]
    clear e hv
    obtain ⟨y, m, d, h, mi, s⟩ := x
    go_enter Try.func13, Try.ntmps13
    go_wp2_with fail
    refine (C37.out _).mono ?_
    rintro e w1 ⟨rfl, hb1⟩
    obtain ⟨hc1, hf1⟩ := bcell hb1
    have hB1 := (bSelf _ _).trans (hb1.mono (by simp <;> omega))
    have hz1 : w.heap.size + 0 < w1.heap.size := by have := hb1.size; simp at this; omega
    go_wp2
    go_ret2
    exact ⟨rfl, hB1⟩
theorem t34_b {n : Int} (h1 : -2000000000000 ≤ n) (h2 : n ≤ 2000000000000) (W : World) : Calls Try.prog 34 #[.int .i64 n] W fun e w' => e = .returned (at_ n).v ∧ Below W.heap.size W w' := t34 n W h1 h2
theorem t10 (n : Int) (w : World) : Calls Try.prog 10 #[.int .i64 n] w fun e w' => e = .returned (EV (ofN n).1.v (ofN n).2) ∧ Below w.heap.size w w' := by
  by_cases hm : isMo n = true
  · have e : ofN n = (at_ n, 0) := by unfold ofN; rw [if_pos hm]
    have C33 := Lib.hid (t33_b hm)
    have hi := inB_iff.1 hm
    have C34 := Lib.hid (fun W => t34_b (n := n) (by omega) (by omega) W)
    rw [e]
    clear e hm hi
    generalize at_ n = X at C34 ⊢
    obtain ⟨y, m, d, h, mi, s⟩ := X
    go_enter Try.func10, Try.ntmps10
    go_wp2_with (go_at_call 33; (with_reducible refine (C33.out _).mono ?_); rintro e w' ⟨rfl, rfl⟩)
    refine (C34.out _).mono ?_
    rintro e w1 ⟨rfl, hb1⟩
    obtain ⟨hc1, hf1⟩ := bcell hb1
    have hB1 := (bSelf _ _).trans (hb1.mono (by simp))
    have hz1 : w.heap.size < w1.heap.size := by have := hb1.size; simp at this; omega
    go_wp2
    refine bodyPost_ret ?r rfl ⟨rfl, ?b⟩
    case r => simp [results, Try.results10, go_sem, hc1]
    case b =>
      repeat' (refine bSet ?_ _ _ (Nat.le_refl _) _)
      exact hB1
  · have e : ofN n = (Dt.zero, 5) := by unfold ofN; rw [if_neg hm]
    have C33 := Lib.hid (t33_b (eq_false_of_ne_true hm))
    rw [e]
    clear e hm
    go_enter Try.func10, Try.ntmps10
    go_wp2_with (go_at_call 33; (with_reducible refine (C33.out _).mono ?_); rintro e w' ⟨rfl, rfl⟩)
    refine bodyPost_ret ?r rfl ⟨rfl, ?b⟩
    case r => simp [results, Try.results10, go_sem, Dt.zero]
    case b => exact bSelf _ _
theorem t68_b {n : Int} (h1 : -100000000 ≤ n) (h2 : n ≤ 100000000) (W : World) : Calls Try.prog 68 #[.int .i64 n] W fun e w' => e = .returned (.int .i64 ((n + 5) % 7)) ∧ Below W.heap.size W w' :=
  (t68 n W h1 h2).mono fun _ _ ⟨he, k, hk⟩ => ⟨he, by rw [hk]; exact below_drewN (Below.refl _ _) _⟩
theorem t31 (x : Dt) (w : World) : Calls Try.prog 31 #[x.v] w fun e w' => e = .returned (EV (.int .i64 (wdN x).1) (wdN x).2) ∧ Below w.heap.size w w' := by
  by_cases hv : x.ok = true
  · have C37 := Lib.hid (t37_b hv)
    have C69 := Lib.hid (t69_b hv)
    have hn := ok_num hv
    have C68 := Lib.hid (t68_b (n := x.num) (by omega) (by omega))
    have e : wdN x = ((x.num + 5) % 7, 0) := by unfold wdN; rw [if_pos hv]
    rw [e]
    clear e hv hn
    generalize x.num = N at *
    obtain ⟨y, m, d, h, mi, s⟩ := x
    go_enter Try.func31, Try.ntmps31
    go_wp2_with fail
    refine (C37.out _).mono ?_
    rintro e w1 ⟨rfl, hb1⟩
    obtain ⟨hc1, hf1⟩ := bcell hb1
    have hB1 := (bSelf _ _).trans (hb1.mono (by simp <;> omega))
    have hz1 : w.heap.size + 0 < w1.heap.size := by have := hb1.size; simp at this; omega
    go_wp2_with fail
    refine (C69.out _).mono ?_
    rintro e w2 ⟨rfl, hb2⟩
    obtain ⟨hc2, hf2⟩ := bcell hb2
    have hB2 := bThen hB1 hb2
    have hz2 : w.heap.size + 0 < w2.heap.size := by have := hb2.size; omega
    go_wp2_with fail
    refine (C68.out _).mono ?_
    rintro e w3 ⟨rfl, hb3⟩
    obtain ⟨hc3, hf3⟩ := bcell hb3
    have hB3 := bThen hB2 hb3
    have hz3 : w.heap.size + 0 < w3.heap.size := by have := hb3.size; omega
    go_wp2
    go_ret2
    exact ⟨rfl, hB3⟩
  · have e : wdN x = (0, 1) := by unfold wdN; rw [if_neg hv]
    have C37 := Lib.hid (t37_b (eq_false_of_ne_true hv))
    rw [e]
    clear e hv
    obtain ⟨y, m, d, h, mi, s⟩ := x
    go_enter Try.func31, Try.ntmps31
    go_wp2_with fail
    refine (C37.out _).mono ?_
    rintro e w1 ⟨rfl, hb1⟩
    obtain ⟨hc1, hf1⟩ := bcell hb1
    have hB1 := (bSelf _ _).trans (hb1.mono (by simp <;> omega))
    have hz1 : w.heap.size + 0 < w1.heap.size := by have := hb1.size; simp at this; omega
    go_wp2
    go_ret2
    exact ⟨rfl, hB1⟩
theorem t70_b {y : Int} (h1 : -1000000 ≤ y) (h2 : y ≤ 1000000) (W : World) : Calls Try.prog 70 #[.int .i64 y] W fun e w' => e = .returned (.int .i64 (dby y)) ∧ Below W.heap.size W w' :=
  (t70 y W h1 h2).mono fun _ _ ⟨he, k, hk⟩ => ⟨he, by rw [hk]; exact below_drewN (Below.refl _ _) _⟩
theorem t32 (x : Dt) (w : World) : Calls Try.prog 32 #[x.v] w fun e w' => e = .returned (EV (.int .i64 (ydN x).1) (ydN x).2) ∧ Below w.heap.size w w' := by
  by_cases hv : x.ok = true
  · have C37 := Lib.hid (t37_b hv)
    have C69 := Lib.hid (t69_b hv)
    have hn := ok_num hv
    have hf := ok_facts hv
    have hd := dby_bd x.y (by omega) (by omega)
    have C70 := Lib.hid (t70_b (y := x.y) (by omega) (by omega))
    have e : ydN x = (x.num - dby x.y + 1, 0) := by unfold ydN; rw [if_pos hv]
    rw [e]
    clear e hv hf
    generalize x.num = N at *
    obtain ⟨y, m, d, h, mi, s⟩ := x
    dsimp only at *
    go_enter Try.func32, Try.ntmps32
    go_wp2_with fail
    refine (C37.out _).mono ?_
    rintro e w1 ⟨rfl, hb1⟩
    obtain ⟨hc1, hf1⟩ := bcell hb1
    have hB1 := (bSelf _ _).trans (hb1.mono (by simp <;> omega))
    have hz1 : w.heap.size + 0 < w1.heap.size := by have := hb1.size; simp at this; omega
    go_wp2_with fail
    have k0 : w1.cell? ⟨w.heap.size, 0, none⟩ = some (.int .i64 y) := by rw [hc1 _ _ (by simp)]; simp
    have k1 : w1.cell? ⟨w.heap.size, 1, none⟩ = some (.int .i64 m) := by rw [hc1 _ _ (by simp)]; simp
    have k2 : w1.cell? ⟨w.heap.size, 2, none⟩ = some (.int .i64 d) := by rw [hc1 _ _ (by simp)]; simp
    have k3 : w1.cell? ⟨w.heap.size, 3, none⟩ = some (.int .i64 h) := by rw [hc1 _ _ (by simp)]; simp
    have k4 : w1.cell? ⟨w.heap.size, 4, none⟩ = some (.int .i64 mi) := by rw [hc1 _ _ (by simp)]; simp
    have k5 : w1.cell? ⟨w.heap.size, 5, none⟩ = some (.int .i64 s) := by rw [hc1 _ _ (by simp)]; simp
    clear hc1 hf1
    have v1 : IntKind.i64.wrap (N - dby y) = N - dby y := IntWalk.i64_in _ (by omega)
    have v2 : IntKind.i64.wrap (N - dby y + 1) = N - dby y + 1 := IntWalk.i64_in _ (by omega)
    have r0 := cell_regrown k0
    have r1 := cell_regrown k1
    have r2 := cell_regrown k2
    have r3 := cell_regrown k3
    have r4 := cell_regrown k4
    have r5 := cell_regrown k5
    refine wp_region_quiet_below (by kernel_rfl) (by kernel_rfl) ?_
    repeat (quiet_step (first | ((go_at_call 69; exact Calls.regrown_of (C69.out _))) | ((go_at_call 70; exact Calls.regrown_of (C70.out _)))))
    refine wpQuiet_nil ?_
    intro _ hw'
    obtain ⟨⟨dq, osq⟩, hw''⟩ := hw'
    subst hw''
    have hbq := below_regrown w1 dq osq
    go_wp2
    go_ret2
    exact ⟨rfl, bThen hB1 hbq⟩
  · have e : ydN x = (0, 1) := by unfold ydN; rw [if_neg hv]
    have C37 := Lib.hid (t37_b (eq_false_of_ne_true hv))
    rw [e]
    clear e hv
    obtain ⟨y, m, d, h, mi, s⟩ := x
    go_enter Try.func32, Try.ntmps32
    go_wp2_with fail
    refine (C37.out _).mono ?_
    rintro e w1 ⟨rfl, hb1⟩
    obtain ⟨hc1, hf1⟩ := bcell hb1
    have hB1 := (bSelf _ _).trans (hb1.mono (by simp <;> omega))
    have hz1 : w.heap.size + 0 < w1.heap.size := by have := hb1.size; simp at this; omega
    go_wp2
    go_ret2
    exact ⟨rfl, hB1⟩
theorem t14 (y : Int) (w : World) : Calls Try.prog 14 #[.int .i64 y] w fun e w' => e = .returned (EV (.bool (lpN y).1) (lpN y).2) ∧ w = w' := by
  have c39 := fun W => t39 y W
  by_cases h : inB y (-2000) 6000 = true
  · have e : lpN y = (lpB y, 0) := by unfold lpN; rw [if_pos h]
    rw [e]
    rw [h] at c39
    clear e h
    have C39 := Lib.hid c39
    clear c39
    go_enter Try.func14, Try.ntmps14
    go_wp2_with (first | (go_at_call 39; (with_reducible refine (C39.out _).mono ?_); rintro e w' ⟨rfl, rfl⟩) | (go_at_call 40; refine (t40 _ _).mono ?_; rintro e w' ⟨rfl, rfl⟩))
    go_ret2
    exact ⟨rfl, rfl⟩
  · have e : lpN y = (false, 1) := by unfold lpN; rw [if_neg h]
    rw [e]
    rw [eq_false_of_ne_true h] at c39
    clear e h
    have C39 := Lib.hid c39
    clear c39
    go_enter Try.func14, Try.ntmps14
    go_wp2_with (go_at_call 39; (with_reducible refine (C39.out _).mono ?_); rintro e w' ⟨rfl, rfl⟩)
    go_ret2
    exact ⟨rfl, rfl⟩
theorem t16 (y m : Int) (w : World) : Calls Try.prog 16 #[.int .i64 y, .int .i64 m] w fun e w' => e = .returned (EV (.int .i64 (dsN y m).1) (dsN y m).2) ∧ w = w' := by
  have c42 := fun W => t42 y m W
  by_cases h : inB y (-2000) 6000 = true ∧ inB m 1 12 = true
  · have e : dsN y m = (dim y m, 0) := by unfold dsN; rw [if_pos h]
    rw [e]
    rw [h.1, h.2] at c42
    clear e h
    have C42 := Lib.hid c42
    clear c42
    go_enter Try.func16, Try.ntmps16
    go_wp2_with (first | (go_at_call 42; (with_reducible refine (C42.out _).mono ?_); rintro e w' ⟨rfl, rfl⟩) | (go_at_call 43; refine (t43 _ _ _).mono ?_; rintro e w' ⟨rfl, rfl⟩))
    go_ret2
    exact ⟨rfl, rfl⟩
  · have e : dsN y m = (0, 1) := by unfold dsN; rw [if_neg h]
    rw [e]
    rw [show (inB y (-2000) 6000 && inB m 1 12) = false by simpa using h] at c42
    clear e h
    have C42 := Lib.hid c42
    clear c42
    go_enter Try.func16, Try.ntmps16
    go_wp2_with (go_at_call 42; (with_reducible refine (C42.out _).mono ?_); rintro e w' ⟨rfl, rfl⟩)
    go_ret2
    exact ⟨rfl, rfl⟩
theorem t67_b (x : Dt) (w : World) : Calls Try.prog 67 #[x.v] w fun e w' => e = .returned (EV (inY x).1.v (inY x).2) ∧ Below w.heap.size w w' := by
  by_cases h : inB x.y (-2000) 6000 = true
  · have e : inY x = (x, 0) := by unfold inY; rw [if_pos h]
    rw [e]
    exact t67 _ _ _ _ _ _ w (inB_iff.1 h).1 (inB_iff.1 h).2
  · have e : inY x = (Dt.zero, 5) := by unfold inY; rw [if_neg h]
    rw [e]
    exact t67_out _ _ _ _ _ _ w (eq_false_of_ne_true h)
theorem t75_b {x : Dt} {n : Int} (h : x.ok = true) (h7 : -1000000 ≤ n) (h8 : n ≤ 1000000) (W : World) : Calls Try.prog 75 #[x.v, .int .i64 n] W fun e w' => e = .returned (lat_ x n).v ∧ Below W.heap.size W w' := by
  have f := ok_facts h
  exact t75 _ _ _ _ _ _ n W (by omega) (by omega) f.2.1.1 f.2.1.2 h7 h8
theorem t66_b {n a b : Int} {c : Bool} (h : inB n a b = c) (W : World) : Calls Try.prog 66 #[.int .i64 n, .int .i64 a, .int .i64 b] W fun e w' => e = .returned (.bool c) ∧ W = w' := by
  subst h; exact t66 _ _ _ _
theorem t45 (x : Dt) (n : Int) (w : World) : Calls Try.prog 45 #[x.v, .int .i64 n] w fun e w' => e = .returned (EV (amN x n).1.v (amN x n).2) ∧ Below w.heap.size w w' := by
  by_cases hv : x.ok = true
  · have C37 := Lib.hid (t37_b hv)
    by_cases hn : inB n (-120000) 120000 = true
    · have e : amN x n = inY (lat_ x n) := by unfold amN; rw [if_pos ⟨hv, hn⟩]
      have C66 := Lib.hid (t66_b hn)
      have hi := inB_iff.1 hn
      have C75 := Lib.hid (t75_b (n := n) hv (by omega) (by omega))
      have C67 := Lib.hid (t67_b (lat_ x n))
      rw [e]
      clear e hv hn
      generalize inY (lat_ x n) = R at *
      obtain ⟨X, er⟩ := R
      go_enter Try.func45, Try.ntmps45
      go_wp2_with fail
      refine (C37.out _).mono ?_
      rintro e w1 ⟨rfl, hb1⟩
      obtain ⟨hc1, hf1⟩ := bcell hb1
      have hB1 := ((bSelf w _).alloc (by simp) _).trans (hb1.mono (by simp <;> omega))
      have hz1 : w.heap.size + 1 < w1.heap.size := by have := hb1.size; simp at this; omega
      go_wp2_with (go_at_call 66; (with_reducible refine (C66.out _).mono ?_); rintro e w' ⟨rfl, rfl⟩)
      refine (C75.out _).mono ?_
      rintro e w2 ⟨rfl, hb2⟩
      obtain ⟨hc2, hf2⟩ := bcell hb2
      have hB2 := bThen hB1 hb2
      have hz2 : w.heap.size + 1 < w2.heap.size := by have := hb2.size; omega
      go_wp2_with fail
      refine (C67.out _).mono ?_
      rintro e w3 ⟨rfl, hb3⟩
      obtain ⟨hc3, hf3⟩ := bcell hb3
      have hB3 := bThen hB2 hb3
      have hz3 : w.heap.size + 1 < w3.heap.size := by have := hb3.size; omega
      go_wp2
      refine bodyPost_ret ?r rfl ⟨rfl, ?b⟩
      case r => simp [results, Try.results45, go_sem, *]
      case b =>
        repeat' (refine bSet ?_ _ _ (by omega) _)
        exact hB3
    · have e : amN x n = (Dt.zero, 1) := by unfold amN; rw [if_neg (fun h => hn h.2)]
      have C66 := Lib.hid (t66_b (eq_false_of_ne_true hn))
      rw [e]
      clear e hv hn
      go_enter Try.func45, Try.ntmps45
      go_wp2_with fail
      refine (C37.out _).mono ?_
      rintro e w1 ⟨rfl, hb1⟩
      obtain ⟨hc1, hf1⟩ := bcell hb1
      have hB1 := ((bSelf w _).alloc (by simp) _).trans (hb1.mono (by simp <;> omega))
      have hz1 : w.heap.size + 1 < w1.heap.size := by have := hb1.size; simp at this; omega
      go_wp2_with (go_at_call 66; (with_reducible refine (C66.out _).mono ?_); rintro e w' ⟨rfl, rfl⟩)
      refine bodyPost_ret ?r rfl ⟨rfl, ?b⟩
      case r => simp [results, Try.results45, go_sem, hc1, Dt.zero]
      case b =>
        repeat' (refine bSet ?_ _ _ (by omega) _)
        exact hB1
  · have e : amN x n = (Dt.zero, 1) := by unfold amN; rw [if_neg (fun h => hv h.1)]
    have C37 := Lib.hid (t37_b (eq_false_of_ne_true hv))
    rw [e]
    clear e hv
    go_enter Try.func45, Try.ntmps45
    go_wp2_with fail
    refine (C37.out _).mono ?_
    rintro e w1 ⟨rfl, hb1⟩
    obtain ⟨hc1, hf1⟩ := bcell hb1
    have hB1 := ((bSelf w _).alloc (by simp) _).trans (hb1.mono (by simp <;> omega))
    have hz1 : w.heap.size + 1 < w1.heap.size := by have := hb1.size; simp at this; omega
    go_wp2
    refine bodyPost_ret ?r rfl ⟨rfl, ?b⟩
    case r => simp [results, Try.results45, go_sem, hc1, Dt.zero]
    case b =>
      repeat' (refine bSet ?_ _ _ (by omega) _)
      exact hB1
theorem t30 (x : Dt) (n : Int) (w : World) : Calls Try.prog 30 #[x.v, .int .i64 n] w fun e w' => e = .returned (EV (adN x n).1.v (adN x n).2) ∧ Below w.heap.size w w' := by
  by_cases hv : x.ok = true
  · have C37 := Lib.hid (t37_b hv)
    by_cases hn : inB n (-10000000) 10000000 = true
    · have e : adN x n = inY (at_ (x.sec + n * 86400)) := by unfold adN; rw [if_pos ⟨hv, hn⟩]
      have C66 := Lib.hid (t66_b hn)
      have hi := inB_iff.1 hn
      have hs := ok_sec hv
      have C38 := Lib.hid (t38_b hv)
      have C34 := Lib.hid (t34_b (n := x.sec + n * 86400) (by omega) (by omega))
      have C67 := Lib.hid (t67_b (at_ (x.sec + n * 86400)))
      rw [e]
      clear e hv hn
      generalize inY (at_ (x.sec + n * 86400)) = R at *
      obtain ⟨X, er⟩ := R
      go_enter Try.func30, Try.ntmps30
      go_wp2_with fail
      refine (C37.out _).mono ?_
      rintro e w1 ⟨rfl, hb1⟩
      obtain ⟨hc1, hf1⟩ := bcell hb1
      have hB1 := ((bSelf w _).alloc (by simp) _).trans (hb1.mono (by simp <;> omega))
      have hz1 : w.heap.size + 1 < w1.heap.size := by have := hb1.size; simp at this; omega
      go_wp2_with (go_at_call 66; (with_reducible refine (C66.out _).mono ?_); rintro e w' ⟨rfl, rfl⟩)
      refine (C38.out _).mono ?_
      rintro e w2 ⟨rfl, hb2⟩
      obtain ⟨hc2, hf2⟩ := bcell hb2
      have hB2 := bThen hB1 hb2
      have hz2 : w.heap.size + 1 < w2.heap.size := by have := hb2.size; omega
      go_wp2_with fail
      refine (C34.out _).mono ?_
      rintro e w3 ⟨rfl, hb3⟩
      obtain ⟨hc3, hf3⟩ := bcell hb3
      have hB3 := bThen hB2 hb3
      have hz3 : w.heap.size + 1 < w3.heap.size := by have := hb3.size; omega
      go_wp2_with fail
      refine (C67.out _).mono ?_
      rintro e w4 ⟨rfl, hb4⟩
      obtain ⟨hc4, hf4⟩ := bcell hb4
      have hB4 := bThen hB3 hb4
      have hz4 : w.heap.size + 1 < w4.heap.size := by have := hb4.size; omega
      go_wp2
      refine bodyPost_ret ?r rfl ⟨rfl, ?b⟩
      case r => simp [results, Try.results30, go_sem, *]
      case b =>
        repeat' (refine bSet ?_ _ _ (by omega) _)
        exact hB4
    · have e : adN x n = (Dt.zero, 1) := by unfold adN; rw [if_neg (fun h => hn h.2)]
      have C66 := Lib.hid (t66_b (eq_false_of_ne_true hn))
      rw [e]
      clear e hv hn
      go_enter Try.func30, Try.ntmps30
      go_wp2_with fail
      refine (C37.out _).mono ?_
      rintro e w1 ⟨rfl, hb1⟩
      obtain ⟨hc1, hf1⟩ := bcell hb1
      have hB1 := ((bSelf w _).alloc (by simp) _).trans (hb1.mono (by simp <;> omega))
      have hz1 : w.heap.size + 1 < w1.heap.size := by have := hb1.size; simp at this; omega
      go_wp2_with (go_at_call 66; (with_reducible refine (C66.out _).mono ?_); rintro e w' ⟨rfl, rfl⟩)
      refine bodyPost_ret ?r rfl ⟨rfl, ?b⟩
      case r => simp [results, Try.results30, go_sem, hc1, Dt.zero]
      case b =>
        repeat' (refine bSet ?_ _ _ (by omega) _)
        exact hB1
  · have e : adN x n = (Dt.zero, 1) := by unfold adN; rw [if_neg (fun h => hv h.1)]
    have C37 := Lib.hid (t37_b (eq_false_of_ne_true hv))
    rw [e]
    clear e hv
    go_enter Try.func30, Try.ntmps30
    go_wp2_with fail
    refine (C37.out _).mono ?_
    rintro e w1 ⟨rfl, hb1⟩
    obtain ⟨hc1, hf1⟩ := bcell hb1
    have hB1 := ((bSelf w _).alloc (by simp) _).trans (hb1.mono (by simp <;> omega))
    have hz1 : w.heap.size + 1 < w1.heap.size := by have := hb1.size; simp at this; omega
    go_wp2
    refine bodyPost_ret ?r rfl ⟨rfl, ?b⟩
    case r => simp [results, Try.results30, go_sem, hc1, Dt.zero]
    case b =>
      repeat' (refine bSet ?_ _ _ (by omega) _)
      exact hB1
end Go.Proofs.Ytojkkgmfccchbaa
