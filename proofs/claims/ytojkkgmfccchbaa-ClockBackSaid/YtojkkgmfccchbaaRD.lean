/- The reference: Valid, of, later, Moment, Of, Leap, Days. -/
import Derived.Test.YtojkkgmfccchbaaRC
import Derived.Test.YtojkkgmfccchbaaMe
namespace Go.Proofs.Ytojkkgmfccchbaa
open Go Go.RowKit Go.Sort

theorem bOf {P : Program} {f : FuncId} {args : Array Value} {w : World} {v : Value} (h : Calls P f args w fun e w' => e = .returned v ∧ w = w') : Calls P f args w fun e w' => e = .returned v ∧ Below w.heap.size w w' :=
  h.mono fun _ _ ⟨he, hw⟩ => ⟨he, by rw [← hw]; exact Below.refl _ _⟩
theorem vld_inB2 (y m d h mi s : Int) : vldB y m d h mi s = (((((inB y (-2000) 6000 && inB m 1 12) && inB d 1 (dim y m)) && inB h 0 23) && inB mi 0 59) && inB s 0 59) := vld_inB y m d h mi s
set_option maxRecDepth 100000 in
set_option maxHeartbeats 4000000 in
theorem t76 (y m d h mi s : Int) (w : World) : Calls Try.prog 76 #[DV y m d h mi s] w fun e w' => e = .returned (.bool (vldB y m d h mi s)) ∧ Below w.heap.size w w' := by
  rw [vld_inB2]
  have c0 := fun W => bOf (t35 y (-2000) 6000 W)
  have c1 := fun W => bOf (t35 m 1 12 W)
  have c2 := fun W => bOf (t35 d 1 (dim y m) W)
  have c3 := fun W => bOf (t35 h 0 23 W)
  have c4 := fun W => bOf (t35 mi 0 59 W)
  have c5 := fun W => bOf (t35 s 0 59 W)
  have c44 : inB m 1 12 = true → ∀ W, Calls Try.prog 44 #[.int .i64 y, .int .i64 m] W fun e w' => e = .returned (.int .i64 (dim y m)) ∧ Below W.heap.size W w' := fun hm W => t44 y m W (inB_iff.1 hm).1 (inB_iff.1 hm).2
  generalize inB y (-2000) 6000 = b0 at c0 ⊢
  generalize inB m 1 12 = b1 at c1 c44 ⊢
  generalize inB d 1 (dim y m) = b2 at c2 ⊢
  generalize inB h 0 23 = b3 at c3 ⊢
  generalize inB mi 0 59 = b4 at c4 ⊢
  generalize inB s 0 59 = b5 at c5 ⊢
  cases b0
  rotate_left
  cases b1
  rotate_left
  cases b2
  rotate_left
  cases b3
  rotate_left
  cases b4
  all_goals
    have C0 := Lib.hid c0
    have C1 := Lib.hid c1
    have C2 := Lib.hid c2
    have C3 := Lib.hid c3
    have C4 := Lib.hid c4
    have C5 := Lib.hid c5
    first | (have C44 := Lib.hid (c44 rfl); clear c44) | (have C44 := Lib.hid (t44 y 1 w (by decide) (by decide)); clear c44)
    clear c0 c1 c2 c3 c4 c5
    go_enter Try.func76, Try.ntmps76
    go_wp2_with fail
    have hb0 : Below w.heap.size w (w.alloc (.cells #[.int .i64 y, .int .i64 m, .int .i64 d, .int .i64 h, .int .i64 mi, .int .i64 s] 28)) := bSelf w _
    have k1 : Blk (w.alloc (.cells #[.int .i64 y, .int .i64 m, .int .i64 d, .int .i64 h, .int .i64 mi, .int .i64 s] 28)) w.heap.size 28 [.int .i64 y, .int .i64 m, .int .i64 d, .int .i64 h, .int .i64 mi, .int .i64 s] := Blk.new w _ _
    generalize w.alloc (.cells #[.int .i64 y, .int .i64 m, .int .i64 d, .int .i64 h, .int .i64 mi, .int .i64 s] 28) = w1 at *
    obtain ⟨p0, p1, p2, p3, p4, p5⟩ := cells6 (w1 := w1) (fun _ _ _ => rfl) k1
    clear k1
    have r0 := cell_regrown p0
    have r1 := cell_regrown p1
    have r2 := cell_regrown p2
    have r3 := cell_regrown p3
    have r4 := cell_regrown p4
    have r5 := cell_regrown p5
    clear p0 p1 p2 p3 p4 p5
    refine wp_region_quiet_below (by kernel_rfl) (by kernel_rfl) ?_
    repeat (quiet_step (first
      | ((go_at_call 44; (with_reducible exact Calls.regrown_of (C44.out _))))
      | ((go_at_call 35; first
        | (with_reducible exact Calls.regrown_of (C0.out _))
        | (with_reducible exact Calls.regrown_of (C1.out _))
        | (with_reducible exact Calls.regrown_of (C2.out _))
        | (with_reducible exact Calls.regrown_of (C3.out _))
        | (with_reducible exact Calls.regrown_of (C4.out _))
        | (with_reducible exact Calls.regrown_of (C5.out _))))))
    refine wpQuiet_nil ?_
    intro _ hw'
    obtain ⟨⟨dq, osq⟩, hw''⟩ := hw'
    subst hw''
    clear r0 r1 r2 r3 r4 r5
    have hbq := below_regrown w1 dq osq
    go_wp2
    go_ret
    exact ⟨rfl, bThen hb0 hbq⟩
theorem t76_b {x : Dt} {b : Bool} (h : x.ok = b) (W : World) : Calls Try.prog 76 #[x.v] W fun e w' => e = .returned (.bool b) ∧ Below W.heap.size W w' := by
  subst h; exact t76 _ _ _ _ _ _ W
theorem t79_b {x : Dt} (h : x.ok = true) (W : World) : Calls Try.prog 79 #[x.v] W fun e w' => e = .returned (.int .i64 x.sec) ∧ Below W.heap.size W w' := by
  have f := ok_facts h
  exact t79 _ _ _ _ _ _ W (by omega) (by omega) (ok_isD h) f.2.2.2.1.1 f.2.2.2.1.2 f.2.2.2.2.1.1 f.2.2.2.2.1.2 f.2.2.2.2.2.1 f.2.2.2.2.2.2
theorem t79_l {x : Dt} {n : Int} (h : x.ok = true) (h1 : -100000 ≤ (lat_ x n).y) (h2 : (lat_ x n).y ≤ 100000) (W : World) : Calls Try.prog 79 #[(lat_ x n).v] W fun e w' => e = .returned (.int .i64 (lat_ x n).sec) ∧ Below W.heap.size W w' := by
  have f := lat_time h n
  exact t79 _ _ _ _ _ _ W h1 h2 (lat_isD h n) f.1.1 f.1.2 f.2.1.1 f.2.1.2 f.2.2.1 f.2.2.2
end Go.Proofs.Ytojkkgmfccchbaa
