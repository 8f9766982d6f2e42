/- The reference: of, later, Moment, Of, Leap, Days. -/
import Derived.Test.YtojkkgmfccchbaaRD
namespace Go.Proofs.Ytojkkgmfccchbaa
open Go Go.RowKit Go.Sort

theorem bUndrew {W X : World} (h : Below W.drew.heap.size W.drew X) : Below W.heap.size W X := ⟨h.os, h.tape, h.output, h.size, h.block⟩
set_option maxHeartbeats 2000000 in
theorem t36 (n : Int) (w : World) (h1 : -2000000000000 ≤ n) (h2 : n ≤ 2000000000000) :
    Calls Try.prog 36 #[.int .i64 n] w fun e w' => e = .returned (AT n) ∧ Below w.heap.size w w' := by
  have hd : AT n = DV (yr (n / 86400 + 719528)) (moN (n / 86400 + 719528)) (dyN (n / 86400 + 719528)) (n % 86400 / 3600) (n % 86400 / 60 % 60) (n % 86400 % 60) := rfl
  rw [hd]
  clear hd
  have c74 := fun W => t74 n 86400 W (by omega) (by omega) (by omega) (by omega)
  have a1 : 0 ≤ n % 86400 := by omega
  have a2 : n % 86400 < 86400 := by omega
  have a3 : -30000000 ≤ n / 86400 := by omega
  have a4 : n / 86400 ≤ 30000000 := by omega
  have a5 : n - n / 86400 * 86400 = n % 86400 := by omega
  generalize n / 86400 = q at *
  generalize n % 86400 = r at *
  have C73 := Lib.hid (fun W => t73 q W a3 a4)
  have C74 := Lib.hid c74
  have A5 := Lib.hid a5
  clear c74 a5
  generalize yr (q + 719528) = Y at *
  generalize moN (q + 719528) = M at *
  generalize dyN (q + 719528) = D at *
  go_enter Try.func36, Try.ntmps36
  go_wp2_with fail
  refine (C74.out _).mono ?_
  rintro e w1 ⟨rfl, rfl⟩
  go_wp2_with fail
  refine (C73.out _).mono ?_
  rintro e w1 ⟨rfl, hb1⟩
  have hB1 := (bSelf w _).trans (hb1.mono (by simp))
  have k1 := (Blk.new w #[.int .i64 0, .int .i64 0, .int .i64 0, .int .i64 0, .int .i64 0, .int .i64 0] 28).below hb1 (by simp)
  have hz1 : w.heap.size < w1.heap.size := k1.lt
  have z0 := k1.cell 0 rfl
  have z1 := k1.cell 1 rfl
  have z2 := k1.cell 2 rfl
  have z3 := k1.cell 3 rfl
  have z4 := k1.cell 4 rfl
  have z5 := k1.cell 5 rfl
  have g0 := k1.free 0
  have g1 := k1.free 1
  have g2 := k1.free 2
  have g3 := k1.free 3
  have g4 := k1.free 4
  have g5 := k1.free 5
  have hne : w.heap.size ≠ w1.heap.size := by omega
  have HNE := Lib.hid hne
  clear hb1 k1
  go_wp2_with fail
  refine (C74.out _).mono ?_
  rintro e w2 ⟨rfl, rfl⟩
  have a5 := A5.out
  go_wp2
  refine bodyPost_ret (v := DV Y M D (r / 3600) (r / 60 % 60) (r % 60)) (by simp [results, Try.results36, go_sem, z0, z1, z2, z3, z4, z5, hz1]) rfl ⟨rfl, ?_⟩
  repeat' (first | with_reducible exact hB1 | with_reducible refine bAl ?_ _ | with_reducible refine bSet ?_ _ _ (by omega) _)
theorem t36_b {n : Int} (h1 : -2000000000000 ≤ n) (h2 : n ≤ 2000000000000) (W : World) : Calls Try.prog 36 #[.int .i64 n] W fun e w' => e = .returned (at_ n).v ∧ Below W.heap.size W w' := t36 n W h1 h2
set_option maxHeartbeats 2000000 in
theorem t77 (y m d h mi s n : Int) (w : World) (h1 : -100000 ≤ y) (h2 : y ≤ 100000) (h3 : 1 ≤ m) (h4 : m ≤ 12) (h7 : -1000000 ≤ n) (h8 : n ≤ 1000000) :
    Calls Try.prog 77 #[DV y m d h mi s, .int .i64 n] w fun e w' => e = .returned (LV y m d h mi s n) ∧ Below w.heap.size w w' := by
  have c74 := fun W => t74 (y * 12 + m - 1 + n) 12 W (by omega) (by omega) (by omega) (by omega)
  have hc : LV y m d h mi s n = DV ((y * 12 + m - 1 + n) / 12) ((y * 12 + m - 1 + n) % 12 + 1) (if dim ((y * 12 + m - 1 + n) / 12) ((y * 12 + m - 1 + n) % 12 + 1) < d then dim ((y * 12 + m - 1 + n) / 12) ((y * 12 + m - 1 + n) % 12 + 1) else d) h mi s := rfl
  rw [hc]
  clear hc
  have a1 : 1 ≤ (y * 12 + m - 1 + n) % 12 + 1 := by omega
  have a2 : (y * 12 + m - 1 + n) % 12 + 1 ≤ 12 := by omega
  have a3 : -2000000 ≤ (y * 12 + m - 1 + n) / 12 := by omega
  have a4 : (y * 12 + m - 1 + n) / 12 ≤ 2000000 := by omega
  have a5 : y * 12 + m - 1 + n - (y * 12 + m - 1 + n) / 12 * 12 + 1 = (y * 12 + m - 1 + n) % 12 + 1 := by omega
  generalize (y * 12 + m - 1 + n) / 12 = Y at *
  generalize (y * 12 + m - 1 + n) % 12 + 1 = M at *
  have C44 := Lib.hid (fun W => t44 Y M W a1 a2)
  have C74 := Lib.hid c74
  have A5 := Lib.hid a5
  clear c74 a5
  go_enter Try.func77, Try.ntmps77
  go_wp2_with fail
  refine (C74.out _).mono ?_
  rintro e w1 ⟨rfl, rfl⟩
  have a5 := A5.out
  go_wp2_with fail
  have hb0 : Below w.heap.size w ((w.alloc (.cells #[.int .i64 Y, .int .i64 M, .int .i64 d, .int .i64 h, .int .i64 mi, .int .i64 s] 28)).alloc (.cells #[.int .i64 0, .int .i64 0, .int .i64 0, .int .i64 0, .int .i64 0, .int .i64 0] 28)) := (bSelf w _).alloc (by simp) _
  have k1 : Blk ((w.alloc (.cells #[.int .i64 Y, .int .i64 M, .int .i64 d, .int .i64 h, .int .i64 mi, .int .i64 s] 28)).alloc (.cells #[.int .i64 0, .int .i64 0, .int .i64 0, .int .i64 0, .int .i64 0, .int .i64 0] 28)) w.heap.size 28 (c6 Y M d h mi s) := (Blk.new w _ _).alloc _
  have k2 : Blk ((w.alloc (.cells #[.int .i64 Y, .int .i64 M, .int .i64 d, .int .i64 h, .int .i64 mi, .int .i64 s] 28)).alloc (.cells #[.int .i64 0, .int .i64 0, .int .i64 0, .int .i64 0, .int .i64 0, .int .i64 0] 28)) (w.heap.size + 1) 28 (c6 0 0 0 0 0 0) := newAt _ _ _ _ _ (by simp) rfl
  generalize (w.alloc (.cells #[.int .i64 Y, .int .i64 M, .int .i64 d, .int .i64 h, .int .i64 mi, .int .i64 s] 28)).alloc (.cells #[.int .i64 0, .int .i64 0, .int .i64 0, .int .i64 0, .int .i64 0, .int .i64 0] 28) = W at *
  obtain ⟨p0, p1, p2, p3, p4, p5⟩ := cells6 (w1 := W) (fun _ _ _ => rfl) k1
  have K1 := Lib.hid k1
  have K2 := Lib.hid k2
  clear k1 k2 a5
  go_region_law
    (first
      | (go_simp; go_at_call 44; (with_reducible refine (C44.out _).mono ?_); rintro e w1 ⟨rfl, hb1⟩; have q2 := (K1.out.below (bUndrew hb1) K1.out.lt).cell 2 rfl; have f2 := (K1.out.below (bUndrew hb1) K1.out.lt).free 2))
  all_goals
    have hbb := bThen hb0 (bUndrew hb1)
    have k1 := K1.out.below (bUndrew hb1) K1.out.lt
    have k2 := K2.out.below (bUndrew hb1) K2.out.lt
    obtain ⟨e0, e1, e2, e3, e4, e5⟩ := cells6 (w1 := w1) (fun _ _ _ => rfl) k1
    obtain ⟨z0, z1, z2, z3, z4, z5⟩ := cells6 (w1 := w1) (fun _ _ _ => rfl) k2
    have g0 := k2.free 0
    have g1 := k2.free 1
    have g2 := k2.free 2
    have g3 := k2.free 3
    have g4 := k2.free 4
    have g5 := k2.free 5
    clear hb1 k1 k2 p0 p1 p2 p3 p4 p5
    go_wp2
    all_goals
      refine bodyPost_ret ?r rfl ⟨rfl, ?b⟩
      case r => simp [results, Try.results77, go_sem, z0, z1, z2, z3, z4, z5]
      case b =>
        repeat' (first | with_reducible exact hbb | with_reducible refine bSet ?_ _ _ (by omega) _)
theorem t77_b {x : Dt} {n : Int} (h : x.ok = true) (h7 : -1000000 ≤ n) (h8 : n ≤ 1000000) (W : World) : Calls Try.prog 77 #[x.v, .int .i64 n] W fun e w' => e = .returned (lat_ x n).v ∧ Below W.heap.size W w' := by
  have f := ok_facts h
  exact t77 _ _ _ _ _ _ n W (by omega) (by omega) f.2.1.1 f.2.1.2 h7 h8
end Go.Proofs.Ytojkkgmfccchbaa
