/- The law's helpers: as, back, Made, sane. -/
import Derived.Test.YtojkkgmfccchbaaRG
namespace Go.Proofs.Ytojkkgmfccchbaa
open Go Go.RowKit Go.Sort

theorem t12 (x : Dt) (w : World) : Calls Try.prog 12 #[x.v] w fun e w' => e = .returned x.v ∧ Below w.heap.size w w' := by
  obtain ⟨y, m, d, h, mi, s⟩ := x
  go_enter Try.func12, Try.ntmps12
  go_wp2
  refine bodyPost_ret ?r rfl ⟨rfl, ?b⟩
  case r => simp [results, Try.results12, go_sem]
  case b => exact (bSelf w _).alloc (by simp) _
theorem t19 (x : Dt) (w : World) : Calls Try.prog 19 #[x.v] w fun e w' => e = .returned x.v ∧ Below w.heap.size w w' := by
  obtain ⟨y, m, d, h, mi, s⟩ := x
  go_enter Try.func19, Try.ntmps19
  go_wp2
  refine bodyPost_ret ?r rfl ⟨rfl, ?b⟩
  case r => simp [results, Try.results19, go_sem]
  case b => exact (bSelf w _).alloc (by simp) _
theorem u_dm (n a b : Int) (_ha : 0 < a) (hb : 0 < b) (hb2 : b ≤ 10000) : ∃ k : Int, wrap64 ((IntKind.u64.wrap ((IntKind.u64.wrap n).tdiv a)).tmod b) = k ∧ 0 ≤ k ∧ k < b := by
  refine ⟨_, rfl, ?_⟩
  rw [IntKind.wrap_u64, IntKind.wrap_u64]
  rw [Int.tmod_eq_emod_of_nonneg (Int.emod_nonneg _ (by decide))]
  have h1 := Int.emod_nonneg ((n % 18446744073709551616).tdiv a % 18446744073709551616) (show b ≠ 0 by omega)
  have h2 := Int.emod_lt_of_pos ((n % 18446744073709551616).tdiv a % 18446744073709551616) hb
  generalize (n % 18446744073709551616).tdiv a % 18446744073709551616 % b = k at *
  unfold wrap64; omega
theorem u_m (n b : Int) (hb : 0 < b) (hb2 : b ≤ 10000) : ∃ k : Int, wrap64 ((IntKind.u64.wrap n).tmod b) = k ∧ 0 ≤ k ∧ k < b := by
  refine ⟨_, rfl, ?_⟩
  rw [IntKind.wrap_u64]
  rw [Int.tmod_eq_emod_of_nonneg (Int.emod_nonneg _ (by decide))]
  have h1 := Int.emod_nonneg (n % 18446744073709551616) (show b ≠ 0 by omega)
  have h2 := Int.emod_lt_of_pos (n % 18446744073709551616) hb
  generalize n % 18446744073709551616 % b = k at *
  unfold wrap64; omega
theorem made_ok {y m d h mi s : Int} (y1 : -2000 ≤ y) (y2 : y ≤ 6000) (m1 : 1 ≤ m) (m2 : m ≤ 12) (d1 : 1 ≤ d) (d2 : d ≤ dim y m) (h1 : 0 ≤ h) (h2 : h < 24) (i1 : 0 ≤ mi) (i2 : mi < 60) (s1 : 0 ≤ s) (s2 : s < 60) : (⟨y, m, d, h, mi, s⟩ : Dt).ok = true :=
  vld_iff.2 ⟨⟨y1, y2⟩, ⟨m1, m2⟩, ⟨d1, d2⟩, ⟨h1, Int.le_of_lt_add_one h2⟩, ⟨i1, Int.le_of_lt_add_one i2⟩, ⟨s1, Int.le_of_lt_add_one s2⟩⟩
def MadeR (w : World) (e : Ending) (w' : World) : Prop := ∃ x : Dt, x.ok = true ∧ e = .returned x.v ∧ Below w.heap.size w w'
set_option maxRecDepth 100000 in
set_option maxHeartbeats 4000000 in
theorem t20 (n : Int) (w : World) : Calls Try.prog 20 #[.int .i64 n] w (MadeR w) := by
  obtain ⟨k0, e0, a0, b0⟩ := u_m n 200 (by decide) (by decide)
  obtain ⟨k1, e1, a1, b1⟩ := u_dm n 600 8001 (by decide) (by decide) (by decide)
  obtain ⟨k2, e2, a2, b2⟩ := u_dm n 7 12 (by decide) (by decide) (by decide)
  obtain ⟨k3, e3, a3, b3⟩ := u_dm n 11 31 (by decide) (by decide) (by decide)
  obtain ⟨k4, e4, a4, b4⟩ := u_dm n 13 24 (by decide) (by decide) (by decide)
  obtain ⟨k5, e5, a5, b5⟩ := u_dm n 17 60 (by decide) (by decide) (by decide)
  obtain ⟨k6, e6, a6, b6⟩ := u_dm n 19 60 (by decide) (by decide) (by decide)
  cases hT : ((IntKind.u64.wrap ((IntKind.u64.wrap n).tdiv 200)).tmod 3 == 1)
  · have C44 := Lib.hid (fun W => t44 (1900 + k0) (1 + k2) W (by omega) (by omega))
    have hd := dim_cases (1900 + k0) (1 + k2)
    go_enter Try.func20, Try.ntmps20
    go_wp2_with fail
    clear e0 e1 e2 e3 e4 e5 e6 hT
    have hb0 : Below w.heap.size w ((w.alloc (.cells #[.int .i64 0, .int .i64 0, .int .i64 0, .int .i64 0, .int .i64 0, .int .i64 0] 28)).alloc (.cells #[.int .i64 (1900 + k0), .int .i64 (1 + k2), .int .i64 (1 + k3), .int .i64 k4, .int .i64 k5, .int .i64 k6] 28)) := (bSelf w _).alloc (by simp) _
    have K2 : Hid (Blk ((w.alloc (.cells #[.int .i64 0, .int .i64 0, .int .i64 0, .int .i64 0, .int .i64 0, .int .i64 0] 28)).alloc (.cells #[.int .i64 (1900 + k0), .int .i64 (1 + k2), .int .i64 (1 + k3), .int .i64 k4, .int .i64 k5, .int .i64 k6] 28)) w.heap.size 28 (c6 0 0 0 0 0 0)) := (Blk.new w _ _).alloc _
    have K1 : Hid (Blk ((w.alloc (.cells #[.int .i64 0, .int .i64 0, .int .i64 0, .int .i64 0, .int .i64 0, .int .i64 0] 28)).alloc (.cells #[.int .i64 (1900 + k0), .int .i64 (1 + k2), .int .i64 (1 + k3), .int .i64 k4, .int .i64 k5, .int .i64 k6] 28)) (w.heap.size + 1) 28 (c6 (1900 + k0) (1 + k2) (1 + k3) k4 k5 k6)) := newAt _ _ _ _ _ (by simp) rfl
    generalize (w.alloc (.cells #[.int .i64 0, .int .i64 0, .int .i64 0, .int .i64 0, .int .i64 0, .int .i64 0] 28)).alloc (.cells #[.int .i64 (1900 + k0), .int .i64 (1 + k2), .int .i64 (1 + k3), .int .i64 k4, .int .i64 k5, .int .i64 k6] 28) = W at *
    obtain ⟨p0, p1, p2, p3, p4, p5⟩ := cells6 (w1 := W) (fun _ _ _ => rfl) K1.out
    go_region_law
      (first
        | (go_simp; go_at_call 44; (with_reducible refine (C44.out _).mono ?_); rintro e w1 ⟨rfl, hb1⟩; have q2 := (K1.out.below (bUndrew hb1) K1.out.lt).cell 2 rfl; have f2 := (K1.out.below (bUndrew hb1) K1.out.lt).free 2))
    all_goals
      have hbb := bThen hb0 (bUndrew hb1)
      have k1' := K1.out.below (bUndrew hb1) K1.out.lt
      have k2' := K2.out.below (bUndrew hb1) K2.out.lt
      obtain ⟨e0, e1, e2, e3, e4, e5⟩ := cells6 (w1 := w1) (fun _ _ _ => rfl) k1'
      obtain ⟨z0, z1, z2, z3, z4, z5⟩ := cells6 (w1 := w1) (fun _ _ _ => rfl) k2'
      have g0 := k2'.free 0
      have g1 := k2'.free 1
      have g2 := k2'.free 2
      have g3 := k2'.free 3
      have g4 := k2'.free 4
      have g5 := k2'.free 5
      clear hb1 k1' k2' p0 p1 p2 p3 p4 p5
      go_wp2
      all_goals
        first
          | (refine bodyPost_ret (v := DV (1900 + k0) (1 + k2) (1 + k3) k4 k5 k6) ?r rfl ⟨⟨1900 + k0, 1 + k2, 1 + k3, k4, k5, k6⟩, made_ok (by omega) (by omega) (by omega) (by omega) (by omega) (by omega) a4 b4 a5 b5 a6 b6, rfl, ?b⟩)
          | (refine bodyPost_ret (v := DV (1900 + k0) (1 + k2) (dim (1900 + k0) (1 + k2)) k4 k5 k6) ?r rfl ⟨⟨1900 + k0, 1 + k2, dim (1900 + k0) (1 + k2), k4, k5, k6⟩, made_ok (by omega) (by omega) (by omega) (by omega) (by omega) (by omega) a4 b4 a5 b5 a6 b6, rfl, ?b⟩)
        case r => simp [results, Try.results20, go_sem, z0, z1, z2, z3, z4, z5]
        case b =>
          repeat' (first | with_reducible exact hbb | with_reducible refine bSet ?_ _ _ (by omega) _)
  · have C44 := Lib.hid (fun W => t44 (-2000 + k1) (1 + k2) W (by omega) (by omega))
    have hd := dim_cases (-2000 + k1) (1 + k2)
    go_enter Try.func20, Try.ntmps20
    go_wp2_with fail
    clear e0 e1 e2 e3 e4 e5 e6 hT
    have hb0 : Below w.heap.size w ((w.alloc (.cells #[.int .i64 0, .int .i64 0, .int .i64 0, .int .i64 0, .int .i64 0, .int .i64 0] 28)).alloc (.cells #[.int .i64 (-2000 + k1), .int .i64 (1 + k2), .int .i64 (1 + k3), .int .i64 k4, .int .i64 k5, .int .i64 k6] 28)) := (bSelf w _).alloc (by simp) _
    have K2 : Hid (Blk ((w.alloc (.cells #[.int .i64 0, .int .i64 0, .int .i64 0, .int .i64 0, .int .i64 0, .int .i64 0] 28)).alloc (.cells #[.int .i64 (-2000 + k1), .int .i64 (1 + k2), .int .i64 (1 + k3), .int .i64 k4, .int .i64 k5, .int .i64 k6] 28)) w.heap.size 28 (c6 0 0 0 0 0 0)) := (Blk.new w _ _).alloc _
    have K1 : Hid (Blk ((w.alloc (.cells #[.int .i64 0, .int .i64 0, .int .i64 0, .int .i64 0, .int .i64 0, .int .i64 0] 28)).alloc (.cells #[.int .i64 (-2000 + k1), .int .i64 (1 + k2), .int .i64 (1 + k3), .int .i64 k4, .int .i64 k5, .int .i64 k6] 28)) (w.heap.size + 1) 28 (c6 (-2000 + k1) (1 + k2) (1 + k3) k4 k5 k6)) := newAt _ _ _ _ _ (by simp) rfl
    generalize (w.alloc (.cells #[.int .i64 0, .int .i64 0, .int .i64 0, .int .i64 0, .int .i64 0, .int .i64 0] 28)).alloc (.cells #[.int .i64 (-2000 + k1), .int .i64 (1 + k2), .int .i64 (1 + k3), .int .i64 k4, .int .i64 k5, .int .i64 k6] 28) = W at *
    obtain ⟨p0, p1, p2, p3, p4, p5⟩ := cells6 (w1 := W) (fun _ _ _ => rfl) K1.out
    go_region_law
      (first
        | (go_simp; go_at_call 44; (with_reducible refine (C44.out _).mono ?_); rintro e w1 ⟨rfl, hb1⟩; have q2 := (K1.out.below (bUndrew hb1) K1.out.lt).cell 2 rfl; have f2 := (K1.out.below (bUndrew hb1) K1.out.lt).free 2))
    all_goals
      have hbb := bThen hb0 (bUndrew hb1)
      have k1' := K1.out.below (bUndrew hb1) K1.out.lt
      have k2' := K2.out.below (bUndrew hb1) K2.out.lt
      obtain ⟨e0, e1, e2, e3, e4, e5⟩ := cells6 (w1 := w1) (fun _ _ _ => rfl) k1'
      obtain ⟨z0, z1, z2, z3, z4, z5⟩ := cells6 (w1 := w1) (fun _ _ _ => rfl) k2'
      have g0 := k2'.free 0
      have g1 := k2'.free 1
      have g2 := k2'.free 2
      have g3 := k2'.free 3
      have g4 := k2'.free 4
      have g5 := k2'.free 5
      clear hb1 k1' k2' p0 p1 p2 p3 p4 p5
      go_wp2
      all_goals
        first
          | (refine bodyPost_ret (v := DV (-2000 + k1) (1 + k2) (1 + k3) k4 k5 k6) ?r rfl ⟨⟨-2000 + k1, 1 + k2, 1 + k3, k4, k5, k6⟩, made_ok (by omega) (by omega) (by omega) (by omega) (by omega) (by omega) a4 b4 a5 b5 a6 b6, rfl, ?b⟩)
          | (refine bodyPost_ret (v := DV (-2000 + k1) (1 + k2) (dim (-2000 + k1) (1 + k2)) k4 k5 k6) ?r rfl ⟨⟨-2000 + k1, 1 + k2, dim (-2000 + k1) (1 + k2), k4, k5, k6⟩, made_ok (by omega) (by omega) (by omega) (by omega) (by omega) (by omega) a4 b4 a5 b5 a6 b6, rfl, ?b⟩)
        case r => simp [results, Try.results20, go_sem, z0, z1, z2, z3, z4, z5]
        case b =>
          repeat' (first | with_reducible exact hbb | with_reducible refine bSet ?_ _ _ (by omega) _)
theorem san1 : momN ⟨2000, 3, 1, 0, 0, 0⟩ = (951868800, 0) := by decide
theorem san2 : momN ⟨2000, 2, 28, 0, 0, 0⟩ = (951696000, 0) := by decide
theorem san3 : amN ⟨2024, 1, 31, 0, 0, 0⟩ 1 = (⟨2024, 2, 29, 0, 0, 0⟩, 0) := by
  have h1 : (⟨2024, 1, 31, 0, 0, 0⟩ : Dt).ok = true := by decide
  have h2 : lat_ ⟨2024, 1, 31, 0, 0, 0⟩ 1 = ⟨2024, 2, 29, 0, 0, 0⟩ := rfl
  unfold amN
  rw [if_pos ⟨h1, by decide⟩, h2]
  unfold inY
  rw [if_pos (by decide)]
theorem t18 (w : World) : Calls Try.prog 18 #[] w fun e w' => e = .returned (.bool true) ∧ Below w.heap.size w w' := by
  have c1 := fun W => t13 ⟨2000, 3, 1, 0, 0, 0⟩ W
  have c2 := fun W => t13 ⟨2000, 2, 28, 0, 0, 0⟩ W
  have c3 := fun W => t45 ⟨2024, 1, 31, 0, 0, 0⟩ 1 W
  rw [san1] at c1
  rw [san2] at c2
  rw [san3] at c3
  have C1 := Lib.hid c1
  have C2 := Lib.hid c2
  have C3 := Lib.hid c3
  clear c1 c2 c3
  go_enter Try.func18, Try.ntmps18
  go_wp2_with fail
  refine (C1.out _).mono ?_
  rintro e w1 ⟨rfl, hb1⟩
  go_wp2_with fail
  refine (C2.out _).mono ?_
  rintro e w2 ⟨rfl, hb2⟩
  have hB2 := bThen hb1 hb2
  go_wp2_with fail
  refine (C3.out _).mono ?_
  rintro e w3 ⟨rfl, hb3⟩
  have hB3 := bThen hB2 hb3
  clear hb1 hb2 hb3
  go_wp2
  go_ret
  exact ⟨rfl, bAl hB3 _⟩
end Go.Proofs.Ytojkkgmfccchbaa
