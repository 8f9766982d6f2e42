/- Contracts of dateAt, monthsLater, ofTheYears. -/
import Derived.Test.YtojkkgmfccchbaaC
import Derived.Deep.RegionLaw
import Derived.Deep.AppendLies
import Derived.Deep.RegionHeld3
namespace Go.Proofs.Ytojkkgmfccchbaa
open Go Go.RowKit

abbrev AT (n : Int) : Value := DV (yr (dayOf n)) (moN (dayOf n)) (dyN (dayOf n)) (hOf n) (miOf n) (sOf n)
theorem yr_bd (n : Int) (h1 : -40000000 ≤ n) (h2 : n ≤ 40000000) : -200000 ≤ yr n ∧ yr n ≤ 200000 := by
  obtain ⟨a, b⟩ := yr_spec n
  unfold dby at a b
  omega
theorem dby_bd2 (y : Int) (h1 : -200001 ≤ y) (h2 : y ≤ 200001) : -100000000 ≤ dby y ∧ dby y ≤ 100000000 := by unfold dby; omega
set_option maxHeartbeats 1000000 in
theorem t34 (n : Int) (w : World) (h1 : -2000000000000 ≤ n) (h2 : n ≤ 2000000000000) :
    Calls Try.prog 34 #[.int .i64 n] w fun e w' => e = .returned (AT n) ∧ Below w.heap.size w w' := by
  have a1 : 0 ≤ n % 86400 := by omega
  have a2 : n % 86400 < 86400 := by omega
  have hd : AT n = DV (yr (n / 86400 + 719528)) (moN (n / 86400 + 719528)) (dyN (n / 86400 + 719528)) (n % 86400 / 3600) (n % 86400 / 60 % 60) (n % 86400 % 60) := rfl
  rw [hd]
  clear hd
  have c71 := fun W => t71 n 86400 W (by omega) (by omega) (by omega) (by omega)
  have b1 : -40000000 ≤ n / 86400 + 719528 := by omega
  have b2 : n / 86400 + 719528 ≤ 40000000 := by omega
  have a3 : -40000000 ≤ n / 86400 := by omega
  have a4 : n / 86400 ≤ 40000000 := by omega
  generalize n / 86400 = q at *
  generalize n % 86400 = r at *
  have C71 := Lib.hid c71
  clear c71
  go_enter Try.func34, Try.ntmps34
  go_wp2_with fail
  refine (C71.out _).mono ?_
  rintro e w1 ⟨rfl, k1, rfl⟩
  go_wp2_with fail
  refine (t72 _ _ (by omega) (by omega)).mono ?_
  rintro e w1 ⟨rfl, k2, rfl⟩
  go_wp2_with fail
  have y1 := yr_bd (q + 719528) b1 b2
  have db := dby_bd2 (yr (q + 719528)) (by omega) (by omega)
  obtain ⟨m1, m2, m3, m4⟩ := moN_spec (q + 719528)
  have s2 := (yr_spec (q + 719528)).1
  have HD : Hid (dyN (q + 719528) = q + 719528 - dby (yr (q + 719528)) - cum (yr (q + 719528)) (moN (q + 719528)) + 1) := rfl
  refine (t70 _ _ (by omega) (by omega)).mono ?_
  rintro e w1 ⟨rfl, k3, rfl⟩
  go_wp2_with fail
  have hs1 : (((w.alloc (Obj.cells #[.int .i64 0, .int .i64 0, .int .i64 0, .int .i64 0, .int .i64 0, .int .i64 0] 24)).drewN (k1 + k2)).heap.size) = w.heap.size + 1 := by simp
  go_loopw [3] (fun t wr => ∃ m : Int, 1 ≤ m ∧ m ≤ moN (q + 719528) ∧ t = .int .i64 (q + 719528 - dby (yr (q + 719528)) - cum (yr (q + 719528)) m) ∧ Hid (Blk wr (w.heap.size + 1) 24 [.int .i64 (yr (q + 719528)), .int .i64 m, .int .i64 0, .int .i64 (r / 3600), .int .i64 (r / 60 % 60), .int .i64 (r % 60)]) ∧ Hid (Blk wr w.heap.size 24 [.int .i64 0, .int .i64 0, .int .i64 0, .int .i64 0, .int .i64 0, .int .i64 0]) ∧ Below w.heap.size w wr) (fun t _ => (intOf t).toNat)
  case atStart =>
    refine ⟨1, by omega, by omega, by rw [cum_one, Int.sub_zero], ?_, ?_, ?_⟩
    · exact newAt _ _ _ _ _ hs1.symm rfl
    · exact (Blk.new w _ _).alloc _
    · exact below_drewN ((below_drewN (bSelf w _) _).alloc (by rw [hs1]; omega) _) _
  case round =>
    obtain ⟨m, hm1, hm2, rfl, HB, HZ, hb⟩ := hrel
    have cs := cum_succ (yr (q + 719528)) m hm1 (by omega)
    have dm := dim_cases (yr (q + 719528)) m
    have cb := cum_bd (yr (q + 719528)) m
    have cb2 := cum_bd (yr (q + 719528)) (m + 1)
    have c0 := HB.out.cell 0 rfl
    have c1 := HB.out.cell 1 rfl
    have c2 := HB.out.cell 2 rfl
    have c3 := HB.out.cell 3 rfl
    have c4 := HB.out.cell 4 rfl
    have c5 := HB.out.cell 5 rfl
    have f1 := HB.out.free 1
    have f2 := HB.out.free 2
    have z0 := HZ.out.cell 0 rfl
    have z1 := HZ.out.cell 1 rfl
    have z2 := HZ.out.cell 2 rfl
    have z3 := HZ.out.cell 3 rfl
    have z4 := HZ.out.cell 4 rfl
    have z5 := HZ.out.cell 5 rfl
    have g0 := HZ.out.free 0
    have g1 := HZ.out.free 1
    have g2 := HZ.out.free 2
    have g3 := HZ.out.free 3
    have g4 := HZ.out.free 4
    have g5 := HZ.out.free 5
    by_cases hc : m = moN (q + 719528)
    · subst hc
      have q1 : ¬ (dim (yr (q + 719528)) (moN (q + 719528)) ≤ q + 719528 - dby (yr (q + 719528)) - cum (yr (q + 719528)) (moN (q + 719528))) := by omega
      clear cs
      go_wp2_with (go_at_call 43; (with_reducible refine (t43 _ _ _).mono ?_); rintro e w' ⟨rfl, rfl⟩)
      refine bodyPost_ret (v := DV (yr (q + 719528)) (moN (q + 719528)) (dyN (q + 719528)) (r / 3600) (r / 60 % 60) (r % 60)) (by rw [HD.out]; simp [results, Try.results34, go_sem, z0, z1, z2, z3, z4, z5]) rfl ⟨rfl, ?_⟩
      repeat' (refine bSet ?_ _ _ (by omega) _)
      exact hb
    · have cm := cum_mono (yr (q + 719528)) hm1 (k := moN (q + 719528)) (by omega) (by omega)
      have q1 : dim (yr (q + 719528)) m ≤ q + 719528 - dby (yr (q + 719528)) - cum (yr (q + 719528)) m := by omega
      have CS : Hid (q + 719528 - dby (yr (q + 719528)) - cum (yr (q + 719528)) (m + 1) = q + 719528 - dby (yr (q + 719528)) - cum (yr (q + 719528)) m - dim (yr (q + 719528)) m) := by show _ = _; omega
      clear cs cm
      go_wp2_with (go_at_call 43; (with_reducible refine (t43 _ _ _).mono ?_); rintro e w' ⟨rfl, rfl⟩)
      go_roundw
      case rel => exact ⟨m + 1, by omega, by omega, by rw [CS.out], HB.out.set 1 _, HZ.out.setOther _ _ (by simp), bSet hb _ _ (by omega) _⟩
      case measure => simp [intOf]; omega
/-- months later, by value -/
abbrev LV (y m d h mi s n : Int) : Value := DV ((y * 12 + m - 1 + n) / 12) ((y * 12 + m - 1 + n) % 12 + 1) (cut d (y * 12 + m - 1 + n)) h mi s
set_option maxHeartbeats 1000000 in
theorem t75 (y m d h mi s n : Int) (w : World) (h1 : -100000 ≤ y) (h2 : y ≤ 100000) (h3 : 1 ≤ m) (h4 : m ≤ 12) (h7 : -1000000 ≤ n) (h8 : n ≤ 1000000) :
    Calls Try.prog 75 #[DV y m d h mi s, .int .i64 n] w fun e w' => e = .returned (LV y m d h mi s n) ∧ Below w.heap.size w w' := by
  have c71 := fun W => t71 (y * 12 + m - 1 + n) 12 W (by omega) (by omega) (by omega) (by omega)
  have hc : LV y m d h mi s n = DV ((y * 12 + m - 1 + n) / 12) ((y * 12 + m - 1 + n) % 12 + 1) (if dim ((y * 12 + m - 1 + n) / 12) ((y * 12 + m - 1 + n) % 12 + 1) < d then dim ((y * 12 + m - 1 + n) / 12) ((y * 12 + m - 1 + n) % 12 + 1) else d) h mi s := rfl
  rw [hc]
  clear hc
  have a1 : 0 ≤ (y * 12 + m - 1 + n) % 12 := by omega
  have a2 : (y * 12 + m - 1 + n) % 12 < 12 := by omega
  have a3 : -2000000 ≤ (y * 12 + m - 1 + n) / 12 := by omega
  have a4 : (y * 12 + m - 1 + n) / 12 ≤ 2000000 := by omega
  have C71 := Lib.hid c71
  clear c71
  go_enter Try.func75, Try.ntmps75
  go_wp2_with fail
  refine (C71.out _).mono ?_
  rintro e w1 ⟨rfl, k1, rfl⟩
  go_wp2_with fail
  go_outline
  go_region_law
    (first
      | (go_simp; go_at_call 43; (with_reducible refine (t43 _ _ _).mono ?_); rintro e w1 ⟨rfl, rfl⟩))
  go_wp2
  all_goals
    refine bodyPost_ret ?r rfl ⟨rfl, ?b⟩
    case r => simp [results, Try.results75, go_sem]
    case b =>
      refine Below.drew ?_
      repeat' (refine bSet ?_ _ _ (by omega) _)
      exact below_drewN ((bSelf w _).alloc (by simp) _) _
theorem t67 (y m d h mi s : Int) (w : World) (h1 : -2000 ≤ y) (h2 : y ≤ 6000) :
    Calls Try.prog 67 #[DV y m d h mi s] w fun e w' => e = .returned (.tuple #[DV y m d h mi s, .int .i64 0]) ∧ Below w.heap.size w w' := by
  have c39 := fun W => t39 y W
  rw [inB_t h1 h2] at c39
  have C39 := Lib.hid c39
  clear c39
  go_enter Try.func67, Try.ntmps67
  go_wp2_with (go_at_call 39; (with_reducible refine (C39.out _).mono ?_); rintro e w' ⟨rfl, rfl⟩)
  exact bodyPost_ret (v := .tuple #[DV y m d h mi s, .int .i64 0]) (by simp [results, Try.results67, go_sem]) rfl ⟨rfl, (bSelf w _).alloc (by simp) _⟩
theorem t67_out (y m d h mi s : Int) (w : World) (hy : inB y (-2000) 6000 = false) :
    Calls Try.prog 67 #[DV y m d h mi s] w fun e w' => e = .returned (.tuple #[DV 0 0 0 0 0 0, .int .i64 5]) ∧ Below w.heap.size w w' := by
  have c39 := fun W => t39 y W
  rw [hy] at c39
  clear hy
  have C39 := Lib.hid c39
  clear c39
  go_enter Try.func67, Try.ntmps67
  go_wp2_with (go_at_call 39; (with_reducible refine (C39.out _).mono ?_); rintro e w' ⟨rfl, rfl⟩)
  exact bodyPost_ret (v := .tuple #[DV 0 0 0 0 0 0, .int .i64 5]) (by simp [results, Try.results67, go_sem]) rfl ⟨rfl, (bSelf w _).alloc (by simp) _⟩
end Go.Proofs.Ytojkkgmfccchbaa
