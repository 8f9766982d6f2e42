/- The walk of WholeSums. -/
import Derived.Test.YtifhiefdhhmdeaaGreatDoorXC
import Derived.Deep.RegionHeld3
namespace Go.Proofs.YtifhiefdhhmdeaaGreatDoor
open Go Go.RowKit

theorem numS_size {z : Int} {n : Nat} (h : Dl z n) : (numS z).size ≤ n + 2 := by
  show (txtZ 10 z).length ≤ n + 2
  have h1 := txt_length 10 z.natAbs (by omega)
  have h2 : (dgs 10 z.natAbs).length ≤ n := h
  unfold txtZ
  split
  · rw [List.length_cons, h1]; omega
  · rw [h1]; omega
set_option maxRecDepth 100000 in
set_option maxHeartbeats 8000000 in
theorem t3 (a b : ByteArray) (vx vy : Value) (xs ys : List Int) (m0 : Int) (w : World) (hvx : IntsRead w vx xs) (hvy : IntsRead w vy ys) (hx : ∀ x ∈ xs, InInt x) (hy : ∀ x ∈ ys, InInt x) (hT : TabOk w) (hl : xs.length ≤ 9223372036854775807) (hl' : ys.length ≤ 9223372036854775807) (ha : a.size ≤ 9223372036854775807) (hb : b.size ≤ 9223372036854775807) (hm : w.cell? ⟨0, 0, none⟩ = some (.int .i64 m0)) :
    Calls Tryz.prog 3 #[.agg #[.string a, .string b, vx, vy]] w fun e w' => e = .returned (.bool true) ∧ Below w.heap.size w w' := by
  have C1 : Hid (∀ W : World, Below w.heap.size w W → Calls Tryz.prog 16 #[vx, .int .i64 60] W fun e w' => ∃ z : Int, Dl z 60 ∧ e = .returned (.string (numS z)) ∧ Below W.heap.size W w') := fun W hb => a16 vx xs 60 W (hvx.below hb) hx (hT.on hb) hl (by omega) (by omega)
  have C2 : Hid (∀ W : World, Below w.heap.size w W → Calls Tryz.prog 16 #[vy, .int .i64 400] W fun e w' => ∃ z : Int, Dl z 400 ∧ e = .returned (.string (numS z)) ∧ Below W.heap.size W w') := fun W hb => a16 vy ys 400 W (hvy.below hb) hy (hT.on hb) hl' (by omega) (by omega)
  have C3 : Hid (∀ W : World, Below w.heap.size w W → Calls Tryz.prog 16 #[vx, .int .i64 400] W fun e w' => ∃ z : Int, Dl z 400 ∧ e = .returned (.string (numS z)) ∧ Below W.heap.size W w') := fun W hb => a16 vx xs 400 W (hvx.below hb) hx (hT.on hb) hl (by omega) (by omega)
  have HS := Lib.hid (fun W (h : Below w.heap.size w W) => t14 m0 W (below_cell h hm))
  obtain ⟨xo, cx, rfl, -⟩ := hvx
  obtain ⟨yo, cy, rfl, -⟩ := hvy
  have HK := Blk.new w #[.string a, .string b, .slice xo xs.length cx, .slice yo ys.length cy] 24
  have HB0 := Lib.hid (bSelf0 w (.cells #[.string a, .string b, .slice xo xs.length cx, .slice yo ys.length cy] 24))
  have hl2 := long2 a b (w.alloc (.cells #[.string a, .string b, .slice xo xs.length cx, .slice yo ys.length cy] 24)) ha hb
  rw [show (w.alloc (.cells #[.string a, .string b, .slice xo xs.length cx, .slice yo ys.length cy] 24)).heap.size = w.heap.size + 1 by simp] at hl2
  have HL := Lib.hid hl2
  clear hl2
  have P15 := Lib.hid (fun W => t15 a b W ha hb)
  have HA := Lib.hid ha
  clear hx hy hT hm ha hb hl hl'
  by_cases hlong : 3000 < a.size ∨ 3000 < b.size
  · have hd : (decide (3000 < a.size) || decide (3000 < b.size)) = true := by simpa using hlong
    rw [hd] at HL
    have f0 := HK.cell 0 rfl
    have f1 := HK.cell 1 rfl
    clear hlong hd HK
    go_enter Tryz.func3, Tryz.ntmps3
    go_wp2_with fail
    refine HL.out.mono ?_
    rintro e w1 ⟨rfl, rfl⟩
    have hB1 := bThen HB0.out (bSelf0 (w.alloc (.cells #[.string a, .string b, .slice xo xs.length cx, .slice yo ys.length cy] 24)) (.cells #[.string a, .string b] 9))
    go_wp2_with fail
    refine (HS.out _ hB1).mono ?_
    rintro e w2 ⟨rfl, hb2⟩
    have hB2 := bThen hB1 hb2
    go_wp2_with fail
    go_ret
    exact ⟨rfl, hB2⟩
  · have hd : (decide (3000 < a.size) || decide (3000 < b.size)) = false := by simpa using hlong
    rw [hd] at HL
    have f0 := HK.cell 0 rfl
    have f1 := HK.cell 1 rfl
    have HK0 := Lib.hid HK
    clear hlong hd HK
    go_enter Tryz.func3, Tryz.ntmps3
    go_wp2_with fail
    refine HL.out.mono ?_
    rintro e w1 ⟨rfl, rfl⟩
    go_upto_region 3 with fail
    have hB1 := bThen HB0.out (bSelf0 (w.alloc (.cells #[.string a, .string b, .slice xo xs.length cx, .slice yo ys.length cy] 24)) (.cells #[.string a, .string b] 9))
    have hk1 := HK0.out.alloc (.cells #[.string a, .string b] 9)
    have k0_0 := hk1.cell 0 rfl
    have k0_1 := hk1.cell 1 rfl
    have k0_2 := hk1.cell 2 rfl
    have k0_3 := hk1.cell 3 rfl
    clear f0 f1 hk1 HK0
    generalize (w.alloc (.cells #[.string a, .string b, .slice xo xs.length cx, .slice yo ys.length cy] 24)).alloc (.cells #[.string a, .string b] 9) = W at *
    have q0 : Below w.heap.size w W.drew := hB1.drew
    go_region_held3 (fun w' => w'.cell? ⟨w.heap.size, 0, none⟩ = some (.string a) ∧ w'.cell? ⟨w.heap.size, 1, none⟩ = some (.string b) ∧ w'.cell? ⟨w.heap.size, 2, none⟩ = some (.slice xo xs.length cx) ∧ w'.cell? ⟨w.heap.size, 3, none⟩ = some (.slice yo ys.length cy))
      (first
        | exact ⟨k0_0, k0_1, k0_2, k0_3⟩
        | exact ⟨k1_0, k1_1, k1_2, k1_3⟩
        | exact ⟨k2_0, k2_1, k2_2, k2_3⟩
        | exact ⟨k3_0, k3_1, k3_2, k3_3⟩
        | exact ⟨k4_0, k4_1, k4_2, k4_3⟩
        | exact ⟨k5_0, k5_1, k5_2, k5_3⟩
        | exact ⟨k6_0, k6_1, k6_2, k6_3⟩
        | exact ⟨k7_0, k7_1, k7_2, k7_3⟩
        | fail "nokeep")
      (first
        | (go_at_call 15; (with_reducible refine (P15.out _).mono ?_); rintro e w1 ⟨rfl, hb1⟩; have q1 := bThen q0 hb1; have k1_0 := below_cell hb1 k0_0; have k1_1 := below_cell hb1 k0_1; have k1_2 := below_cell hb1 k0_2; have k1_3 := below_cell hb1 k0_3)
        | (go_at_call 16; (with_reducible refine (C1.out _ q1).mono ?_); rintro e w2 ⟨x1, hx1, rfl, hb2⟩; have q2 := bThen q1 hb2; have k2_0 := below_cell hb2 k1_0; have k2_1 := below_cell hb2 k1_1; have k2_2 := below_cell hb2 k1_2; have k2_3 := below_cell hb2 k1_3)
        | (go_at_call 16; (with_reducible refine (C2.out _ q2).mono ?_); rintro e w3 ⟨x2, hx2, rfl, hb3⟩; have q3 := bThen q2 hb3; have k3_0 := below_cell hb3 k2_0; have k3_1 := below_cell hb3 k2_1; have k3_2 := below_cell hb3 k2_2; have k3_3 := below_cell hb3 k2_3)
        | (go_at_call 15; (with_reducible refine (t15 (numS x1) (numS x2) _ (Nat.le_trans (numS_size hx1) (by omega)) (Nat.le_trans (numS_size hx2) (by omega))).mono ?_); rintro e w4 ⟨rfl, hb4⟩; have q4 := bThen q3 hb4; have k4_0 := below_cell hb4 k3_0; have k4_1 := below_cell hb4 k3_1; have k4_2 := below_cell hb4 k3_2; have k4_3 := below_cell hb4 k3_3)
        | (go_at_call 16; (with_reducible refine (C3.out _ q4).mono ?_); rintro e w5 ⟨x3, hx3, rfl, hb5⟩; have q5 := bThen q4 hb5; have k5_0 := below_cell hb5 k4_0; have k5_1 := below_cell hb5 k4_1; have k5_2 := below_cell hb5 k4_2; have k5_3 := below_cell hb5 k4_3)
        | (go_at_call 15; (with_reducible refine (t15 (numS x3) a _ (Nat.le_trans (numS_size hx3) (by omega)) HA.out).mono ?_); rintro e w6 ⟨rfl, hb6⟩; have q6 := bThen q5 hb6; have k6_0 := below_cell hb6 k5_0; have k6_1 := below_cell hb6 k5_1; have k6_2 := below_cell hb6 k5_2; have k6_3 := below_cell hb6 k5_3)
        | (go_at_call 14; (with_reducible refine (HS.out _ q6).mono ?_); rintro e w7 ⟨rfl, hb7⟩; have q7 := bThen q6 hb7; have k7_0 := below_cell hb7 k6_0; have k7_1 := below_cell hb7 k6_1; have k7_2 := below_cell hb7 k6_2; have k7_3 := below_cell hb7 k6_3)
        | fail "noarm")
    all_goals (
      go_wp2_with fail
      go_ret
      exact ⟨rfl, q7⟩)
end Go.Proofs.YtifhiefdhhmdeaaGreatDoor
