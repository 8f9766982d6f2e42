/- The walk of WholeDivides. -/
import Derived.Test.YtifhiefdhhmdeaaGreatDoorXD
import Derived.Test.YtifhiefdhhmdeaaGreatDoorRM
namespace Go.Proofs.YtifhiefdhhmdeaaGreatDoor
open Go Go.RowKit

theorem pairR1 {f g : FuncId} {s : ByteArray} {none : Value} {R : Int → Value} (hf : ∀ w, Calls Tryz.prog f #[.string s] w (R1 s.data.toList none R w)) (hg : ∀ w, Calls Tryz.prog g #[.string s] w (R1 s.data.toList none R w)) :
    ∃ V, (V = none ∨ ∃ x, V = R x) ∧ (∀ w, Calls Tryz.prog f #[.string s] w fun e w' => e = .returned V ∧ Below w.heap.size w w') ∧ (∀ w, Calls Tryz.prog g #[.string s] w fun e w' => e = .returned V ∧ Below w.heap.size w w') := by
  by_cases hv : ∃ x, IsNum s.data.toList x
  · obtain ⟨x, hx⟩ := hv
    have key : ∀ w e w', R1 s.data.toList none R w e w' → e = .returned (R x) ∧ Below w.heap.size w w' := by
      rintro w e w' (⟨h1, _⟩ | ⟨x', h1, h3, h4⟩)
      · exact absurd hx (not_num h1 x)
      · obtain rfl := num_one hx h1
        exact ⟨h3, h4⟩
    exact ⟨R x, .inr ⟨x, rfl⟩, fun w => (hf w).mono fun _ _ h => key _ _ _ h, fun w => (hg w).mono fun _ _ h => key _ _ _ h⟩
  · have key : ∀ w e w', R1 s.data.toList none R w e w' → e = .returned none ∧ Below w.heap.size w w' := by
      rintro w e w' (⟨_, h3, h4⟩ | ⟨x', h1, _⟩)
      · exact ⟨h3, h4⟩
      · exact absurd ⟨x', h1⟩ hv
    exact ⟨none, .inl rfl, fun w => (hf w).mono fun _ _ h => key _ _ _ h, fun w => (hg w).mono fun _ _ h => key _ _ _ h⟩
theorem both36 (s t : ByteArray) (hs : s.size ≤ 9223372036854775807) (ht : t.size ≤ 9223372036854775807) : ∃ (u v : ByteArray) (n : Int), (∀ w, Calls Tryz.prog 36 #[.string s, .string t] w fun e w' => e = .returned (.tuple #[.string u, .string v, .int .i64 n]) ∧ Below w.heap.size w w') ∧ (∀ w, Calls Tryz.prog 51 #[.string s, .string t] w fun e w' => e = .returned (.tuple #[.string u, .string v, .int .i64 n]) ∧ Below w.heap.size w w') := by
  obtain ⟨V, rfl | ⟨x, y, rfl⟩, h1, h2⟩ := pairR (t36 s t) (fun w => t51 s t w hs ht)
  · exact ⟨_, _, _, h1, h2⟩
  · obtain ⟨u, v, n, -, h⟩ := DivT_form x y
    rw [h] at h1 h2
    exact ⟨u, v, n, h1, h2⟩
theorem both39 (s t : ByteArray) (hs : s.size ≤ 9223372036854775807) (ht : t.size ≤ 9223372036854775807) : Both 39 52 s t := by
  obtain ⟨V, rfl | ⟨x, y, rfl⟩, h1, h2⟩ := pairR (t39 s t) (fun w => t52 s t w hs ht)
  · exact ⟨_, _, h1, h2⟩
  · exact ⟨_, _, h1, h2⟩
theorem both38 (s : ByteArray) (hs : s.size ≤ 9223372036854775807) : ∃ (u : ByteArray) (n : Int), (∀ w, Calls Tryz.prog 38 #[.string s] w fun e w' => e = .returned (.tuple #[.string u, .int .i64 n]) ∧ Below w.heap.size w w') ∧ (∀ w, Calls Tryz.prog 53 #[.string s] w fun e w' => e = .returned (.tuple #[.string u, .int .i64 n]) ∧ Below w.heap.size w w') := by
  obtain ⟨V, rfl | ⟨x, rfl⟩, h1, h2⟩ := pairR1 (t38 s) (fun w => t53 s w hs)
  · exact ⟨_, _, h1, h2⟩
  · by_cases hx : x < 0
    · rw [show rootZ x = .tuple #[.string ⟨#[]⟩, .int .i64 1] from if_pos hx] at h1 h2
      exact ⟨_, _, h1, h2⟩
    · rw [show rootZ x = .tuple #[.string (toldS ((isq x.natAbs : Nat) : Int)), .int .i64 (toldE ((isq x.natAbs : Nat) : Int))] from if_neg hx] at h1 h2
      exact ⟨_, _, h1, h2⟩
theorem both54 (s : ByteArray) (hs : s.size ≤ 9223372036854775807) : ∃ (c n : Int), (∀ w, Calls Tryz.prog 54 #[.string s] w fun e w' => e = .returned (.tuple #[.int .i64 c, .int .i64 n]) ∧ Below w.heap.size w w') ∧ (∀ w, Calls Tryz.prog 55 #[.string s] w fun e w' => e = .returned (.tuple #[.int .i64 c, .int .i64 n]) ∧ Below w.heap.size w w') := by
  obtain ⟨V, rfl | ⟨x, rfl⟩, h1, h2⟩ := pairR1 (t54 s) (fun w => t55 s w hs)
  · exact ⟨_, _, h1, h2⟩
  · exact ⟨_, _, h1, h2⟩
set_option maxRecDepth 100000 in
set_option maxHeartbeats 4000000 in
theorem t17 (s t : ByteArray) (w : World) (hs : s.size ≤ 9223372036854775807) (ht : t.size ≤ 9223372036854775807) :
    Calls Tryz.prog 17 #[.string s, .string t] w fun e w' => e = .returned (.bool true) ∧ Below w.heap.size w w' := by
  obtain ⟨u1, v1, n1, p36, p51⟩ := both36 s t hs ht
  obtain ⟨u2, n2, p39, p52⟩ := both39 s t hs ht
  obtain ⟨u3, n3, p38, p53⟩ := both38 s hs
  obtain ⟨c4, n4, p54, p55⟩ := both54 s hs
  have P36 := Lib.hid p36
  have P51 := Lib.hid p51
  have P39 := Lib.hid p39
  have P52 := Lib.hid p52
  have P38 := Lib.hid p38
  have P53 := Lib.hid p53
  have P54 := Lib.hid p54
  have P55 := Lib.hid p55
  have hB0 : Below w.heap.size w w := Below.refl _ _
  clear p36 p51 p39 p52 p38 p53 p54 p55 hs ht
  go_enter Tryz.func17, Tryz.ntmps17
  go_wp2_with fail
  refine (P36.out _).mono ?_
  rintro e w1 ⟨rfl, hb1⟩
  have hB1 := bThen hB0 hb1
  clear hb1 hB0
  go_wp2_with fail
  refine (P51.out _).mono ?_
  rintro e w2 ⟨rfl, hb2⟩
  have hB2 := bThen hB1 hb2
  clear hb2 hB1
  go_wp2_with fail
  refine (P39.out _).mono ?_
  rintro e w3 ⟨rfl, hb3⟩
  have hB3 := bThen hB2 hb3
  clear hb3 hB2
  go_wp2_with fail
  refine (P52.out _).mono ?_
  rintro e w4 ⟨rfl, hb4⟩
  have hB4 := bThen hB3 hb4
  clear hb4 hB3
  go_wp2_with fail
  refine (P38.out _).mono ?_
  rintro e w5 ⟨rfl, hb5⟩
  have hB5 := bThen hB4 hb5
  clear hb5 hB4
  go_wp2_with fail
  refine (P53.out _).mono ?_
  rintro e w6 ⟨rfl, hb6⟩
  have hB6 := bThen hB5 hb6
  clear hb6 hB5
  go_wp2_with fail
  refine (P54.out _).mono ?_
  rintro e w7 ⟨rfl, hb7⟩
  have hB7 := bThen hB6 hb7
  clear hb7 hB6
  go_wp2_with fail
  refine (P55.out _).mono ?_
  rintro e w8 ⟨rfl, hb8⟩
  have hB8 := bThen hB7 hb8
  clear hb8 hB7
  go_wp2_with fail
  go_ret
  exact ⟨rfl, hB8⟩
set_option maxRecDepth 100000 in
set_option maxHeartbeats 8000000 in
theorem t4 (a b : ByteArray) (vx vy : Value) (xs ys : List Int) (m0 : Int) (w : World) (hvx : IntsRead w vx xs) (hvy : IntsRead w vy ys) (hx : ∀ x ∈ xs, InInt x) (hy : ∀ x ∈ ys, InInt x) (hT : TabOk w) (hl : xs.length ≤ 9223372036854775807) (hl' : ys.length ≤ 9223372036854775807) (ha : a.size ≤ 9223372036854775807) (hb : b.size ≤ 9223372036854775807) (hm : w.cell? ⟨0, 0, none⟩ = some (.int .i64 m0)) :
    Calls Tryz.prog 4 #[.agg #[.string a, .string b, vx, vy]] w fun e w' => e = .returned (.bool true) ∧ Below w.heap.size w w' := by
  have C1 : Hid (∀ W : World, Below w.heap.size w W → Calls Tryz.prog 16 #[vx, .int .i64 100] W fun e w' => ∃ z : Int, Dl z 100 ∧ e = .returned (.string (numS z)) ∧ Below W.heap.size W w') := fun W hb => a16 vx xs 100 W (hvx.below hb) hx (hT.on hb) hl (by omega) (by omega)
  have C2 : Hid (∀ W : World, Below w.heap.size w W → Calls Tryz.prog 16 #[vy, .int .i64 50] W fun e w' => ∃ z : Int, Dl z 50 ∧ e = .returned (.string (numS z)) ∧ Below W.heap.size W w') := fun W hb => a16 vy ys 50 W (hvy.below hb) hy (hT.on hb) hl' (by omega) (by omega)
  have C3 : Hid (∀ W : World, Below w.heap.size w W → Calls Tryz.prog 16 #[vy, .int .i64 100] W fun e w' => ∃ z : Int, Dl z 100 ∧ e = .returned (.string (numS z)) ∧ Below W.heap.size W w') := fun W hb => a16 vy ys 100 W (hvy.below hb) hy (hT.on hb) hl' (by omega) (by omega)
  have HS := Lib.hid (fun W (h : Below w.heap.size w W) => t14 m0 W (below_cell h hm))
  obtain ⟨xo, cx, rfl, -⟩ := hvx
  obtain ⟨yo, cy, rfl, -⟩ := hvy
  have HK := Blk.new w #[.string a, .string b, .slice xo xs.length cx, .slice yo ys.length cy] 24
  have HB0 := Lib.hid (bSelf0 w (.cells #[.string a, .string b, .slice xo xs.length cx, .slice yo ys.length cy] 24))
  have hl2 := long2 a b (w.alloc (.cells #[.string a, .string b, .slice xo xs.length cx, .slice yo ys.length cy] 24)) ha hb
  rw [show (w.alloc (.cells #[.string a, .string b, .slice xo xs.length cx, .slice yo ys.length cy] 24)).heap.size = w.heap.size + 1 by simp] at hl2
  have HL := Lib.hid hl2
  clear hl2
  have P17 := Lib.hid (fun W => t17 a b W ha hb)
  clear hx hy hT hm ha hb hl hl'
  by_cases hlong : 3000 < a.size ∨ 3000 < b.size
  · have hd : (decide (3000 < a.size) || decide (3000 < b.size)) = true := by simpa using hlong
    rw [hd] at HL
    have f0 := HK.cell 0 rfl
    have f1 := HK.cell 1 rfl
    clear hlong hd HK
    go_enter Tryz.func4, Tryz.ntmps4
    go_wp2_with fail
    refine HL.out.mono ?_
    rintro e w1 ⟨rfl, rfl⟩
    have hB1 := bThen HB0.out (bSelf0 (w.alloc (.cells #[.string a, .string b, .slice xo xs.length cx, .slice yo ys.length cy] 24)) (.cells #[.string a, .string b] 9))
    go_wp2_with fail
    refine (HS.out _ hB1).mono ?_
    rintro e w2 ⟨rfl, hb2⟩
    have hB2 := bThen hB1 hb2
    go_wp2_with fail
    go_ret
    exact ⟨rfl, hB2⟩
  · have hd : (decide (3000 < a.size) || decide (3000 < b.size)) = false := by simpa using hlong
    rw [hd] at HL
    have f0 := HK.cell 0 rfl
    have f1 := HK.cell 1 rfl
    have HK0 := Lib.hid HK
    clear hlong hd HK
    go_enter Tryz.func4, Tryz.ntmps4
    go_wp2_with fail
    refine HL.out.mono ?_
    rintro e w1 ⟨rfl, rfl⟩
    go_upto_region 3 with fail
    have hB1 := bThen HB0.out (bSelf0 (w.alloc (.cells #[.string a, .string b, .slice xo xs.length cx, .slice yo ys.length cy] 24)) (.cells #[.string a, .string b] 9))
    have hk1 := HK0.out.alloc (.cells #[.string a, .string b] 9)
    have k0_0 := hk1.cell 0 rfl
    have k0_1 := hk1.cell 1 rfl
    have k0_2 := hk1.cell 2 rfl
    have k0_3 := hk1.cell 3 rfl
    clear f0 f1 hk1 HK0
    generalize (w.alloc (.cells #[.string a, .string b, .slice xo xs.length cx, .slice yo ys.length cy] 24)).alloc (.cells #[.string a, .string b] 9) = W at *
    have q0 : Below w.heap.size w W.drew := hB1.drew
    go_region_held3 (fun w' => w'.cell? ⟨w.heap.size, 0, none⟩ = some (.string a) ∧ w'.cell? ⟨w.heap.size, 1, none⟩ = some (.string b) ∧ w'.cell? ⟨w.heap.size, 2, none⟩ = some (.slice xo xs.length cx) ∧ w'.cell? ⟨w.heap.size, 3, none⟩ = some (.slice yo ys.length cy))
      (first
        | exact ⟨k0_0, k0_1, k0_2, k0_3⟩
        | exact ⟨k1_0, k1_1, k1_2, k1_3⟩
        | exact ⟨k2_0, k2_1, k2_2, k2_3⟩
        | exact ⟨k3_0, k3_1, k3_2, k3_3⟩
        | exact ⟨k4_0, k4_1, k4_2, k4_3⟩
        | exact ⟨k5_0, k5_1, k5_2, k5_3⟩
        | exact ⟨k6_0, k6_1, k6_2, k6_3⟩
        | exact ⟨k7_0, k7_1, k7_2, k7_3⟩
        | exact ⟨k8_0, k8_1, k8_2, k8_3⟩
        | fail "nokeep")
      (first
        | (go_at_call 17; (with_reducible refine (P17.out _).mono ?_); rintro e w1 ⟨rfl, hb1⟩; have q1 := bThen q0 hb1; have k1_0 := below_cell hb1 k0_0; have k1_1 := below_cell hb1 k0_1; have k1_2 := below_cell hb1 k0_2; have k1_3 := below_cell hb1 k0_3)
        | (go_at_call 16; (with_reducible refine (C1.out _ q1).mono ?_); rintro e w2 ⟨x1, hx1, rfl, hb2⟩; have q2 := bThen q1 hb2; have k2_0 := below_cell hb2 k1_0; have k2_1 := below_cell hb2 k1_1; have k2_2 := below_cell hb2 k1_2; have k2_3 := below_cell hb2 k1_3)
        | (go_at_call 16; (with_reducible refine (C2.out _ q2).mono ?_); rintro e w3 ⟨x2, hx2, rfl, hb3⟩; have q3 := bThen q2 hb3; have k3_0 := below_cell hb3 k2_0; have k3_1 := below_cell hb3 k2_1; have k3_2 := below_cell hb3 k2_2; have k3_3 := below_cell hb3 k2_3)
        | (go_at_call 17; (with_reducible refine (t17 (numS x1) (numS x2) _ (Nat.le_trans (numS_size hx1) (by omega)) (Nat.le_trans (numS_size hx2) (by omega))).mono ?_); rintro e w4 ⟨rfl, hb4⟩; have q4 := bThen q3 hb4; have k4_0 := below_cell hb4 k3_0; have k4_1 := below_cell hb4 k3_1; have k4_2 := below_cell hb4 k3_2; have k4_3 := below_cell hb4 k3_3)
        | (go_at_call 16; (with_reducible refine (C3.out _ q4).mono ?_); rintro e w5 ⟨x3, hx3, rfl, hb5⟩; have q5 := bThen q4 hb5; have k5_0 := below_cell hb5 k4_0; have k5_1 := below_cell hb5 k4_1; have k5_2 := below_cell hb5 k4_2; have k5_3 := below_cell hb5 k4_3)
        | (go_at_call 16; (with_reducible refine (C1.out _ q5).mono ?_); rintro e w6 ⟨x4, hx4, rfl, hb6⟩; have q6 := bThen q5 hb6; have k6_0 := below_cell hb6 k5_0; have k6_1 := below_cell hb6 k5_1; have k6_2 := below_cell hb6 k5_2; have k6_3 := below_cell hb6 k5_3)
        | (go_at_call 17; (with_reducible refine (t17 (numS x3) (numS x4) _ (Nat.le_trans (numS_size hx3) (by omega)) (Nat.le_trans (numS_size hx4) (by omega))).mono ?_); rintro e w7 ⟨rfl, hb7⟩; have q7 := bThen q6 hb7; have k7_0 := below_cell hb7 k6_0; have k7_1 := below_cell hb7 k6_1; have k7_2 := below_cell hb7 k6_2; have k7_3 := below_cell hb7 k6_3)
        | (go_at_call 14; (with_reducible refine (HS.out _ q7).mono ?_); rintro e w8 ⟨rfl, hb8⟩; have q8 := bThen q7 hb8; have k8_0 := below_cell hb8 k7_0; have k8_1 := below_cell hb8 k7_1; have k8_2 := below_cell hb8 k7_2; have k8_3 := below_cell hb8 k7_3)
        | fail "noarm")
    all_goals (
      go_wp2_with fail
      go_ret
      exact ⟨rfl, q8⟩)
end Go.Proofs.YtifhiefdhhmdeaaGreatDoor
