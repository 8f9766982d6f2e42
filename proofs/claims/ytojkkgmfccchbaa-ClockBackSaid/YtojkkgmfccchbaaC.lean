/- Contracts of daysTo, secondsTo, Valid. -/
import Derived.Test.YtojkkgmfccchbaaB
namespace Go.Proofs.Ytojkkgmfccchbaa
open Go Go.RowKit

abbrev DV (y m d h mi s : Int) : Value := .agg #[.int .i64 y, .int .i64 m, .int .i64 d, .int .i64 h, .int .i64 mi, .int .i64 s]
theorem bcell {W w1 : World} (hb : Below W.heap.size W w1) : (∀ b o, b < W.heap.size → w1.cell? ⟨b, o, none⟩ = W.cell? ⟨b, o, none⟩) ∧ (∀ b o, b < W.heap.size → w1.frozen? ⟨b, o, none⟩ = W.frozen? ⟨b, o, none⟩) :=
  ⟨fun b o h => hb.cell (p := ⟨b, o, none⟩) h, fun b o h => hb.frozen (p := ⟨b, o, none⟩) h⟩
theorem below_drewN {B : Nat} {a w : World} (h : Below B a w) (n : Nat) : Below B a (w.drewN n) := ⟨h.os, h.tape, h.output, h.size, h.block⟩
theorem quiet_left {P : Program} {f : FuncId} {args : Array Value} {w : World} {n : Nat} {v : Value}
    (h : Calls P f args (w.drewN n) fun e w' => e = .returned v ∧ w.drewN n = w') : Calls P f args (w.drewN n) fun e w' => e = .returned v ∧ ∃ m, w' = w.drewN m :=
  h.mono fun _ _ ⟨he, hw⟩ => ⟨he, n, hw.symm⟩
theorem quiet_more {P : Program} {f : FuncId} {args : Array Value} {w : World} {n : Nat} {v : Value}
    (h : Calls P f args (w.drewN n) fun e w' => e = .returned v ∧ ∃ k, w' = (w.drewN n).drewN k) : Calls P f args (w.drewN n) fun e w' => e = .returned v ∧ ∃ m, w' = w.drewN m :=
  h.mono fun _ _ ⟨he, k, hw⟩ => ⟨he, n + k, hw.trans (World.drewN_drewN _ _ _)⟩
set_option maxHeartbeats 1000000 in
theorem t69 (y m d h mi s : Int) (w : World) (h1 : -100000 ≤ y) (h2 : y ≤ 100000) (v : IsD y m d) :
    Calls Try.prog 69 #[DV y m d h mi s] w fun e w' => e = .returned (.int .i64 (num y m d)) ∧ Below w.heap.size w w' := by
  obtain ⟨v1, v2, v3, v4⟩ := v
  have b := dby_bd y h1 h2
  have db := dim_cases y m
  have e0 := cum_one y
  go_enter Try.func69, Try.ntmps69
  go_wp2
  go_quiet ((go_at_call 70; exact quiet_more (t70 _ _ (by omega) (by omega))))
  go_wp2_with fail
  go_loop [3, 4] (fun a k => ∃ j : Int, 1 ≤ j ∧ j ≤ m ∧ k = .int .i64 j ∧ a = .int .i64 (dby y + d - 1 + cum y j)) (fun _ k => (20 - intOf k).toNat)
  case atStart => exact ⟨1, by omega, by omega, rfl, by rw [e0, Int.add_zero]⟩
  case round =>
    obtain ⟨j, hj1, hj2, rfl, rfl⟩ := hrel
    have cb := cum_bd y j
    have dj := dim_cases y j
    have cs := cum_succ y j hj1 (by omega)
    clear e0
    by_cases hlt : j < m
    · have CS := Lib.hid cs
      clear cs
      go_wp2_with (go_at_call 43; (with_reducible refine (t43 _ _ _).mono ?_); rintro e w' ⟨rfl, rfl⟩)
      go_round
      case rel => exact ⟨j + 1, by omega, by omega, rfl, by rw [CS.out, Int.add_assoc (dby y + d - 1)]⟩
      case measure => simp [intOf]; omega
    · obtain rfl : j = m := by omega
      clear cs
      go_wp2
      go_ret
      exact ⟨ret_int (by unfold num; omega), below_drewN (bSelf _ _) _⟩
/-- the seconds of a date -/
theorem t38 (y m d h mi s : Int) (w : World) (h1 : -100000 ≤ y) (h2 : y ≤ 100000) (v : IsD y m d) (b1 : 0 ≤ h) (b2 : h ≤ 23) (b3 : 0 ≤ mi) (b4 : mi ≤ 59) (b5 : 0 ≤ s) (b6 : s ≤ 59) :
    Calls Try.prog 38 #[DV y m d h mi s] w fun e w' => e = .returned (.int .i64 (sec y m d h mi s)) ∧ Below w.heap.size w w' := by
  have b := dby_bd y h1 h2
  have db := dim_cases y m
  have cb := cum_bd y m
  have hn : -37000000 ≤ num y m d ∧ num y m d ≤ 37000000 := by
    obtain ⟨v1, v2, v3, v4⟩ := v
    unfold num; omega
  have c69 := t69 y m d h mi s
  have C := Lib.hid (fun w => c69 w h1 h2 v)
  clear c69 v
  have E : sec y m d h mi s = (((num y m d - 719528) * 24 + h) * 60 + mi) * 60 + s := by unfold sec; omega
  rw [E]
  clear E
  go_enter Try.func38, Try.ntmps38
  go_wp2_with fail
  refine (C.out _).mono ?_
  rintro e w2 ⟨rfl, hb⟩
  obtain ⟨hc, hf⟩ := bcell hb
  have hb2 := (bSelf _ _).trans (hb.mono (by simp))
  go_wp2
  go_ret
  exact ⟨rfl, hb2⟩
theorem vld_inB (y m d h mi s : Int) : vldB y m d h mi s = ((((((inB y (-2000) 6000 && inB m 1 12) && inB d 1 (dim y m)) && inB h 0 23) && inB mi 0 59)) && inB s 0 59) := by
  unfold vldB inB
  simp only [Bool.decide_and, Bool.and_assoc]
set_option maxRecDepth 100000 in
set_option maxHeartbeats 1000000 in
theorem t37 (y m d h mi s : Int) (w : World) : Calls Try.prog 37 #[DV y m d h mi s] w fun e w' => e = .returned (.bool (vldB y m d h mi s)) ∧ Below w.heap.size w w' := by
  rw [vld_inB]
  have c42 := t42 y m
  have c2 := t66 d 1 (dim y m)
  have c3 := t66 h 0 23
  have c4 := t66 mi 0 59
  have c5 := t66 s 0 59
  generalize (inB y (-2000) 6000 && inB m 1 12) = b1 at c42 ⊢
  generalize inB d 1 (dim y m) = b2 at c2 ⊢
  generalize inB h 0 23 = b3 at c3 ⊢
  generalize inB mi 0 59 = b4 at c4 ⊢
  generalize inB s 0 59 = b5 at c5 ⊢
  cases b1
  rotate_left
  cases b2
  rotate_left
  cases b3
  rotate_left
  cases b4
  all_goals
    have C42 := Lib.hid c42
    have C2 := Lib.hid c2
    have C3 := Lib.hid c3
    have C4 := Lib.hid c4
    have C5 := Lib.hid c5
    clear c42 c2 c3 c4 c5
    go_enter Try.func37, Try.ntmps37
    go_wp2
    go_quiet (first | ((go_at_call 42; exact quiet_left (C42.out _))) | ((go_at_call 43; exact quiet_left (t43 _ _ _))) | ((go_at_call 66; first | (with_reducible exact quiet_left (C2.out _)) | (with_reducible exact quiet_left (C3.out _)) | (with_reducible exact quiet_left (C4.out _)) | (with_reducible exact quiet_left (C5.out _)))))
    go_wp2
    go_ret
    exact ⟨rfl, below_drewN (bSelf _ _) _⟩
end Go.Proofs.Ytojkkgmfccchbaa
