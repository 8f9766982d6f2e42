/- A table that is none. -/
import Derived.Test.YtagejkolgicecaaA
namespace Go.Proofs.Ytagejkolgicecaa
open Go Go.RowKit Go.Maps
/-- p is no table, in whatever world behind w -/
def NoneT (w : World) (p : Value) : Prop := ∀ W, Below w.heap.size w W → Calls Try.prog 55 #[p] W fun e w' => e = .returned (.bool true) ∧ w' = W
theorem none_nil (w : World) : NoneT w (.pointer none) := fun W _ => t55n W
theorem none_zero (w : World) (b : Nat) (q0 : w.cell? ⟨b, 0, none⟩ = some (.map none)) : NoneT w (.pointer (some ⟨b, 0, none⟩)) := fun W hb => t55z b W (below_cell hb q0)
theorem NoneT.below {w w' : World} {p : Value} (h : NoneT w p) (hb : Below w.heap.size w w') : NoneT w' p := fun W h2 => h W (bThen hb h2)
theorem t37n (w : World) (p : Value) (on : Bool) (h : NoneT w p) : Calls Try.prog 37 #[p, .bool on] w fun e w' => e = .returned (.tuple #[]) ∧ w' = w := by
  have C := Lib.hid (h w (Below.refl _ _))
  clear h
  go_enter Try.func37, Try.ntmps37
  go_wp2_with (go_at_call 55; refine C.out.mono ?_; rintro e w' ⟨rfl, rfl⟩)
  go_end0
  exact ⟨rfl, rfl⟩
theorem t38n (w : World) (p : Value) (h : NoneT w p) : Calls Try.prog 38 #[p] w fun e w' => e = .returned (.tuple #[]) ∧ w' = w := by
  have C := Lib.hid (h w (Below.refl _ _))
  clear h
  go_enter Try.func38, Try.ntmps38
  go_wp2_with (go_at_call 55; refine C.out.mono ?_; rintro e w' ⟨rfl, rfl⟩)
  go_end0
  exact ⟨rfl, rfl⟩
theorem t28n (w : World) (p : Value) (x : Int) (h : NoneT w p) : Calls Try.prog 28 #[p, .int .i64 x] w fun e w' => e = .returned (.tuple #[.int .i64 0, .int .i64 1]) ∧ w' = w := by
  have C := Lib.hid (h w (Below.refl _ _))
  clear h
  go_enter Try.func28, Try.ntmps28
  go_wp2_with (go_at_call 55; refine C.out.mono ?_; rintro e w' ⟨rfl, rfl⟩)
  go_ret2
  exact ⟨rfl, rfl⟩
theorem t22n (w : World) (p : Value) (x : Int) (h : NoneT w p) : Calls Try.prog 22 #[p, .int .i64 x] w fun e w' => e = .returned (.tuple #[.int .i64 0, .int .i64 1]) ∧ w' = w := by
  have C := Lib.hid (h w (Below.refl _ _))
  clear h
  go_enter Try.func22, Try.ntmps22
  go_wp2_with (go_at_call 55; refine C.out.mono ?_; rintro e w' ⟨rfl, rfl⟩)
  go_ret2
  exact ⟨rfl, rfl⟩
theorem t42n (w : World) (p : Value) (x : Int) (h : NoneT w p) : Calls Try.prog 42 #[p, .int .i64 x] w fun e w' => e = .returned (.tuple #[.int .i64 0, .int .i64 1]) ∧ w' = w := by
  have C := Lib.hid (h w (Below.refl _ _))
  clear h
  go_enter Try.func42, Try.ntmps42
  go_wp2_with (go_at_call 55; refine C.out.mono ?_; rintro e w' ⟨rfl, rfl⟩)
  go_ret2
  exact ⟨rfl, rfl⟩
theorem t24n (w : World) (p : Value) (h : NoneT w p) : Calls Try.prog 24 #[p] w fun e w' => e = .returned (.tuple #[.int .i64 0, .int .i64 1]) ∧ w' = w := by
  have C := Lib.hid (h w (Below.refl _ _))
  clear h
  go_enter Try.func24, Try.ntmps24
  go_wp2_with (go_at_call 55; refine C.out.mono ?_; rintro e w' ⟨rfl, rfl⟩)
  go_ret2
  exact ⟨rfl, rfl⟩
theorem t41n (w : World) (p : Value) (x : Int) (h : NoneT w p) : Calls Try.prog 41 #[p, .int .i64 x] w fun e w' => e = .returned (.tuple #[.int .i64 0, .int .i64 0, .int .i64 1]) ∧ w' = w := by
  have C := Lib.hid (h w (Below.refl _ _))
  clear h
  go_enter Try.func41, Try.ntmps41
  go_wp2_with (go_at_call 55; refine C.out.mono ?_; rintro e w' ⟨rfl, rfl⟩)
  go_ret3
  exact ⟨rfl, rfl⟩
theorem t40n (w : World) (p : Value) (h : NoneT w p) : Calls Try.prog 40 #[p] w fun e w' => e = .returned (.tuple #[.int .i64 0, .int .i64 0, .int .i64 1]) ∧ w' = w := by
  have C := Lib.hid (h w (Below.refl _ _))
  clear h
  go_enter Try.func40, Try.ntmps40
  go_wp2_with (go_at_call 55; refine C.out.mono ?_; rintro e w' ⟨rfl, rfl⟩)
  go_ret3
  exact ⟨rfl, rfl⟩
theorem t25n (w : World) (p : Value) (x : Int) (h : NoneT w p) : Calls Try.prog 25 #[p, .int .i64 x] w fun e w' => e = .returned (.tuple #[.int .i64 0, .int .i64 0, .int .i64 1]) ∧ w' = w := by
  have C := Lib.hid (h w (Below.refl _ _))
  clear h
  go_enter Try.func25, Try.ntmps25
  go_wp2_with (go_at_call 55; refine C.out.mono ?_; rintro e w' ⟨rfl, rfl⟩)
  go_ret3
  exact ⟨rfl, rfl⟩
theorem t27n (w : World) (p : Value) (x : Int) (h : NoneT w p) : Calls Try.prog 27 #[p, .int .i64 x] w fun e w' => e = .returned (.int .i64 1) ∧ w' = w := by
  have C := Lib.hid (h w (Below.refl _ _))
  clear h
  go_enter Try.func27, Try.ntmps27
  go_wp2_with (go_at_call 55; refine C.out.mono ?_; rintro e w' ⟨rfl, rfl⟩)
  go_ret
  exact ⟨rfl, rfl⟩
theorem t23n (w : World) (p : Value) (h : NoneT w p) : Calls Try.prog 23 #[p] w fun e w' => e = .returned (.slice none 0 0) ∧ w' = w := by
  have C := Lib.hid (h w (Below.refl _ _))
  clear h
  go_enter Try.func23, Try.ntmps23
  go_wp2_with (go_at_call 55; refine C.out.mono ?_; rintro e w' ⟨rfl, rfl⟩)
  go_ret
  exact ⟨rfl, rfl⟩
theorem t43n (w : World) (p : Value) (h : NoneT w p) : Calls Try.prog 43 #[p] w fun e w' => e = .returned (.int .i64 0) ∧ w' = w := by
  have C := Lib.hid (h w (Below.refl _ _))
  clear h
  go_enter Try.func43, Try.ntmps43
  go_wp2_with (go_at_call 55; refine C.out.mono ?_; rintro e w' ⟨rfl, rfl⟩)
  go_ret
  exact ⟨rfl, rfl⟩
theorem t26n (w : World) (p : Value) (h : NoneT w p) : Calls Try.prog 26 #[p] w fun e w' => e = .returned (.bool false) ∧ w' = w := by
  have C := Lib.hid (h w (Below.refl _ _))
  clear h
  go_enter Try.func26, Try.ntmps26
  go_wp2_with (go_at_call 55; refine C.out.mono ?_; rintro e w' ⟨rfl, rfl⟩)
  go_ret
  exact ⟨rfl, rfl⟩
theorem t32n (w : World) (p : Value) (h : NoneT w p) : Calls Try.prog 32 #[p] w fun e w' => e = .returned (.pointer none) ∧ w' = w := by
  have C := Lib.hid (h w (Below.refl _ _))
  clear h
  go_enter Try.func32, Try.ntmps32
  go_wp2_with (go_at_call 55; refine C.out.mono ?_; rintro e w' ⟨rfl, rfl⟩)
  go_ret
  exact ⟨rfl, rfl⟩
theorem t65n (w : World) (p : Value) (a : Option Addr) (n c : Nat) (h : NoneT w p) : Calls Try.prog 65 #[p, .slice a n c] w fun e w' => e = .returned (.int .i64 1) ∧ w' = w := by
  have C := Lib.hid (h w (Below.refl _ _))
  clear h
  go_enter Try.func65, Try.ntmps65
  go_wp2_with (go_at_call 55; refine C.out.mono ?_; rintro e w' ⟨rfl, rfl⟩)
  go_ret
  exact ⟨rfl, rfl⟩
theorem t39n (w : World) (p : Value) (h : NoneT w p) : Calls Try.prog 39 #[p] w fun e w' => e = .returned (.tuple #[.int .i64 0, .int .i64 0, .int .i64 1]) ∧ w' = w := by
  have C := Lib.hid (t41n w p 0 h)
  clear h
  go_enter Try.func39, Try.ntmps39
  go_wp2_with (go_at_call 41; refine C.out.mono ?_; rintro e w' ⟨rfl, rfl⟩)
  go_ret3
  exact ⟨rfl, rfl⟩
theorem t21n (w : World) (p : Value) (x y : Int) (h : NoneT w p) : Calls Try.prog 21 #[p, .int .i64 x, .int .i64 y] w fun e w' => e = .returned (.int .i64 1) ∧ Below w.heap.size w w' := by
  have C := Lib.hid (t65n (w.alloc (.cells #[.int .i64 x, .int .i64 y] 42)) p (some ⟨w.heap.size, 0, none⟩) 1 1 (h.below (bSelf _ _)))
  clear h
  go_enter Try.func21, Try.ntmps21
  go_wp2_with (go_at_call 65; refine C.out.mono ?_; rintro e w' ⟨rfl, rfl⟩)
  go_ret
  exact ⟨rfl, bSelf w _⟩
set_option maxRecDepth 100000 in
theorem t54n (w : World) : Calls Try.prog 54 #[.slice none 0 0] w fun e w' => ∃ m, e = .returned (.tuple #[.map (some m), .bool true]) ∧ Below w.heap.size w w' := by
  have hl : ∀ ty, (Builtin.len_ #[67] ty #[.map (some w.heap.size)]).run Try.prog (w.alloc (.map #[] 0)) = .ok (.int .i64 (0 : Nat)) (w.alloc (.map #[] 0)) := fun ty => (IMap.made w numK).len Try.underlying67 ty
  have hmm := @run_makeMap Try.prog
  go_enter Try.func54, Try.ntmps54
  go_wp2_with fail
  go_loopw [13] (fun i wr => i = .int .i64 0 ∧ wr = w.alloc (.map #[] 0)) (fun _ _ => 0)
  case atStart => exact ⟨rfl, rfl⟩
  case round =>
    obtain ⟨rfl, rfl⟩ := hrel
    go_wp2
    go_ret2
    exact ⟨w.heap.size, rfl, bSelf w _⟩
set_option maxRecDepth 100000 in
theorem t17n (w : World) (ap : Option Addr) (h : NoneT w (.pointer ap)) : Calls Try.prog 17 #[.pointer ap, .slice none 0 0] w fun e w' => e = .returned (.int .i64 1) ∧ Below w.heap.size w w' := by
  have H := Lib.hid h
  clear h
  go_enter Try.func17, Try.ntmps17
  go_wp2_with fail
  refine (t54n _).mono ?_
  rintro e w1 ⟨m, rfl, hb1⟩
  have hc := (blkDown (Blk.new w #[.pointer ap] 23) hb1).cell 0 rfl
  have HB := Lib.hid (bThen (bSelf w (.cells #[.pointer ap] 23)) hb1)
  clear hb1
  go_wp2_with (go_at_call 55; refine (H.out _ HB.out).mono ?_; rintro e w' ⟨rfl, rfl⟩)
  go_ret
  exact ⟨rfl, HB.out⟩
end Go.Proofs.Ytagejkolgicecaa
