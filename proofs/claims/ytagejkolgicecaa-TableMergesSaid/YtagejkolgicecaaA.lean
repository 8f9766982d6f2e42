/- Small questions: none, lacks, closed, on. -/
import Derived.Test.YtagejkolgicecaaMc
namespace Go.Proofs.Ytagejkolgicecaa
open Go Go.RowKit Go.Maps
theorem zero85 (w : World) : (zeroValue 85).run Try.prog w = .ok (rowV (0, 0)) w := by kernel_rfl
theorem field0 (a p : Int) (w : World) : (Instr.field 85 (Value.agg #[.int .i64 a, .int .i64 p]) 0).run Try.prog w = .ok (.int .i64 a) w := by kernel_rfl
theorem field1 (a p : Int) (w : World) : (Instr.field 85 (Value.agg #[.int .i64 a, .int .i64 p]) 1).run Try.prog w = .ok (.int .i64 p) w := by kernel_rfl
theorem zero3 (w : World) : (zeroValue 3).run Try.prog w = .ok (numV 0) w := by kernel_rfl

theorem eqMap (m : Nat) (w : World) : (binOp BinOp.eql 65 (Value.map (some m)) (Value.map none)).run Try.prog w = .ok (.bool false) w := by kernel_rfl
theorem eqMapN (w : World) : (binOp BinOp.eql 65 (Value.map none) (Value.map none)).run Try.prog w = .ok (.bool true) w := by kernel_rfl
set_option maxRecDepth 100000 in
theorem t55 (b m : Nat) (w : World) (q0 : w.cell? ⟨b, 0, none⟩ = some (.map (some m))) : Calls Try.prog 55 #[.pointer (some ⟨b, 0, none⟩)] w fun e w' => e = .returned (.bool false) ∧ w' = w := by
  have e1 := eqMap m w
  go_enter Try.func55, Try.ntmps55
  go_wp2
  go_ret
  exact ⟨rfl, rfl⟩
set_option maxRecDepth 100000 in
theorem t55z (b : Nat) (w : World) (q0 : w.cell? ⟨b, 0, none⟩ = some (.map none)) : Calls Try.prog 55 #[.pointer (some ⟨b, 0, none⟩)] w fun e w' => e = .returned (.bool true) ∧ w' = w := by
  have e1 := eqMapN w
  go_enter Try.func55, Try.ntmps55
  go_wp2
  go_ret
  exact ⟨rfl, rfl⟩
set_option maxRecDepth 100000 in
theorem t55n (w : World) : Calls Try.prog 55 #[.pointer none] w fun e w' => e = .returned (.bool true) ∧ w' = w := by
  go_enter Try.func55, Try.ntmps55
  go_wp2
  go_ret
  exact ⟨rfl, rfl⟩
section
variable {F : Nat → Prop} {b : Nat} {S : Tb} {m0 m1 : Nat} {kv : Value}
theorem t59 (w : World) (h : Wit F w b S m0 m1 kv) {x : Int} (hx : WF x) : Calls Try.prog 59 #[.pointer (some ⟨b, 0, none⟩), .int .i64 x] w fun e w' => e = .returned (.bool (!S.has x)) ∧ Below w.heap.size w w' := by
  have q0 := h.blk.cell 0 rfl
  have hl := h.rows.look_ok Try.underlying65 (0, 0) (zero85 w) hx
  change _ = Result.ok (Value.tuple #[.agg #[.int .i64 _, .int .i64 _], .bool (S.has x)]) w at hl
  generalize S.has x = r at hl ⊢
  generalize ((S.rw x).getD (0, 0)).1 = a at hl
  generalize ((S.rw x).getD (0, 0)).2 = p at hl
  clear h hx
  go_enter Try.func59, Try.ntmps59
  go_wp2
  go_ret
  exact ⟨rfl, bSelf w _⟩
theorem t57 (w : World) (h : Wit F w b S m0 m1 kv) : Calls Try.prog 57 #[.pointer (some ⟨b, 0, none⟩)] w fun e w' => e = .returned (.bool S.closed) ∧ w' = w := by
  have q3 := h.blk.cell 3 rfl
  have q5 := h.blk.cell 5 rfl
  have hl := fun ty => h.walks.len Try.underlying67 ty
  unfold Tb.closed
  generalize S.st = st at *
  generalize S.nw = nw at *
  clear h
  go_enter Try.func57, Try.ntmps57
  cases st
  · go_wp2
    go_ret
    exact ⟨rfl, rfl⟩
  · go_wp2
    go_ret
    exact ⟨by simp, rfl⟩
theorem t67 (w : World) (h : Wit F w b S m0 m1 kv) {x : Int} (hx : WF x) : Calls Try.prog 67 #[.pointer (some ⟨b, 0, none⟩), .int .i64 x] w fun e w' => e = .returned (.bool (S.wk x).isSome) ∧ w' = w := by
  have q3 := h.blk.cell 3 rfl
  have hl := h.walks.look_ok Try.underlying67 0 (zero3 w) hx
  change _ = Result.ok (Value.tuple #[.int .i64 _, .bool _]) w at hl
  generalize (S.wk x).isSome = r at hl ⊢
  generalize ((S.wk x).getD 0) = p at hl
  clear h hx
  go_enter Try.func67, Try.ntmps67
  go_wp2
  go_ret
  exact ⟨rfl, rfl⟩
end
end Go.Proofs.Ytagejkolgicecaa
