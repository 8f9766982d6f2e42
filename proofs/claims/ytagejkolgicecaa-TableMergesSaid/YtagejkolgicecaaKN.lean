/- What a table that is none is asked together with another. -/
import Derived.Test.YtagejkolgicecaaK
import Derived.Test.YtagejkolgicecaaKR
namespace Go.Proofs.Ytagejkolgicecaa
open Go Go.RowKit Go.Maps
theorem t69e (a a' : Option Addr) (c c' : Nat) (w : World) : Calls Try.prog 69 #[.slice a 0 c, .slice a' 0 c'] w fun e w' => e = .returned (.bool true) ∧ w' = w := by
  go_enter Try.func69, Try.ntmps69
  go_wp2_with fail
  go_loopw [13] (fun i wr => i = .int .i64 0 ∧ wr = w) (fun _ _ => 0)
  case atStart => exact ⟨rfl, rfl⟩
  case round =>
    obtain ⟨rfl, rfl⟩ := hrel
    go_wp2
    go_ret
    exact ⟨rfl, rfl⟩
theorem rows_new (F : Nat → Prop) (w : World) (b : Nat) (h : Tab F w b Tb.new) : Calls Try.prog 23 #[.pointer (some ⟨b, 0, none⟩)] w fun e w' => (∃ a c, e = .returned (.slice a 0 c)) ∧ Below w.heap.size w w' := by
  obtain ⟨hO, m0, m1, kv, hW⟩ := h
  refine (t23 w hO hW).mono ?_
  rintro e w' ⟨v, rfl, hP, hB, _⟩
  obtain ⟨ao, cap, rfl, _⟩ := hP.read
  exact ⟨⟨ao, cap, rfl⟩, hB⟩
theorem t34n (w : World) (p q : Value) (h : NoneT w p) (h' : NoneT w q) : Calls Try.prog 34 #[p, q] w fun e w' => e = .returned (.bool true) ∧ w' = w := by
  have C := Lib.hid (t23n w p h)
  have C' := Lib.hid (t23n w q h')
  have D := Lib.hid (t69e none none 0 0 w)
  clear h h'
  go_enter Try.func34, Try.ntmps34
  go_wp2_with fail
  refine C.out.mono ?_
  rintro e w1 ⟨rfl, rfl⟩
  go_wp2_with fail
  refine C'.out.mono ?_
  rintro e w1 ⟨rfl, rfl⟩
  go_wp2_with fail
  refine D.out.mono ?_
  rintro e w1 ⟨rfl, rfl⟩
  go_wp2
  go_ret
  exact ⟨rfl, rfl⟩
theorem t34m (F : Nat → Prop) (w : World) (p : Value) (h : NoneT w p) (b : Nat) (hb : Tab F w b Tb.new) : Calls Try.prog 34 #[p, .pointer (some ⟨b, 0, none⟩)] w fun e w' => e = .returned (.bool true) ∧ Below w.heap.size w w' := by
  have C := Lib.hid (t23n w p h)
  have C' := Lib.hid (rows_new F w b hb)
  clear h hb
  go_enter Try.func34, Try.ntmps34
  go_wp2_with fail
  refine C.out.mono ?_
  rintro e w1 ⟨rfl, rfl⟩
  go_wp2_with fail
  refine C'.out.mono ?_
  rintro e w2 ⟨⟨a, c, rfl⟩, hb⟩
  have HB := Lib.hid hb
  clear hb
  go_wp2_with fail
  refine (t69e none a 0 c w2).mono ?_
  rintro e w3 ⟨rfl, rfl⟩
  go_wp2
  go_ret
  exact ⟨rfl, HB.out⟩
theorem t29n (F : Nat → Prop) (w : World) (p : Value) (h : NoneT w p) (b : Nat) (hb : Tab F w b Tb.new) : Calls Try.prog 29 #[p, .pointer (some ⟨b, 0, none⟩)] w fun e w' => e = .returned (.int .i64 1) ∧ Below w.heap.size w w' := by
  have H := Lib.hid h
  have C' := Lib.hid (rows_new F w b hb)
  clear h hb
  go_enter Try.func29, Try.ntmps29
  go_wp2_with fail
  refine C'.out.mono ?_
  rintro e w2 ⟨⟨a, c, rfl⟩, hb⟩
  have HB := Lib.hid hb
  clear hb
  go_wp2_with fail
  refine (t65n w2 p a 0 c (H.out.below HB.out)).mono ?_
  rintro e w3 ⟨rfl, rfl⟩
  go_wp2
  go_ret
  exact ⟨rfl, HB.out⟩
end Go.Proofs.Ytagejkolgicecaa
