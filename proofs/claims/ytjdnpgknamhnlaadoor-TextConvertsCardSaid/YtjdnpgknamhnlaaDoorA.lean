/- Contracts of the encodings' closures. -/
import Derived.WalkKit
import Derived.WalkLawsBesides
import Derived.WalkSpells
import Derived.Outline
import Derived.Lib.Hide
import Derived.BigQuiet
import Derived.Deep.QuietTactic
import Derived.Lib.SlBytesConst
import Derived.RangeFuncBox
import Derived.IntWalk
import Derived.Laws.EntriesVeiled
import Derived.Test.YtjdnpgknamhnlaaDoorProg
namespace Go.Proofs.YtjdnpgknamhnlaaDoor
open Go Go.RowKit

theorem wb (b : UInt8) : wrap64 (b.toNat : Int) = b.toNat := by
  have := b.toNat_lt; unfold wrap64; omega
theorem wbu (n : Int) (h : 0 ≤ n ∧ n < 256) : IntKind.u8.wrap n = n := by
  rw [IntKind.wrap_u8]; omega

theorem c81 (s : ByteArray) (w : World) :
    Calls Tryd.prog 81 #[.string s] w fun e w' => e = .returned (.bool true) ∧ w = w' := by
  go_enter Tryd.func81, Tryd.ntmps81
  go_wp2
  go_ret
  exact ⟨rfl, rfl⟩

/-- the code of a byte below a limit, else -1 -/
def bcode (lim : Nat) (b : UInt8) : Int := if b.toNat < lim then b.toNat else -1

theorem c82 (s : ByteArray) (a : Addr) (lim : Nat) (w : World) (hc : w.cell? a = some (.int .i64 lim)) (h0 : 0 < s.size) :
    Calls Tryd.prog 82 #[.string s, .pointer (some a)] w fun e w' => e = .returned (.tuple #[.int .i64 1, .int .i64 (bcode lim (s[0]'h0))]) ∧ w = w' := by
  have hw := wb (s[0]'h0)
  unfold bcode
  by_cases hlt : (s[0]'h0).toNat < lim
  all_goals
    go_enter Tryd.func82, Tryd.ntmps82
    go_wp2
    go_ret2
    simp
theorem c83_no (c : Int) (a : Addr) (lim : Nat) (w : World) (hc : w.cell? a = some (.int .i64 lim)) (h : c < 0 ∨ (lim : Int) ≤ c) :
    Calls Tryd.prog 83 #[.int .i64 c, .pointer (some a)] w fun e w' => e = .returned (.tuple #[.string ⟨#[]⟩, .bool false]) ∧ Below w.heap.size w w' := by
  by_cases h0 : c < 0
  · go_enter Tryd.func83, Tryd.ntmps83
    go_wp2
    go_ret2
    exact ⟨rfl, Below.refl _ _⟩
  · have h1 : (lim : Int) ≤ c := by omega
    go_enter Tryd.func83, Tryd.ntmps83
    go_wp2
    go_ret2
    exact ⟨rfl, Below.refl _ _⟩
set_option maxRecDepth 100000 in
theorem c83_yes (c : Int) (a : Addr) (lim : Nat) (w : World) (hc : w.cell? a = some (.int .i64 lim)) (h0 : 0 ≤ c) (h1 : c < (lim : Int)) (hl : lim ≤ 256) :
    Calls Tryd.prog 83 #[.int .i64 c, .pointer (some a)] w fun e w' => e = .returned (.tuple #[.string ⟨#[UInt8.ofNat c.toNat]⟩, .bool true]) ∧ Below w.heap.size w w' := by
  have hw := wbu c (by omega)
  have h0' : ¬ c < 0 := by omega
  have h1' : ¬ (lim : Int) ≤ c := by omega
  have hcv : (convert 58 9 (.slice (some ⟨w.heap.size, 0, none⟩) 1 1)).run Tryd.prog (w.alloc (.cells #[.int .u8 c] 5)) = .ok (.string ⟨#[UInt8.ofNat c.toNat]⟩) (w.alloc (.cells #[.int .u8 c] 5)) := by
    rw [run_convert_bytes_string _ 58 9 5 _ _ _ Tryd.underlying58 Tryd.underlying5 Tryd.underlying9, run_bytesToString _ _ _ _ [c] (by simp [loadCells, loadCellsFrom, go_sem])]
    rfl
  go_enter Tryd.func83, Tryd.ntmps83
  go_wp2_with fail
  go_ret2
  exact ⟨rfl, (Below.refl _ _).alloc (Nat.le_refl _) _⟩
theorem c60 (c1 c2 c3 : Value) (s : ByteArray) (w : World) :
    Calls Tryd.prog 60 #[.agg #[c1, c2, c3], .string s] w fun e w' => e = .returned (.func (.func 78) #[] #[.pointer (some ⟨w.heap.size + 1, 0, none⟩), .pointer (some ⟨w.heap.size, 0, none⟩)]) ∧ w' = (w.alloc (.cells #[c1, c2, c3] 64)).alloc (.cells #[.string s] 9) := by
  go_enter Tryd.func60, Tryd.ntmps60
  go_wp2
  go_ret
  exact ⟨rfl, rfl⟩
theorem c68 (n : Int) (w : World) :
    Calls Tryd.prog 68 #[.int .i64 n] w fun e w' => e = .returned (.agg #[.func (.func 81) #[] #[], .func (.func 82) #[] #[.pointer (some ⟨w.heap.size, 0, none⟩)], .func (.func 83) #[] #[.pointer (some ⟨w.heap.size, 0, none⟩)]]) ∧ Below w.heap.size w w' ∧ w'.cell? ⟨w.heap.size, 0, none⟩ = some (.int .i64 n) ∧ w.heap.size < w'.heap.size := by
  have hmf : ∀ (fn : Fn) (first cap : Array Value) (w : World), (Instr.makeFunc fn first cap).run Tryd.prog w = .ok (.func fn first cap) w := fun _ _ _ _ => rfl
  go_enter Tryd.func68, Tryd.ntmps68
  go_wp2
  refine bodyPost_ret (v := .agg #[.func (.func 81) #[] #[], .func (.func 82) #[] #[.pointer (some ⟨w.heap.size, 0, none⟩)], .func (.func 83) #[] #[.pointer (some ⟨w.heap.size, 0, none⟩)]]) (by simp [results, Tryd.results68, go_sem]) rfl ⟨rfl, ?_, ?_, ?_⟩
  · exact ((Below.refl _ _).alloc (Nat.le_refl _) _).alloc (by simp) _
  · simp [go_sem]
  · simp; omega
end Go.Proofs.YtjdnpgknamhnlaaDoor
