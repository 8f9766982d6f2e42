/- Rows of pairs that begin anywhere. -/
import Derived.Test.YtagejkolgicecaaE
namespace Go.Proofs.Ytagejkolgicecaa
open Go Go.RowKit Go.Maps
def RowsO (w : World) (ao : Option Addr) (rs : List (Int × Int)) : Prop :=
  ∀ (j : Nat) (k v : Int), rs[j]? = some (k, v) → ∃ rb off, ao = some ⟨rb, off, none⟩ ∧ w.cell? ⟨rb, off + j * 2, none⟩ = some (.int .i64 k) ∧ w.cell? ⟨rb, off + j * 2 + 1, none⟩ = some (.int .i64 v)
theorem RowsO.below {w w' : World} {ao : Option Addr} {rs : List (Int × Int)} (h : RowsO w ao rs) (hb : Below w.heap.size w w') : RowsO w' ao rs := fun j k v hj => by
  obtain ⟨rb, off, h1, h2, h3⟩ := h j k v hj
  exact ⟨rb, off, h1, below_cell hb h2, below_cell hb h3⟩
theorem RowsAt.any {w : World} {ao : Option Addr} {rs : List (Int × Int)} (h : RowsAt w ao rs) : RowsO w ao rs := fun j k v hj => by
  obtain ⟨rb, h1, h2, h3⟩ := h j k v hj
  exact ⟨rb, 0, h1, by rw [Nat.zero_add]; exact h2, by rw [Nat.zero_add]; exact h3⟩
theorem RowsO.take {w : World} {ao : Option Addr} {rs : List (Int × Int)} (h : RowsO w ao rs) (n : Nat) : RowsO w ao (rs.take n) := fun j k v hj => by
  rw [List.getElem?_take] at hj
  split at hj
  · exact h j k v hj
  · cases hj
end Go.Proofs.Ytagejkolgicecaa
