/- An argument that is a list of ints: opened to what it reads as. -/
import Derived.Test.YtojkkgmfccchbaaRow2
import Derived.Test.YtojkkgmfccchbaaR
namespace Go.Proofs.Ytojkkgmfccchbaa
open Go Go.ChangeShapes Go.WideShapes Go.ChangeAt Go.RowKit

set_option maxRecDepth 100000 in
theorem open_list {H : Type} {enc : TypeId × Value → H} {W : World} {base : Nat} {v : Value} {d : DataW H} {p : List MemPlace} (hv : Value.okWide Try.prog W .any base 22 v) (h : DataW.Trod enc Try.prog W 0 (fun _ => true) true 22 v d p) :
    ∃ xs : List Int, LR W v xs := by
  obtain ⟨a0, len, cap, rfl⟩ := okWide_slice Try.underlying22 hv
  obtain ⟨fuel, hf⟩ := h
  rcases open_ints Try.underlying22 Try.underlying3 cells3 hf with ⟨hcs, _⟩ | ⟨a, len', cap', zs, hcs, _, hl, hm, hz, _, hcell, hwf⟩
  · simp [Value.cells] at hcs
    obtain ⟨rfl, rfl, rfl⟩ := hcs
    exact ⟨[], none, 0, rfl, Nat.zero_le _, fun k x hk => by simp at hk⟩
  · simp [Value.cells] at hcs
    obtain ⟨rfl, rfl, rfl⟩ := hcs
    have hz' : zs.length = cap := by simpa using hz
    have hlen : (zs.take len).length = len := by rw [List.length_take]; omega
    have h9 : cap ≤ 9223372036854775807 := hm
    refine ⟨zs.take len, some a, cap, by rw [hlen], by omega, fun k x hk => ?_⟩
    have hkl : k < len := by
      rcases Nat.lt_or_ge k len with h | h
      · exact h
      · rw [List.getElem?_eq_none (by omega)] at hk; cases hk
    have hc := hcell k (by omega)
    have hg : zs.getD k 0 = x := by
      rw [List.getElem?_take] at hk
      rw [if_pos hkl] at hk
      rw [List.getD_eq_getElem?_getD, hk]; rfl
    rw [hg] at hc
    obtain ⟨g, off, spot⟩ := a
    cases spot with
    | none =>
      have e1 : (⟨g, off, none⟩ : Addr).add k = ⟨g, off + k, none⟩ := by
        unfold Addr.add
        split
        · next h => subst h; rfl
        · rfl
      rw [e1] at hc
      exact ⟨g, off, rfl, World.block_lt_of_cell? W ⟨g, off + k, none⟩ hc, hc⟩
    | some q =>
      exfalso
      have h0 := hcell 0 (by omega)
      unfold World.cell? at h0
      split at h0
      · simp [Addr.add] at h0
      · cases h0
end Go.Proofs.Ytojkkgmfccchbaa
