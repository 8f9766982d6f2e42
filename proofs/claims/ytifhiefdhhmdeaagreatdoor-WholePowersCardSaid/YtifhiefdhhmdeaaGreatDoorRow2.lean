/- What a statement's card takes besides Row where its argument is a struct of slices, strings and numbers. -/
import Derived.Test.YtifhiefdhhmdeaaGreatDoorRow
namespace Go.Proofs.YtifhiefdhhmdeaaGreatDoor
open Go Go.ChangeShapes Go.WideShapes Go.ChangeAt Go.RowKit
open Go.Deep (oneCellFields hone_of)
set_option maxRecDepth 100000 in
theorem open_list1 {H : Type} {enc : TypeId × Value → H} {W : World} {v : Value} {y : DataW H × List MemPlace} {fuel : Nat} (hf : DataW.trod enc Tryz.prog W 0 (fun _ => true) true fuel 22 [v] = some y) :
    ∃ xs : List Int, IntsRead W v xs ∧ xs.length ≤ 9223372036854775807 ∧ ∀ x ∈ xs, InInt x := by
  rcases open_ints Tryz.underlying22 Tryz.underlying3 cells3 hf with ⟨hcs, _⟩ | ⟨a, len', cap', zs, hcs, _, hl, hm, hz, _, hcell, hwf⟩
  · simp only [List.cons.injEq, and_true] at hcs
    subst hcs
    exact ⟨[], intsRead_nil W, Nat.zero_le _, fun x hx => by cases hx⟩
  · simp only [List.cons.injEq, and_true] at hcs
    subst hcs
    have hz' : zs.length = cap' := by simpa using hz
    have hlen : (zs.take len').length = len' := by rw [List.length_take]; omega
    refine ⟨zs.take len', ⟨some a, cap', by rw [hlen], fun k hk => ?_⟩, ?_, fun x hx => int_range (hwf x (List.mem_of_mem_take hx))⟩
    · rw [hlen] at hk
      have hc := hcell k (by omega)
      have hg : zs.getD k 0 = (zs.take len')[k]'(by rw [hlen]; exact hk) := by rw [List.getElem_take, List.getD_eq_getElem?_getD, List.getElem?_eq_getElem (by omega)]; rfl
      rw [hg] at hc
      obtain ⟨g, off, spot⟩ := a
      cases spot with
      | none =>
        have e1 : (⟨g, off, none⟩ : Addr).add k = ⟨g, off + k, none⟩ := by
          unfold Addr.add
          split
          · next h => subst h; rfl
          · rfl
        rw [e1] at hc
        exact ⟨g, off, rfl, World.block_lt_of_cell? W ⟨g, off + k, none⟩ hc, hc⟩
      | some x =>
        exfalso
        have h0 := hcell 0 (by omega)
        unfold World.cell? at h0
        split at h0
        · simp [Addr.add] at h0
        · cases h0
    · rw [hlen]
      have : maxLen = 9223372036854775807 := rfl
      omega
theorem array5 {α : Type} {cs : Array α} (h : cs.size = 5) : ∃ c0 c1 c2 c3 c4, cs = #[c0, c1, c2, c3, c4] := by
  obtain ⟨l⟩ := cs
  match l, h with
  | [c0, c1, c2, c3, c4], _ => exact ⟨c0, c1, c2, c3, c4, rfl⟩
theorem array7 {α : Type} {cs : Array α} (h : cs.size = 7) : ∃ c0 c1 c2 c3 c4 c5 c6, cs = #[c0, c1, c2, c3, c4, c5, c6] := by
  obtain ⟨l⟩ := cs
  match l, h with
  | [c0, c1, c2, c3, c4, c5, c6], _ => exact ⟨c0, c1, c2, c3, c4, c5, c6, rfl⟩
section
variable {H : Type} {enc : TypeId × Value → H} {P : Program} {w : World} {base : Nat} {spare : Nat → Bool} {held : Bool}
/-- One cell of a struct by value whose fields have a cell each. -/
theorem field_at {t : TypeId} {fs : Array Field} {cs : Array Value} {fuel : Nat} {x : DataW H × List MemPlace} (hs : P.underlying t = some (.struct fs)) (hone : oneCellFields P fs = true)
    (hf : DataW.trod enc P w base spare held fuel t cs.toList = some x) (i : Nat) (f : Field) (hi : fs[i]? = some f) (v : Value) (hv : cs.toList[i]? = some v) : ∃ n y, DataW.trod enc P w base spare held n f.type [v] = some y := by
  obtain ⟨xs, n, _, _, _, hlen, hx⟩ := DataW.trod_struct hs hf
  obtain ⟨o, k⟩ := hone_of hone i f hi
  have h1 := hx i f hi
  have hlt : i < xs.length := by
    rw [hlen]
    rcases Nat.lt_or_ge i fs.size with h | h
    · exact h
    · rw [Array.getElem?_eq_none h] at hi; cases hi
  rw [o, k, List.getElem?_eq_getElem hlt] at h1
  have h2 : (cs.toList.drop i).take 1 = [v] := by
    have hl : i < cs.toList.length := by
      rcases Nat.lt_or_ge i cs.toList.length with h | h
      · exact h
      · rw [List.getElem?_eq_none h] at hv; cases hv
    rw [List.drop_eq_getElem_cons hl]
    rw [List.getElem?_eq_getElem hl] at hv
    simp [Option.some.inj hv]
  rw [h2] at h1
  exact ⟨n, _, h1⟩
theorem open_S {r : Reach} {b0 : Nat} {t : TypeId} {fs : Array Field} {v : Value} {d : DataW H} {p : List MemPlace} (hs : P.underlying t = some (.struct fs)) (hone : oneCellFields P fs = true)
    (hv : Value.okWide P w r b0 t v) (h : DataW.Trod enc P w base spare held t v d p) :
    ∃ cs : Array Value, v = .agg cs ∧ cs.size = P.cellsOf t ∧ ∀ (i : Nat) (f : Field) (c : Value), fs[i]? = some f → cs.toList[i]? = some c → ∃ n y, DataW.trod enc P w base spare held n f.type [c] = some y := by
  obtain ⟨cs, rfl, hsz⟩ := okWide_struct hs hv
  obtain ⟨fuel, hf⟩ := h
  exact ⟨cs, rfl, hsz, fun i f c hi hc => field_at hs hone hf i f hi c hc⟩
end
end Go.Proofs.YtifhiefdhhmdeaaGreatDoor
