/- A list of items as a statement's argument. -/
import Derived.Test.YtmbnckmhngijdaaGreatDoorRow
import Derived.Deep.SlicePairs
import Derived.Deep.Strs
namespace Go.Proofs.YtmbnckmhngijdaaGreatDoor
open Go Go.ChangeShapes Go.WideShapes Go.ChangeAt Go.RowKit
open Go.Deep (open_slice choose_lt trod_struct3)

instance : Inhabited Itm := ⟨⟨false, 0, []⟩⟩
theorem addr_none {W : World} {a : Addr} {u : Value} (h : W.cell? a = some u) : ∃ g off, a = ⟨g, off, none⟩ := by
  obtain ⟨g, off, spot⟩ := a
  cases spot with
  | none => exact ⟨g, off, rfl⟩
  | some x =>
    exfalso
    unfold World.cell? at h
    split at h
    · simp at h
    · cases h
theorem add_at (g j k : Nat) : (⟨g, j, none⟩ : Addr).add k = ⟨g, j + k, none⟩ := by simp [Addr.add]
theorem bulk_mem {H : Type} (l : List (DataW H)) (d : DataW H) (h : d ∈ l) : Rows.uptoBulk d ≤ Rows.uptoBulkAll l := by
  induction l with
  | nil => cases h
  | cons x l ih =>
    rcases List.mem_cons.1 h with rfl | h
    · simp only [Rows.uptoBulkAll]; omega
    · have := ih h; simp only [Rows.uptoBulkAll]; omega
set_option maxRecDepth 100000 in
theorem open_items {H : Type} {enc : TypeId × Value → H} {W : World} {base : Nat} {v : Value} {d : DataW H} {p : List MemPlace} (hv : Value.okWide Tryz.prog W .any base 22 v) (h : DataW.Trod enc Tryz.prog W 0 (fun _ => true) true 22 v d p) :
    ∃ xs : List Itm, Its W.heap.size W v xs ∧ ∀ x ∈ xs, InInt x.i ∧ x.s.length ≤ Rows.uptoBulk d := by
  obtain ⟨a0, len, cap, rfl⟩ := okWide_slice Tryz.underlying22 hv
  obtain ⟨fuel, hf⟩ := h
  have ce : Tryz.prog.cellsOf 50 = 3 := by kernel_rfl
  have c4 : Tryz.prog.cellsOf 4 = 1 := by kernel_rfl
  have c3 : Tryz.prog.cellsOf 3 = 1 := by kernel_rfl
  have c9 : Tryz.prog.cellsOf 9 = 1 := by kernel_rfl
  rcases open_slice Tryz.underlying22 hf with ⟨hcs, _⟩ | ⟨a, len', cap', m, n, D, Pl, hcs, _, hl, hm, hmm, hdx, hx⟩
  · simp [Value.cells] at hcs
    obtain ⟨rfl, rfl, rfl⟩ := hcs
    exact ⟨[], ⟨none, 0, rfl, Nat.zero_le _, fun k x hx => by simp at hx⟩, fun x hx => by cases hx⟩
  · simp [Value.cells] at hcs
    obtain ⟨rfl, rfl, rfl⟩ := hcs
    have hlm : len ≤ m := by rw [hmm]; simp; omega
    by_cases hz : len = 0
    · subst hz
      exact ⟨[], ⟨some a, cap, rfl, Nat.zero_le _, fun k x hx => by simp at hx⟩, fun x hx => by cases hx⟩
    obtain ⟨g, off, rfl⟩ : ∃ g off, a = ⟨g, off, none⟩ := by
      obtain ⟨cs', h1, h2⟩ := hx 0 (by omega)
      rw [ce] at h1
      obtain ⟨_, hlen, hcell⟩ := World.cells?_some h1
      have e0 := hcell 0 (by omega)
      rw [List.getElem?_eq_getElem (by omega), show (a.add (0 * 3)).add 0 = a by simp [Addr.add]] at e0
      exact addr_none e0
    have each : ∀ i, i < len → ∃ x : Itm, W.cell? ⟨g, off + i * 3, none⟩ = some (.bool x.t) ∧ W.cell? ⟨g, off + i * 3 + 1, none⟩ = some (.int .i64 x.i) ∧ W.cell? ⟨g, off + i * 3 + 2, none⟩ = some (.string x.str) ∧ InInt x.i ∧ x.s.length ≤ Rows.uptoBulk (D i) := by
      intro i hi
      obtain ⟨cs', h1, h2⟩ := hx i (by omega)
      rw [ce] at h1
      obtain ⟨_, hlen, hcell⟩ := World.cells?_some h1
      obtain ⟨y0, y1, y2, k, hD, _, g0, g1, g2⟩ := trod_struct3 Tryz.underlying50 h2
      match cs', hlen with
      | [v0, v1, v2], _ =>
        simp only [c4, c3, c9, List.drop_zero, List.drop_succ_cons, List.take_succ_cons, List.take_zero] at g0 g1 g2
        obtain ⟨b, hb, _⟩ := DataW.trod_bool Tryz.underlying4 g0
        obtain ⟨z, hz, _, hwf⟩ := DataW.trod_int Tryz.underlying3 g1
        obtain ⟨s, hs, hsd, _⟩ := DataW.trod_string Tryz.underlying9 g2
        simp only [List.cons.injEq, and_true] at hb hz hs
        subst hb; subst hz; subst hs
        have e0 := hcell 0 (by omega)
        have e1 := hcell 1 (by omega)
        have e2 := hcell 2 (by omega)
        simp only [add_at, Nat.add_zero] at e0 e1 e2
        have hss : Itm.str ⟨b, z, s.data.toList⟩ = s := by
          show (⟨s.data.toList.toArray⟩ : ByteArray) = s
          apply ByteArray.ext; simp
        refine ⟨⟨b, z, s.data.toList⟩, by simpa using e0, by simpa using e1, by rw [hss]; simpa using e2, int_range hwf, ?_⟩
        simp only [Prod.mk.injEq] at hD
        rw [hD.1, hsd]
        simp only [Rows.uptoBulk, Rows.uptoBulkAll]
        omega
    obtain ⟨q, hq⟩ := choose_lt each
    have hll : ((List.range len).map q).length = len := by simp
    have hdd : d = .slice ((List.range len).map D) ((List.range (m - len)).map fun j => D (len + j)) := congrArg Prod.fst hdx
    refine ⟨(List.range len).map q, ⟨some ⟨g, off, none⟩, cap, by rw [hll], by rw [hll]; have : maxLen = 9223372036854775807 := rfl; omega, fun k x hk => ?_⟩, fun x hx' => ?_⟩
    · rw [List.getElem?_map] at hk
      have hkl : k < len := by
        rcases Nat.lt_or_ge k len with h | h
        · exact h
        · rw [List.getElem?_eq_none (by simpa using h)] at hk; cases hk
      rw [List.getElem?_range hkl] at hk
      simp only [Option.map_some, Option.some.injEq] at hk
      subst hk
      obtain ⟨k0, k1, k2, _⟩ := hq k hkl
      exact ⟨g, off, rfl, World.block_lt_of_cell? W _ k0, k0, k1, k2⟩
    · obtain ⟨k, hk, rfl⟩ := List.mem_map.1 hx'
      have hkl := List.mem_range.1 hk
      obtain ⟨_, _, _, h4, h5⟩ := hq k hkl
      refine ⟨h4, Nat.le_trans h5 ?_⟩
      rw [hdd]
      have h6 := bulk_mem ((List.range len).map D) (D k) (List.mem_map.2 ⟨k, hk, rfl⟩)
      simp only [Rows.uptoBulk]
      omega
end Go.Proofs.YtmbnckmhngijdaaGreatDoor
