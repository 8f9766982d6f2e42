/- Lists of deeds, with their pairs, and lists of pairs, as a statement's arguments. -/
import Derived.Test.YtagejkolgicecaaRow
import Derived.Test.YtagejkolgicecaaPG
import Derived.Deep.Slices
namespace Go.Proofs.Ytagejkolgicecaa
open Go Go.ChangeShapes Go.WideShapes Go.ChangeAt Go.RowKit
open Go.Deep (open_slice choose_lt)
theorem addr_none {W : World} {a : Addr} {u : Value} (h : W.cell? a = some u) : ∃ g off, a = ⟨g, off, none⟩ := by
  obtain ⟨g, off, spot⟩ := a
  cases spot with
  | none => exact ⟨g, off, rfl⟩
  | some x =>
    exfalso
    unfold World.cell? at h
    split at h
    · simp at h
    · cases h
theorem add_at (g j k : Nat) : (⟨g, j, none⟩ : Addr).add k = ⟨g, j + k, none⟩ := by simp [Addr.add]
set_option maxRecDepth 100000 in
theorem open_prs {H : Type} {enc : TypeId × Value → H} {W : World} {fuel : Nat} {cs : List Value} {x : DataW H × List MemPlace} (hf : DataW.trod enc Try.prog W 0 (fun _ => true) true fuel 30 cs = some x) :
    ∃ (ao : Option Addr) (cap : Nat) (ps : List (Int × Int)), cs = [.slice ao ps.length cap] ∧ RowsO W ao ps ∧ ps.length ≤ cap ∧ cap ≤ maxLen ∧ (∀ p ∈ ps, WF p.1 ∧ WF p.2) ∧ (∀ rb off, ao = some ⟨rb, off, none⟩ → 0 < ps.length → rb < W.heap.size) := by
  have ce : Try.prog.cellsOf 42 = 2 := by kernel_rfl
  have c3 : Try.prog.cellsOf 3 = 1 := by kernel_rfl
  rcases open_slice Try.underlying30 hf with ⟨rfl, _⟩ | ⟨a, len, cap, m, n, D, Pl, rfl, _, hl, hm, hmm, hdx, hx⟩
  · exact ⟨none, 0, [], rfl, fun k x y hx => by simp at hx, Nat.le_refl _, by unfold maxLen; omega, by simp, fun rb off e => by cases e⟩
  · have hlm : len ≤ m := by rw [hmm]; simp; omega
    by_cases hz : len = 0
    · subst hz
      exact ⟨some a, cap, [], rfl, fun k x y hx => by simp at hx, Nat.zero_le _, hm, by simp, fun rb off e h => by simp at h⟩
    obtain ⟨g, off, rfl⟩ : ∃ g off, a = ⟨g, off, none⟩ := by
      obtain ⟨cs', h1, h2⟩ := hx 0 (by omega)
      rw [ce] at h1
      obtain ⟨_, hlen, hcell⟩ := World.cells?_some h1
      have e0 := hcell 0 (by omega)
      rw [List.getElem?_eq_getElem (by omega), show (a.add (0 * 2)).add 0 = a by simp [Addr.add]] at e0
      exact addr_none e0
    have each : ∀ i, i < len → ∃ x : Int × Int, W.cell? ⟨g, off + i * 2, none⟩ = some (.int .i64 x.1) ∧ W.cell? ⟨g, off + i * 2 + 1, none⟩ = some (.int .i64 x.2) ∧ WF x.1 ∧ WF x.2 := by
      intro i hi
      obtain ⟨cs', h1, h2⟩ := hx i (by omega)
      rw [ce] at h1
      obtain ⟨_, hlen, hcell⟩ := World.cells?_some h1
      obtain ⟨xs, k, _, _, _, hxl, hfs⟩ := DataW.trod_array Try.underlying42 h2
      match cs', hlen, xs, hxl with
      | [v0, v1], _, [y0, y1], _ =>
        have g0 := hfs 0 (by omega)
        have g1 := hfs 1 (by omega)
        simp [c3] at g0 g1
        obtain ⟨z0, hz0, _, w0⟩ := DataW.trod_int Try.underlying3 g0
        obtain ⟨z1, hz1, _, w1⟩ := DataW.trod_int Try.underlying3 g1
        simp only [List.cons.injEq, and_true] at hz0 hz1
        subst hz0; subst hz1
        have e0 := hcell 0 (by omega)
        have e1 := hcell 1 (by omega)
        simp only [add_at, Nat.add_zero] at e0 e1
        exact ⟨(z0, z1), by simpa using e0, by simpa using e1, w0, w1⟩
    obtain ⟨q, hq⟩ := choose_lt each
    have hll : ((List.range len).map q).length = len := by simp
    refine ⟨some ⟨g, off, none⟩, cap, (List.range len).map q, by rw [hll], fun k x y hk => ?_, by rw [hll]; exact hl, hm, fun p hp => ?_, fun rb off' e _ => ?_⟩
    · rw [List.getElem?_map] at hk
      have hkl : k < len := by
        rcases Nat.lt_or_ge k len with h | h
        · exact h
        · rw [List.getElem?_eq_none (by simpa using h)] at hk; cases hk
      rw [List.getElem?_range hkl] at hk
      simp only [Option.map_some, Option.some.injEq] at hk
      obtain ⟨k0, k1, _⟩ := hq k hkl
      rw [hk] at k0 k1
      exact ⟨g, off, rfl, k0, k1⟩
    · obtain ⟨i, hi, rfl⟩ := List.mem_map.1 hp
      obtain ⟨_, _, h1, h2⟩ := hq i (List.mem_range.1 hi)
      exact ⟨h1, h2⟩
    · cases e
      obtain ⟨k0, _⟩ := hq 0 (by omega)
      exact World.block_lt_of_cell? W _ k0
set_option maxRecDepth 100000 in
theorem open_pairs {H : Type} {enc : TypeId × Value → H} {W : World} {base : Nat} {v : Value} {d : DataW H} {p : List MemPlace} (hv : Value.okWide Try.prog W .any base 30 v) (h : DataW.Trod enc Try.prog W 0 (fun _ => true) true 30 v d p) :
    ∃ (ao : Option Addr) (cap : Nat) (ps : List (Int × Int)), v = .slice ao ps.length cap ∧ RowsO W ao ps ∧ ps.length ≤ cap ∧ cap ≤ maxLen ∧ (∀ p ∈ ps, WF p.1 ∧ WF p.2) ∧ (∀ rb off, ao = some ⟨rb, off, none⟩ → 0 < ps.length → rb < W.heap.size) := by
  obtain ⟨a0, len, cap0, rfl⟩ := okWide_slice Try.underlying30 hv
  obtain ⟨fuel, hf⟩ := h
  obtain ⟨ao, cap, ps, h1, h2⟩ := open_prs hf
  simp [Value.cells] at h1
  obtain ⟨rfl, rfl, rfl⟩ := h1
  exact ⟨a0, cap0, ps, rfl, h2⟩
set_option maxRecDepth 100000 in
theorem open_dds {H : Type} {enc : TypeId × Value → H} {W : World} {base : Nat} {v : Value} {d : DataW H} {p : List MemPlace} (hv : Value.okWide Try.prog W .any base 22 v) (h : DataW.Trod enc Try.prog W 0 (fun _ => true) true 22 v d p) :
    ∃ (ao : Option Addr) (cap : Nat) (ds : List Dd), v = .slice ao ds.length cap ∧ DsP W ao ds ∧ ds.length ≤ 9223372036854775807 := by
  obtain ⟨a0, len, cap, rfl⟩ := okWide_slice Try.underlying22 hv
  obtain ⟨fuel, hf⟩ := h
  have ce : Try.prog.cellsOf 32 = 4 := by kernel_rfl
  have c3 : Try.prog.cellsOf 3 = 1 := by kernel_rfl
  have c30 : Try.prog.cellsOf 30 = 1 := by kernel_rfl
  rcases open_slice Try.underlying22 hf with ⟨hcs, _⟩ | ⟨a, len', cap', m, n, D, Pl, hcs, _, hl, hm, hmm, hdx, hx⟩
  · simp [Value.cells] at hcs
    obtain ⟨rfl, rfl, rfl⟩ := hcs
    exact ⟨none, 0, [], rfl, fun k x hx => by simp at hx, by simp⟩
  · simp [Value.cells] at hcs
    obtain ⟨rfl, rfl, rfl⟩ := hcs
    have hlm : len ≤ m := by rw [hmm]; simp; omega
    by_cases hz : len = 0
    · subst hz
      exact ⟨some a, cap, [], rfl, fun k x hx => by simp at hx, by simp⟩
    obtain ⟨g, off, rfl⟩ : ∃ g off, a = ⟨g, off, none⟩ := by
      obtain ⟨cs', h1, h2⟩ := hx 0 (by omega)
      rw [ce] at h1
      obtain ⟨_, hlen, hcell⟩ := World.cells?_some h1
      have e0 := hcell 0 (by omega)
      rw [List.getElem?_eq_getElem (by omega), show (a.add (0 * 4)).add 0 = a by simp [Addr.add]] at e0
      exact addr_none e0
    have each : ∀ i, i < len → ∃ x : Dd, W.cell? ⟨g, off + i * 4, none⟩ = some (.int .i64 x.d) ∧ W.cell? ⟨g, off + i * 4 + 1, none⟩ = some (.int .i64 x.a) ∧ W.cell? ⟨g, off + i * 4 + 2, none⟩ = some (.int .i64 x.b) ∧ W.cell? ⟨g, off + i * 4 + 3, none⟩ = some (.slice x.ao x.ps.length x.cap) ∧ x.Fine W := by
      intro i hi
      obtain ⟨cs', h1, h2⟩ := hx i (by omega)
      rw [ce] at h1
      obtain ⟨_, hlen, hcell⟩ := World.cells?_some h1
      obtain ⟨xs, k, _, _, _, hxl, hfs⟩ := DataW.trod_struct Try.underlying32 h2
      match cs', hlen, xs, hxl with
      | [v0, v1, v2, v3], _, [y0, y1, y2, y3], _ =>
        have g0 := hfs 0 _ rfl
        have g1 := hfs 1 _ rfl
        have g2 := hfs 2 _ rfl
        have g3 := hfs 3 _ rfl
        simp [c3, c30] at g0 g1 g2 g3
        obtain ⟨z0, hz0, _⟩ := DataW.trod_int Try.underlying3 g0
        obtain ⟨z1, hz1, _, w1⟩ := DataW.trod_int Try.underlying3 g1
        obtain ⟨z2, hz2, _⟩ := DataW.trod_int Try.underlying3 g2
        obtain ⟨ao, cap', ps, hz3, r1, r2, r3, r4, r5⟩ := open_prs g3
        simp only [List.cons.injEq, and_true] at hz0 hz1 hz2 hz3
        subst hz0; subst hz1; subst hz2; subst hz3
        have e0 := hcell 0 (by omega)
        have e1 := hcell 1 (by omega)
        have e2 := hcell 2 (by omega)
        have e3 := hcell 3 (by omega)
        simp only [add_at, Nat.add_zero] at e0 e1 e2 e3
        exact ⟨⟨z0, z1, z2, ao, cap', ps⟩, by simpa using e0, by simpa using e1, by simpa using e2, by simpa using e3, ⟨w1, r1, r2, r3, r4, r5⟩⟩
    obtain ⟨q, hq⟩ := choose_lt each
    have hll : ((List.range len).map q).length = len := by simp
    refine ⟨some ⟨g, off, none⟩, cap, (List.range len).map q, by rw [hll], fun k x hk => ?_, by rw [hll]; have : maxLen = 9223372036854775807 := rfl; omega⟩
    rw [List.getElem?_map] at hk
    have hkl : k < len := by
      rcases Nat.lt_or_ge k len with h | h
      · exact h
      · rw [List.getElem?_eq_none (by simpa using h)] at hk; cases hk
    rw [List.getElem?_range hkl] at hk
    simp only [Option.map_some, Option.some.injEq] at hk
    obtain ⟨k0, k1, k2, k3, k4⟩ := hq k hkl
    rw [hk] at k0 k1 k2 k3 k4
    exact ⟨g, off, rfl, World.block_lt_of_cell? W _ k0, k0, k1, k2, k3, k4⟩
end Go.Proofs.Ytagejkolgicecaa
