/- Arguments that are structs with a date in them: opened to cells. -/
import Derived.Test.YtojkkgmfccchbaaRow
import Derived.Test.YtojkkgmfccchbaaE
namespace Go.Proofs.Ytojkkgmfccchbaa
open Go Go.ChangeShapes Go.WideShapes Go.ChangeAt Go.RowKit

section
variable {H : Type} {enc : TypeId × Value → H} {w : World} {base : Nat} {spare : Nat → Bool} {held : Bool}
theorem cells3 : Try.prog.cellsOf 3 = 1 := by kernel_rfl
theorem cells24 : Try.prog.cellsOf 24 = 6 := by kernel_rfl
theorem cells41 : Try.prog.cellsOf 41 = 8 := by kernel_rfl
theorem cells47 : Try.prog.cellsOf 47 = 14 := by kernel_rfl
/-- one field of a struct by value, its cells -/
theorem part_at {t : TypeId} {fs : Array Field} {cs : List Value} {fuel : Nat} {x : DataW H × List MemPlace} (hs : Try.prog.underlying t = some (.struct fs))
    (hf : DataW.trod enc Try.prog w base spare held fuel t cs = some x) (i : Nat) (f : Field) (hi : fs[i]? = some f) : ∃ n y, DataW.trod enc Try.prog w base spare held n f.type ((cs.drop f.offset).take (Try.prog.cellsOf f.type)) = some y := by
  obtain ⟨xs, n, _, _, _, hlen, hx⟩ := DataW.trod_struct hs hf
  have hlt : i < xs.length := by
    rw [hlen]
    rcases Nat.lt_or_ge i fs.size with h | h
    · exact h
    · rw [Array.getElem?_eq_none h] at hi; cases hi
  exact ⟨n, xs[i], by rw [hx i f hi, List.getElem?_eq_getElem hlt]⟩
theorem int_at {t : TypeId} {fs : Array Field} {cs : List Value} {fuel : Nat} {x : DataW H × List MemPlace} (hs : Try.prog.underlying t = some (.struct fs))
    (hf : DataW.trod enc Try.prog w base spare held fuel t cs = some x) (i : Nat) (f : Field) (hi : fs[i]? = some f) (h3 : f.type = 3) (v : Value) (hv : cs[f.offset]? = some v) : ∃ z : Int, v = .int .i64 z := by
  obtain ⟨n, y, h⟩ := part_at hs hf i f hi
  rw [h3, cells3] at h
  have hl : f.offset < cs.length := by
    rcases Nat.lt_or_ge f.offset cs.length with h | h
    · exact h
    · rw [List.getElem?_eq_none h] at hv; cases hv
  have e : (cs.drop f.offset).take 1 = [v] := by
    rw [List.drop_eq_getElem_cons hl]
    rw [List.getElem?_eq_getElem hl] at hv
    simp [Option.some.inj hv]
  rw [e] at h
  obtain ⟨z, hz, _⟩ := DataW.trod_int Try.underlying3 h
  exact ⟨z, by simpa using hz⟩
theorem dt_cells {cs : List Value} {fuel : Nat} {x : DataW H × List MemPlace} (hf : DataW.trod enc Try.prog w base spare held fuel 24 cs = some x) (c0 c1 c2 c3 c4 c5 : Value) (hcs : cs = [c0, c1, c2, c3, c4, c5]) :
    ∃ y m d h mi s : Int, c0 = .int .i64 y ∧ c1 = .int .i64 m ∧ c2 = .int .i64 d ∧ c3 = .int .i64 h ∧ c4 = .int .i64 mi ∧ c5 = .int .i64 s := by
  subst hcs
  obtain ⟨y, rfl⟩ := int_at Try.underlying24 hf 0 _ rfl rfl _ rfl
  obtain ⟨m, rfl⟩ := int_at Try.underlying24 hf 1 _ rfl rfl _ rfl
  obtain ⟨d, rfl⟩ := int_at Try.underlying24 hf 2 _ rfl rfl _ rfl
  obtain ⟨h, rfl⟩ := int_at Try.underlying24 hf 3 _ rfl rfl _ rfl
  obtain ⟨mi, rfl⟩ := int_at Try.underlying24 hf 4 _ rfl rfl _ rfl
  obtain ⟨s, rfl⟩ := int_at Try.underlying24 hf 5 _ rfl rfl _ rfl
  exact ⟨y, m, d, h, mi, s, rfl, rfl, rfl, rfl, rfl, rfl⟩
theorem array8 {α : Type} {cs : Array α} (h : cs.size = 8) : ∃ c0 c1 c2 c3 c4 c5 c6 c7, cs = #[c0, c1, c2, c3, c4, c5, c6, c7] := by
  obtain ⟨l⟩ := cs
  match l, h with
  | [c0, c1, c2, c3, c4, c5, c6, c7], _ => exact ⟨c0, c1, c2, c3, c4, c5, c6, c7, rfl⟩
theorem array14 {α : Type} {cs : Array α} (h : cs.size = 14) : ∃ c0 c1 c2 c3 c4 c5 c6 c7 c8 c9 c10 c11 c12 c13, cs = #[c0, c1, c2, c3, c4, c5, c6, c7, c8, c9, c10, c11, c12, c13] := by
  obtain ⟨l⟩ := cs
  match l, h with
  | [c0, c1, c2, c3, c4, c5, c6, c7, c8, c9, c10, c11, c12, c13], _ => exact ⟨c0, c1, c2, c3, c4, c5, c6, c7, c8, c9, c10, c11, c12, c13, rfl⟩
set_option maxRecDepth 1000000 in
theorem open_step {r : Reach} {b0 : Nat} {v : Value} {d : DataW H} {p : List MemPlace} (hv : Value.okWide Try.prog w r b0 41 v) (h : DataW.Trod enc Try.prog w base spare held 41 v d p) :
    ∃ (x : Dt) (n m : Int), v = .agg #[.int .i64 x.y, .int .i64 x.m, .int .i64 x.d, .int .i64 x.h, .int .i64 x.mi, .int .i64 x.s, .int .i64 n, .int .i64 m] := by
  obtain ⟨cs, rfl, hsz⟩ := okWide_struct Try.underlying41 hv
  obtain ⟨c0, c1, c2, c3, c4, c5, c6, c7, rfl⟩ := array8 (hsz.trans cells41)
  obtain ⟨fuel, hf⟩ := h
  obtain ⟨n1, y1, hd⟩ := part_at Try.underlying41 hf 0 _ rfl
  obtain ⟨y, m, d, h, mi, s, rfl, rfl, rfl, rfl, rfl, rfl⟩ := dt_cells hd c0 c1 c2 c3 c4 c5 (by show List.take (Try.prog.cellsOf 24) _ = _; rw [cells24]; rfl)
  obtain ⟨n, rfl⟩ := int_at Try.underlying41 hf 1 _ rfl rfl c6 rfl
  obtain ⟨k, rfl⟩ := int_at Try.underlying41 hf 2 _ rfl rfl c7 rfl
  exact ⟨⟨y, m, d, h, mi, s⟩, n, k, rfl⟩
set_option maxRecDepth 1000000 in
theorem open_two {r : Reach} {b0 : Nat} {v : Value} {d : DataW H} {p : List MemPlace} (hv : Value.okWide Try.prog w r b0 47 v) (h : DataW.Trod enc Try.prog w base spare held 47 v d p) :
    ∃ (x z : Dt) (n m : Int), v = .agg #[.int .i64 x.y, .int .i64 x.m, .int .i64 x.d, .int .i64 x.h, .int .i64 x.mi, .int .i64 x.s, .int .i64 z.y, .int .i64 z.m, .int .i64 z.d, .int .i64 z.h, .int .i64 z.mi, .int .i64 z.s, .int .i64 n, .int .i64 m] := by
  obtain ⟨cs, rfl, hsz⟩ := okWide_struct Try.underlying47 hv
  obtain ⟨c0, c1, c2, c3, c4, c5, c6, c7, c8, c9, c10, c11, c12, c13, rfl⟩ := array14 (hsz.trans cells47)
  obtain ⟨fuel, hf⟩ := h
  obtain ⟨n1, y1, hd⟩ := part_at Try.underlying47 hf 0 _ rfl
  obtain ⟨n2, y2, he⟩ := part_at Try.underlying47 hf 1 _ rfl
  obtain ⟨y, m, d, h, mi, s, rfl, rfl, rfl, rfl, rfl, rfl⟩ := dt_cells hd c0 c1 c2 c3 c4 c5 (by show List.take (Try.prog.cellsOf 24) _ = _; rw [cells24]; rfl)
  obtain ⟨y', m', d', h', mi', s', rfl, rfl, rfl, rfl, rfl, rfl⟩ := dt_cells he c6 c7 c8 c9 c10 c11 (by show List.take (Try.prog.cellsOf 24) _ = _; rw [cells24]; rfl)
  obtain ⟨n, rfl⟩ := int_at Try.underlying47 hf 2 _ rfl rfl c12 rfl
  obtain ⟨k, rfl⟩ := int_at Try.underlying47 hf 3 _ rfl rfl c13 rfl
  exact ⟨⟨y, m, d, h, mi, s⟩, ⟨y', m', d', h', mi', s'⟩, n, k, rfl⟩
end
end Go.Proofs.Ytojkkgmfccchbaa
