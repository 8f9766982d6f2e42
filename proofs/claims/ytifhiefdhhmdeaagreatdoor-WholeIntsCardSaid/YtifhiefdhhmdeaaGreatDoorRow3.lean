/- What the card of WholeInts takes besides Row: its list of variables has two errors more. -/
import Derived.Test.YtifhiefdhhmdeaaGreatDoorRow
import Derived.Stop.LaidErr
namespace Go.Proofs.YtifhiefdhhmdeaaGreatDoor
open Go Go.ChangeShapes Go.WideShapes Go.ChangeAt Go.RowKit

abbrev listed3 : List (String × DataW Unit) := [("math/bits.deBruijn32tab", Rows.laid_math_bits_deBruijn32tab), ("math/bits.deBruijn64tab", Rows.laid_math_bits_deBruijn64tab), ("internal/strconv.uint64pow10", Rows.laid_internal_strconv_uint64pow10), ("unicode/utf8.acceptRanges", Rows.laid_unicode_utf8_acceptRanges), ("strconv.ErrRange", Rows.laid_strconv_ErrRange), ("strconv.ErrSyntax", Rows.laid_strconv_ErrSyntax), ("unicode/utf8.first", Rows.laid_unicode_utf8_first)]
def theLaid3 : List (String × DataW Unit) := listed3
theorem laidH3 : theLaid3.filter (fun x => x.2.handleName?.isSome) = [] := by kernel_rfl
theorem tab_of3 {W : World} (h1 : laidMet Tryz.prog theLaid3 W) : TabOk W := by
  have h := Lib.laidMet.reads h1 (n := "internal/strconv.uint64pow10") (d := Rows.laid_internal_strconv_uint64pow10) (by simp [theLaid3])
  rw [pow_eq] at h
  obtain ⟨g, t, cs, fuel, p, hg, ht, hv, hd⟩ := h
  obtain rfl := Option.some.inj ((show Tryz.prog.globalNamed "internal/strconv.uint64pow10" = some 3 by kernel_rfl).symm.trans hg)
  obtain rfl := Option.some.inj ((show (Tryz.prog.globals[3]?).map (·.type) = some 202 by kernel_rfl).symm.trans ht)
  have hc := Lib.cells_of_tab (n := 20) (e := 155) (by kernel_rfl) (by kernel_rfl) (by kernel_rfl) (by kernel_rfl) hd
  have h2 : Lib.TabIs Tryz.prog W "internal/strconv.uint64pow10" .u64 Lib.pow10Tab := by
    unfold Lib.TabIs
    rw [hv, ← hc]
  exact Lib.tabBelow_of_tabIs h2
theorem met3 {W : World} (h : laidMetH Tryz.prog theLaid3 W) : laidMet Tryz.prog theLaid3 W := by
  unfold laidMetH at h
  rw [laidH3] at h
  exact h
theorem tabs3 {W : World} (h : laidMetH Tryz.prog theLaid3 W) : TabOk W := tab_of3 (met3 h)
theorem star3 : "*" ++ "errors.errorString" = "*errors.errorString" := by decide
theorem row210 (u : TypeId) (h : Tryz.prog.typeName? 3 u = some "*errors.errorString") : u = 210 :=
  typeName_ptr_named (nm := "errors.errorString") (by rw [star3]; kernel_rfl) (by kernel_rfl) (by decide) u (by rw [star3]; exact h)
theorem err3 {W : World} (h : laidMetH Tryz.prog theLaid3 W) : ∃ ev, W.cell? ⟨2, 0, none⟩ = some ev ∧ ∃ te pe, ev = .iface te pe := by
  have h1 : laidMet Tryz.prog listed3 W := met3 h
  have hg : Tryz.prog.globalNamed "strconv.ErrRange" = some 2 := by kernel_rfl
  obtain ⟨a1, s1, hv1, -, -, -⟩ := laid_sentinel h1.tail.tail.tail.tail hg (show (Tryz.prog.globals[2]?).map (·.type) = some 94 by kernel_rfl) Tryz.underlying94 row210 Tryz.underlying210 Tryz.underlying212 rfl rfl Tryz.underlying9 (by kernel_rfl) (by kernel_rfl)
  exact ⟨_, by have h0 := World.var?_cell hg hv1 0; simpa using h0, _, _, rfl⟩
abbrev synS : ByteArray := { data := #[105, 110, 118, 97, 108, 105, 100, 32, 115, 121, 110, 116, 97, 120] }
abbrev rngS : ByteArray := { data := #[118, 97, 108, 117, 101, 32, 111, 117, 116, 32, 111, 102, 32, 114, 97, 110, 103, 101] }
noncomputable def low3 : Nat := (World.holding Tryz.prog default ⟨#[], #[], []⟩).heap.size
/-- A world for the witness: the settled one, the tables and errors holding what their initialisers lay. -/
noncomputable def laidWorld3 (os : Os) : World :=
  { World.holding Tryz.prog os ⟨#[.cells #[.string synS] 212, .cells #[.string rngS] 212], #[], []⟩ with heap := Array.modify (Array.modify (Array.modify (Array.modify (Array.modify (Array.modify (Array.modify (World.holding Tryz.prog os ⟨#[.cells #[.string synS] 212, .cells #[.string rngS] 212], #[], []⟩).heap 3 (fill (cellsD Rows.laid_internal_strconv_uint64pow10))) 4 (fill (cellsD Rows.laid_math_bits_deBruijn32tab))) 5 (fill (cellsD Rows.laid_math_bits_deBruijn64tab))) 6 (fill cells6)) 7 (fill cells7)) 1 (fill #[.iface 210 (.pointer (some ⟨low3, 0, none⟩))])) 2 (fill #[.iface 210 (.pointer (some ⟨low3 + 1, 0, none⟩))]) }
theorem laid_met3 (os : Os) (args : Array Value) : laidMet Tryz.prog theLaid3 ((laidWorld3 os).forCall (fun _ _ => 0) ⟨#[], args, []⟩).memory :=
  laidMet_of_run' 8 (by kernel_rfl) (by kernel_rfl)
end Go.Proofs.YtifhiefdhhmdeaaGreatDoor
