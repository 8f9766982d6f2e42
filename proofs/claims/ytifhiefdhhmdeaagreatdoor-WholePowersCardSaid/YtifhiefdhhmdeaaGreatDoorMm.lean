/- Rows that are owned, blocks of cells, how they are read. -/
import Derived.WalkKit
import Derived.OneCell
import Derived.Lib.Hide
import Derived.Test.YtifhiefdhhmdeaaGreatDoorMa
namespace Go.Proofs.YtifhiefdhhmdeaaGreatDoor
open Go Go.RowKit
theorem ownsRow_below {W W' : World} {base : Nat} {e : TypeId} {size k : Nat} {v : Value} {xs : List Value} (h : W.ownsRow base e size v k xs) (hb : Below W.heap.size W W') : W'.ownsRow base e size v k xs := by
  refine h.kept (row := none) ⟨hb.os, hb.tape, hb.output, hb.size, fun k hk _ => hb.block k hk⟩ ?_
  rcases h.2 with ⟨rfl, _⟩ | ⟨g, cap, cur, rfl, _⟩
  · exact .inl rfl
  · exact .inr (by simp [Value.ownBlock])
theorem ownsRow_mono {w : World} {B B' : Nat} {e : TypeId} {size n : Nat} {v : Value} {xs : List Value} (h : w.ownsRow B e size v n xs) (hB : B' ≤ B) : w.ownsRow B' e size v n xs := by
  obtain ⟨h1, h2⟩ := h
  refine ⟨h1, ?_⟩
  rcases h2 with h2 | ⟨g, cap, cur, hv, hg, r⟩
  · exact .inl h2
  · exact .inr ⟨g, cap, cur, hv, Nat.le_trans hB hg, r⟩

/-- a block of cells -/
def Blk (w : World) (g : Nat) (e : TypeId) (cs : List Value) : Prop := w.heap[g]? = some (.cells cs.toArray e (0, 0))
theorem Blk.lt {w : World} {g : Nat} {e : TypeId} {cs : List Value} (h : Blk w g e cs) : g < w.heap.size := lt_of_block h
theorem Blk.cell {w : World} {g : Nat} {e : TypeId} {cs : List Value} (h : Blk w g e cs) (k : Nat) {x : Value} (hx : cs[k]? = some x) : w.cell? ⟨g, k, none⟩ = some x := by
  rw [cell_of_row w g k _ e (0, 0) h]; simpa using hx
theorem Blk.free {w : World} {g : Nat} {e : TypeId} {cs : List Value} (h : Blk w g e cs) (k : Nat) : w.frozen? ⟨g, k, none⟩ = false := by
  have h' : w.heap[g]? = some (.cells cs.toArray e (0, 0)) := h
  simp [World.frozen?, h']
theorem Blk.set {w : World} {g : Nat} {e : TypeId} {cs : List Value} (h : Blk w g e cs) (k : Nat) (u : Value) : Blk (w.setCell ⟨g, k, none⟩ u) g e (cs.set k u) := by
  have hlt := h.lt
  have h' : w.heap[g] = .cells cs.toArray e (0, 0) := by
    have h2 : w.heap[g]? = some (.cells cs.toArray e (0, 0)) := h
    simpa [Array.getElem?_eq_getElem hlt] using h2
  show (w.heap.modify g _)[g]? = _
  rw [Array.getElem?_eq_getElem (by simpa using hlt), Array.getElem_modify_self, h']
  simp [Array.setIfInBounds, go_sem]
  intro hk
  rw [List.set_eq_of_length_le hk]
theorem Blk.below {w w' : World} {B g : Nat} {e : TypeId} {cs : List Value} (h : Blk w g e cs) (hb : Below B w w') (hg : g < B) : Blk w' g e cs := (hb.block g hg).trans h
theorem Blk.alloc {w : World} {g : Nat} {e : TypeId} {cs : List Value} (h : Blk w g e cs) (o : Obj) : Blk (w.alloc o) g e cs := (Below.heap_alloc w o g h.lt).trans h
theorem Blk.setOther {w : World} {g : Nat} {e : TypeId} {cs : List Value} (h : Blk w g e cs) (a : Addr) (u : Value) (hne : g ≠ a.block) : Blk (w.setCell a u) g e cs := (Below.heap_setCell w a u g hne).trans h
theorem Blk.new (w : World) (a : Array Value) (e : TypeId) : Blk (w.alloc (.cells a e)) w.heap.size e a.toList := by
  have := heap_alloc_new w (.cells a e)
  simpa [Blk] using this
theorem Blk.row {w : World} {g n base : Nat} {e : TypeId} {cs : List Value} (h : Blk w g e cs) (hb : base ≤ g) (hn : n ≤ cs.length) (hm : cs.length ≤ maxLen) : w.ownsRow base e 1 (.slice (some ⟨g, 0, none⟩) n cs.length) n (cs.take n) :=
  ⟨by simp; omega, .inr ⟨g, cs.length, cs.toArray, rfl, hb, h, hn, hm, by simp, by simp⟩⟩
/-- a row that is owned: nil, or the head of a block -/
theorem row_cases {w : World} {base n : Nat} {e : TypeId} {v : Value} {xs : List Value} (h : w.ownsRow base e 1 v n xs) :
    xs.length = n ∧ ((v = .slice none 0 0 ∧ n = 0 ∧ xs = []) ∨ ∃ g cs, v = .slice (some ⟨g, 0, none⟩) n cs.length ∧ base ≤ g ∧ g < w.heap.size ∧ Blk w g e cs ∧ n ≤ cs.length ∧ cs.length ≤ maxLen ∧ cs.take n = xs) := by
  obtain ⟨h1, h2⟩ := h
  refine ⟨by omega, ?_⟩
  rcases h2 with ⟨rfl, rfl⟩ | ⟨g, cap, cur, rfl, hg, hh, hn, hm, hs, ht⟩
  · exact .inl ⟨rfl, rfl, by simpa using h1⟩
  · refine .inr ⟨g, cur.toList, by simp; omega, hg, lt_of_block hh, by simpa [Blk] using hh, by simp; omega, by simp; omega, by simpa using ht⟩
/-- how a row is read: its cells -/
theorem row_read {w : World} {base n : Nat} {e : TypeId} {v : Value} {xs : List Value} (h : w.ownsRow base e 1 v n xs) :
    (v = .slice none 0 0 ∧ n = 0 ∧ xs = []) ∨ ∃ g cap, v = .slice (some ⟨g, 0, none⟩) n cap ∧ n ≤ cap ∧ cap ≤ maxLen ∧ g < w.heap.size ∧ (∀ k x, xs[k]? = some x → w.cell? ⟨g, k, none⟩ = some x) := by
  obtain ⟨h1, h2 | ⟨g, cs, h2, h3, h4, h5, h6, h7, h8⟩⟩ := row_cases h
  · exact .inl h2
  · refine .inr ⟨g, cs.length, h2, h6, h7, h4, fun k x hx => h5.cell k ?_⟩
    rw [← h8, List.getElem?_take] at hx
    split at hx
    · exact hx
    · cases hx
/-- digits in cells -/
abbrev c32 (l : List Nat) : List Value := l.map fun x : Nat => Value.int .u32 (x : Int)
abbrev c64 (l : List Nat) : List Value := l.map fun x : Nat => Value.int .i64 (x : Int)
/-- a slice of words that reads as a natural -/
def Nt (w : World) (v : Value) (n : Nat) : Prop := w.ownsRow 0 143 1 v (dgs 4294967296 n).length (c32 (dgs 4294967296 n))
/-- a slice of decimal digits that reads as a natural -/
def Dg (w : World) (v : Value) (n : Nat) : Prop := w.ownsRow 0 3 1 v (dgs 10 n).length (c64 (dgs 10 n))
theorem Nt.below {w w' : World} {v : Value} {n : Nat} (h : Nt w v n) (hb : Below w.heap.size w w') : Nt w' v n := ownsRow_below h hb
theorem Dg.below {w w' : World} {v : Value} {n : Nat} (h : Dg w v n) (hb : Below w.heap.size w w') : Dg w' v n := ownsRow_below h hb
theorem c32_get {l : List Nat} {k x : Nat} (h : l[k]? = some x) : (c32 l)[k]? = some (.int .u32 x) := by simp [c32, h]
theorem c64_get {l : List Nat} {k x : Nat} (h : l[k]? = some x) : (c64 l)[k]? = some (.int .i64 x) := by simp [c64, h]
/-- how a natural's slice is read -/
theorem Nt.read {w : World} {v : Value} {n : Nat} (h : Nt w v n) : (v = .slice none 0 0 ∧ n = 0) ∨ ∃ g cap, v = .slice (some ⟨g, 0, none⟩) (dgs 4294967296 n).length cap ∧ (dgs 4294967296 n).length ≤ cap ∧ cap ≤ maxLen ∧ g < w.heap.size ∧ ∀ (k : Nat) (x : Nat), (dgs 4294967296 n)[k]? = some x → w.cell? ⟨g, k, none⟩ = some (.int .u32 x) := by
  rcases row_read h with ⟨h1, h2, _⟩ | ⟨g, cap, h1, h2, h3, h4, h5⟩
  · exact .inl ⟨h1, (dgs_nil_iff (b := 4294967296) (by omega)).1 (List.length_eq_zero_iff.1 h2)⟩
  · exact .inr ⟨g, cap, h1, h2, h3, h4, fun k x hx => h5 k _ (c32_get hx)⟩
theorem Dg.read {w : World} {v : Value} {n : Nat} (h : Dg w v n) : (v = .slice none 0 0 ∧ n = 0) ∨ ∃ g cap, v = .slice (some ⟨g, 0, none⟩) (dgs 10 n).length cap ∧ (dgs 10 n).length ≤ cap ∧ cap ≤ maxLen ∧ g < w.heap.size ∧ ∀ (k : Nat) (x : Nat), (dgs 10 n)[k]? = some x → w.cell? ⟨g, k, none⟩ = some (.int .i64 x) := by
  rcases row_read h with ⟨h1, h2, _⟩ | ⟨g, cap, h1, h2, h3, h4, h5⟩
  · exact .inl ⟨h1, (dgs_nil_iff (b := 10) (by omega)).1 (List.length_eq_zero_iff.1 h2)⟩
  · exact .inr ⟨g, cap, h1, h2, h3, h4, fun k x hx => h5 k _ (c64_get hx)⟩
end Go.Proofs.YtifhiefdhhmdeaaGreatDoor
