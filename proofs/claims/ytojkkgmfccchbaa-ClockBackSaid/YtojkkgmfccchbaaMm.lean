/- Rows that are owned, blocks of cells, how they are read. -/
import Derived.WalkKit
import Derived.OneCell
import Derived.Lib.Hide
import Derived.Maps.OwnSet
import Derived.Test.YtojkkgmfccchbaaMd
namespace Go.Proofs.Ytojkkgmfccchbaa
open Go Go.RowKit
theorem ownsRow_below {W W' : World} {base : Nat} {e : TypeId} {size k : Nat} {v : Value} {xs : List Value} (h : W.ownsRow base e size v k xs) (hb : Below W.heap.size W W') : W'.ownsRow base e size v k xs := by
  refine h.kept (row := none) ⟨hb.os, hb.tape, hb.output, hb.size, fun k hk _ => hb.block k hk⟩ ?_
  rcases h.2 with ⟨rfl, _⟩ | ⟨g, cap, cur, rfl, _⟩
  · exact .inl rfl
  · exact .inr (by simp [Value.ownBlock])
theorem ownsRow_mono {w : World} {B B' : Nat} {e : TypeId} {size n : Nat} {v : Value} {xs : List Value} (h : w.ownsRow B e size v n xs) (hB : B' ≤ B) : w.ownsRow B' e size v n xs := by
  obtain ⟨h1, h2⟩ := h
  refine ⟨h1, ?_⟩
  rcases h2 with h2 | ⟨g, cap, cur, hv, hg, r⟩
  · exact .inl h2
  · exact .inr ⟨g, cap, cur, hv, Nat.le_trans hB hg, r⟩

/-- a block of cells -/
def Blk (w : World) (g : Nat) (e : TypeId) (cs : List Value) : Prop := w.heap[g]? = some (.cells cs.toArray e (0, 0))
theorem Blk.lt {w : World} {g : Nat} {e : TypeId} {cs : List Value} (h : Blk w g e cs) : g < w.heap.size := lt_of_block h
theorem Blk.cell {w : World} {g : Nat} {e : TypeId} {cs : List Value} (h : Blk w g e cs) (k : Nat) {x : Value} (hx : cs[k]? = some x) : w.cell? ⟨g, k, none⟩ = some x := by
  rw [cell_of_row w g k _ e (0, 0) h]; simpa using hx
theorem Blk.free {w : World} {g : Nat} {e : TypeId} {cs : List Value} (h : Blk w g e cs) (k : Nat) : w.frozen? ⟨g, k, none⟩ = false := by
  have h' : w.heap[g]? = some (.cells cs.toArray e (0, 0)) := h
  simp [World.frozen?, h']
theorem Blk.set {w : World} {g : Nat} {e : TypeId} {cs : List Value} (h : Blk w g e cs) (k : Nat) (u : Value) : Blk (w.setCell ⟨g, k, none⟩ u) g e (cs.set k u) := by
  have hlt := h.lt
  have h' : w.heap[g] = .cells cs.toArray e (0, 0) := by
    have h2 : w.heap[g]? = some (.cells cs.toArray e (0, 0)) := h
    simpa [Array.getElem?_eq_getElem hlt] using h2
  show (w.heap.modify g _)[g]? = _
  rw [Array.getElem?_eq_getElem (by simpa using hlt), Array.getElem_modify_self, h']
  simp [Array.setIfInBounds, go_sem]
  intro hk
  rw [List.set_eq_of_length_le hk]
theorem Blk.below {w w' : World} {B g : Nat} {e : TypeId} {cs : List Value} (h : Blk w g e cs) (hb : Below B w w') (hg : g < B) : Blk w' g e cs := (hb.block g hg).trans h
theorem Blk.alloc {w : World} {g : Nat} {e : TypeId} {cs : List Value} (h : Blk w g e cs) (o : Obj) : Blk (w.alloc o) g e cs := (Below.heap_alloc w o g h.lt).trans h
theorem Blk.setOther {w : World} {g : Nat} {e : TypeId} {cs : List Value} (h : Blk w g e cs) (a : Addr) (u : Value) (hne : g ≠ a.block) : Blk (w.setCell a u) g e cs := (Below.heap_setCell w a u g hne).trans h
theorem Blk.new (w : World) (a : Array Value) (e : TypeId) : Blk (w.alloc (.cells a e)) w.heap.size e a.toList := by
  have := heap_alloc_new w (.cells a e)
  simpa [Blk] using this
theorem Blk.row {w : World} {g n base : Nat} {e : TypeId} {cs : List Value} (h : Blk w g e cs) (hb : base ≤ g) (hn : n ≤ cs.length) (hm : cs.length ≤ maxLen) : w.ownsRow base e 1 (.slice (some ⟨g, 0, none⟩) n cs.length) n (cs.take n) :=
  ⟨by simp; omega, .inr ⟨g, cs.length, cs.toArray, rfl, hb, h, hn, hm, by simp, by simp⟩⟩
/-- a row that is owned: nil, or the head of a block -/
theorem row_cases {w : World} {base n : Nat} {e : TypeId} {v : Value} {xs : List Value} (h : w.ownsRow base e 1 v n xs) :
    xs.length = n ∧ ((v = .slice none 0 0 ∧ n = 0 ∧ xs = []) ∨ ∃ g cs, v = .slice (some ⟨g, 0, none⟩) n cs.length ∧ base ≤ g ∧ g < w.heap.size ∧ Blk w g e cs ∧ n ≤ cs.length ∧ cs.length ≤ maxLen ∧ cs.take n = xs) := by
  obtain ⟨h1, h2⟩ := h
  refine ⟨by omega, ?_⟩
  rcases h2 with ⟨rfl, rfl⟩ | ⟨g, cap, cur, rfl, hg, hh, hn, hm, hs, ht⟩
  · exact .inl ⟨rfl, rfl, by simpa using h1⟩
  · refine .inr ⟨g, cur.toList, by simp; omega, hg, lt_of_block hh, by simpa [Blk] using hh, by simp; omega, by simp; omega, by simpa using ht⟩
/-- how a row is read: its cells -/
theorem row_read {w : World} {base n : Nat} {e : TypeId} {v : Value} {xs : List Value} (h : w.ownsRow base e 1 v n xs) :
    (v = .slice none 0 0 ∧ n = 0 ∧ xs = []) ∨ ∃ g cap, v = .slice (some ⟨g, 0, none⟩) n cap ∧ n ≤ cap ∧ cap ≤ maxLen ∧ g < w.heap.size ∧ (∀ k x, xs[k]? = some x → w.cell? ⟨g, k, none⟩ = some x) := by
  obtain ⟨h1, h2 | ⟨g, cs, h2, h3, h4, h5, h6, h7, h8⟩⟩ := row_cases h
  · exact .inl h2
  · refine .inr ⟨g, cs.length, h2, h6, h7, h4, fun k x hx => h5.cell k ?_⟩
    rw [← h8, List.getElem?_take] at hx
    split at hx
    · exact hx
    · cases hx

theorem bThen {w X Y : World} (h : Below w.heap.size w X) (k : Below X.heap.size X Y) : Below w.heap.size w Y := h.trans (k.mono h.size)
theorem bAl {w X : World} (h : Below w.heap.size w X) (o : Obj) : Below w.heap.size w (X.alloc o) := h.alloc h.size o
theorem bSelf (X : World) (o : Obj) : Below X.heap.size X (X.alloc o) := (Below.refl _ _).alloc (Nat.le_refl _) o
theorem bSet {B : Nat} {w X : World} (h : Below B w X) (g j : Nat) (hg : B ≤ g) (u : Value) : Below B w (X.setCell ⟨g, j, none⟩ u) := h.setCell hg u
theorem cell_far {w : World} {g j g' j' : Nat} {x u : Value} (h : w.cell? ⟨g, j, none⟩ = some x) (hne : g ≠ g') : (w.setCell ⟨g', j', none⟩ u).cell? ⟨g, j, none⟩ = some x :=
  (World.cell?_of_block (a := ⟨g, j, none⟩) (Below.heap_setCell w ⟨g', j', none⟩ u g hne)).trans h
theorem below_cell {w w' : World} {g j : Nat} {x : Value} (hb : Below w.heap.size w w') (h : w.cell? ⟨g, j, none⟩ = some x) : w'.cell? ⟨g, j, none⟩ = some x := (hb.cell (p := ⟨g, j, none⟩) (World.block_lt_of_cell? w _ h)).trans h
theorem newAt (X : World) (a : Array Value) (e : TypeId) (g : Nat) (l : List Value) (hg : g = X.heap.size) (hl : a.toList = l) : Blk (X.alloc (.cells a e)) g e l := by subst hg; subst hl; exact Blk.new X a e
theorem blkDown {X Y : World} {g : Nat} {e : TypeId} {cs : List Value} (h : Blk X g e cs) (hb : Below X.heap.size X Y) : Blk Y g e cs := h.below hb h.lt
theorem ret_slice {a : Option Addr} {n m c : Nat} (h : n = m) : Ending.returned (.slice a n c) = .returned (.slice a m c) := by rw [h]
theorem ret_bool {a b : Bool} (h : a = b) : Ending.returned (.bool a) = Ending.returned (.bool b) := by rw [h]
theorem ret_int {k : IntKind} {a b : Int} (h : a = b) : Ending.returned (.int k a) = .returned (.int k b) := by rw [h]
/-- bytes in cells -/
abbrev c8 (l : List UInt8) : List Value := l.map fun x => Value.int .u8 x.toNat
theorem c8_get {l : List UInt8} {k : Nat} {x : UInt8} (h : l[k]? = some x) : (c8 l)[k]? = some (.int .u8 x.toNat) := by simp [c8, h]
/-- a slice of bytes that reads as the list -/
def Bt (w : World) (v : Value) (l : List UInt8) : Prop := w.ownsRow 0 5 1 v l.length (c8 l)
theorem Bt.below {w w' : World} {v : Value} {l : List UInt8} (h : Bt w v l) (hb : Below w.heap.size w w') : Bt w' v l := ownsRow_below h hb
theorem Bt.read {w : World} {v : Value} {l : List UInt8} (h : Bt w v l) : (v = .slice none 0 0 ∧ l = []) ∨ ∃ g cap, v = .slice (some ⟨g, 0, none⟩) l.length cap ∧ l.length ≤ cap ∧ cap ≤ maxLen ∧ g < w.heap.size ∧ ∀ (k : Nat) (x : UInt8), l[k]? = some x → w.cell? ⟨g, k, none⟩ = some (.int .u8 x.toNat) := by
  rcases row_read h with ⟨h1, h2, _⟩ | ⟨g, cap, h1, h2, h3, h4, h5⟩
  · exact .inl ⟨h1, List.length_eq_zero_iff.1 h2⟩
  · exact .inr ⟨g, cap, h1, h2, h3, h4, fun k x hx => h5 k _ (c8_get hx)⟩
end Go.Proofs.Ytojkkgmfccchbaa
