/- Rows that are owned, blocks of cells, how they are read; what a call may turn. -/
import Derived.WalkKit
import Derived.OneCell
import Derived.Lib.Hide
import Derived.Maps.OwnSet
import Derived.Deep.AppendLies
import Derived.Test.YtagejkolgicecaaProg
namespace Go.Proofs.Ytagejkolgicecaa
open Go Go.RowKit Go.Maps
theorem ownsRow_below {W W' : World} {base : Nat} {e : TypeId} {size k : Nat} {v : Value} {xs : List Value} (h : W.ownsRow base e size v k xs) (hb : Below W.heap.size W W') : W'.ownsRow base e size v k xs := by
  refine h.kept (row := none) ⟨hb.os, hb.tape, hb.output, hb.size, fun k hk _ => hb.block k hk⟩ ?_
  rcases h.2 with ⟨rfl, _⟩ | ⟨g, cap, cur, rfl, _⟩
  · exact .inl rfl
  · exact .inr (by simp [Value.ownBlock])
/-- a block of cells -/
def Blk (w : World) (g : Nat) (e : TypeId) (cs : List Value) : Prop := w.heap[g]? = some (.cells cs.toArray e (0, 0))
theorem Blk.lt {w : World} {g : Nat} {e : TypeId} {cs : List Value} (h : Blk w g e cs) : g < w.heap.size := lt_of_block h
theorem Blk.cell {w : World} {g : Nat} {e : TypeId} {cs : List Value} (h : Blk w g e cs) (k : Nat) {x : Value} (hx : cs[k]? = some x) : w.cell? ⟨g, k, none⟩ = some x := by
  rw [cell_of_row w g k _ e (0, 0) h]; simpa using hx
theorem Blk.free {w : World} {g : Nat} {e : TypeId} {cs : List Value} (h : Blk w g e cs) (k : Nat) : w.frozen? ⟨g, k, none⟩ = false := by
  have h' : w.heap[g]? = some (.cells cs.toArray e (0, 0)) := h
  simp [World.frozen?, h']
theorem Blk.set {w : World} {g : Nat} {e : TypeId} {cs : List Value} (h : Blk w g e cs) (k : Nat) (u : Value) : Blk (w.setCell ⟨g, k, none⟩ u) g e (cs.set k u) := by
  have hlt := h.lt
  have h' : w.heap[g] = .cells cs.toArray e (0, 0) := by
    have h2 : w.heap[g]? = some (.cells cs.toArray e (0, 0)) := h
    simpa [Array.getElem?_eq_getElem hlt] using h2
  show (w.heap.modify g _)[g]? = _
  rw [Array.getElem?_eq_getElem (by simpa using hlt), Array.getElem_modify_self, h']
  simp [Array.setIfInBounds, go_sem]
  intro hk
  rw [List.set_eq_of_length_le hk]
theorem Blk.below {w w' : World} {B g : Nat} {e : TypeId} {cs : List Value} (h : Blk w g e cs) (hb : Below B w w') (hg : g < B) : Blk w' g e cs := (hb.block g hg).trans h
theorem Blk.alloc {w : World} {g : Nat} {e : TypeId} {cs : List Value} (h : Blk w g e cs) (o : Obj) : Blk (w.alloc o) g e cs := (Below.heap_alloc w o g h.lt).trans h
theorem Blk.setOther {w : World} {g : Nat} {e : TypeId} {cs : List Value} (h : Blk w g e cs) (a : Addr) (u : Value) (hne : g ≠ a.block) : Blk (w.setCell a u) g e cs := (Below.heap_setCell w a u g hne).trans h
theorem Blk.new (w : World) (a : Array Value) (e : TypeId) : Blk (w.alloc (.cells a e)) w.heap.size e a.toList := by
  have := heap_alloc_new w (.cells a e)
  simpa [Blk] using this
/-- a row that is owned: nil, or the head of a block -/
theorem row_cases {w : World} {base n : Nat} {e : TypeId} {v : Value} {xs : List Value} (h : w.ownsRow base e 1 v n xs) :
    xs.length = n ∧ ((v = .slice none 0 0 ∧ n = 0 ∧ xs = []) ∨ ∃ g cs, v = .slice (some ⟨g, 0, none⟩) n cs.length ∧ base ≤ g ∧ g < w.heap.size ∧ Blk w g e cs ∧ n ≤ cs.length ∧ cs.length ≤ maxLen ∧ cs.take n = xs) := by
  obtain ⟨h1, h2⟩ := h
  refine ⟨by omega, ?_⟩
  rcases h2 with ⟨rfl, rfl⟩ | ⟨g, cap, cur, rfl, hg, hh, hn, hm, hs, ht⟩
  · exact .inl ⟨rfl, rfl, by simpa using h1⟩
  · refine .inr ⟨g, cur.toList, by simp; omega, hg, lt_of_block hh, by simpa [Blk] using hh, by simp; omega, by simp; omega, by simpa using ht⟩
theorem Blk.row {w : World} {g n base : Nat} {e : TypeId} {cs : List Value} (h : Blk w g e cs) (hb : base ≤ g) (hn : n ≤ cs.length) (hm : cs.length ≤ maxLen) : w.ownsRow base e 1 (.slice (some ⟨g, 0, none⟩) n cs.length) n (cs.take n) :=
  ⟨by simp; omega, .inr ⟨g, cs.length, cs.toArray, rfl, hb, h, hn, hm, by simp, by simp⟩⟩
theorem bThen {w X Y : World} (h : Below w.heap.size w X) (k : Below X.heap.size X Y) : Below w.heap.size w Y := h.trans (k.mono h.size)
theorem bAl {w X : World} (h : Below w.heap.size w X) (o : Obj) : Below w.heap.size w (X.alloc o) := h.alloc h.size o
theorem bSelf (X : World) (o : Obj) : Below X.heap.size X (X.alloc o) := (Below.refl _ _).alloc (Nat.le_refl _) o
theorem below_cell {w w' : World} {g j : Nat} {x : Value} (hb : Below w.heap.size w w') (h : w.cell? ⟨g, j, none⟩ = some x) : w'.cell? ⟨g, j, none⟩ = some x := (hb.cell (p := ⟨g, j, none⟩) (World.block_lt_of_cell? w _ h)).trans h
theorem blkDown {X Y : World} {g : Nat} {e : TypeId} {cs : List Value} (h : Blk X g e cs) (hb : Below X.heap.size X Y) : Blk Y g e cs := h.below hb h.lt

/-- what a call may turn: the blocks of F, and it may make new ones -/
structure Turn (F : Nat → Prop) (w w' : World) : Prop where
  os : w'.os = w.os
  tape : w'.tape = w.tape
  output : w'.output = w.output
  size : w.heap.size ≤ w'.heap.size
  block : ∀ k, k < w.heap.size → ¬ F k → w'.heap[k]? = w.heap[k]?
theorem Turn.refl (F : Nat → Prop) (w : World) : Turn F w w := ⟨rfl, rfl, rfl, Nat.le_refl _, fun _ _ _ => rfl⟩
theorem Turn.trans {F : Nat → Prop} {a b c : World} (h : Turn F a b) (k : Turn F b c) : Turn F a c :=
  ⟨k.os.trans h.os, k.tape.trans h.tape, k.output.trans h.output, Nat.le_trans h.size k.size, fun i hi hf => (k.block i (Nat.lt_of_lt_of_le hi h.size) hf).trans (h.block i hi hf)⟩
theorem Turn.mono {F G : Nat → Prop} {a b : World} (h : Turn F a b) (hg : ∀ k, k < a.heap.size → F k → G k) : Turn G a b := ⟨h.os, h.tape, h.output, h.size, fun k hk hf => h.block k hk (fun hF => hf (hg k hk hF))⟩
theorem Turn.of_below {F : Nat → Prop} {w w' : World} (h : Below w.heap.size w w') : Turn F w w' := ⟨h.os, h.tape, h.output, h.size, fun k hk _ => h.block k hk⟩
theorem Turn.below {F : Nat → Prop} {w w' : World} {B : Nat} (h : Turn F w w') (hB : B ≤ w.heap.size) (hF : ∀ k, F k → B ≤ k) : Below B w w' :=
  ⟨h.os, h.tape, h.output, h.size, fun k hk => h.block k (by omega) (fun hf => by have := hF k hf; omega)⟩
theorem Turn.of_grown {F : Nat → Prop} {w w' : World} {row : Option Nat} (h : w.grownBy w' row) (hF : ∀ k, row = some k → F k) : Turn F w w' :=
  ⟨h.os, h.tape, h.output, h.size, fun k hk hf => h.block k hk (fun e => hf (hF k e.symm))⟩
theorem Turn.set {F : Nat → Prop} {w w' : World} (h : Turn F w w') (g j : Nat) (hg : F g) (u : Value) : Turn F w (w'.setCell ⟨g, j, none⟩ u) := by
  have hb : Below g w' (w'.setCell ⟨g, j, none⟩ u) := (Below.refl g w').setCell (p := ⟨g, j, none⟩) (Nat.le_refl g) u
  exact ⟨hb.os.trans h.os, hb.tape.trans h.tape, hb.output.trans h.output, Nat.le_trans h.size hb.size, fun k hk hf => (Below.heap_setCell w' ⟨g, j, none⟩ u k (fun e => hf (by rw [e]; exact hg))).trans (h.block k hk hf)⟩
theorem turnSet (w : World) (b j : Nat) (u : Value) : Turn (fun i => i = b) w (w.setCell ⟨b, j, none⟩ u) := Turn.set (F := fun i => i = b) (Turn.refl _ w) b j rfl u
theorem Turn.blk {F : Nat → Prop} {w w' : World} {g : Nat} {e : TypeId} {cs : List Value} (h : Turn F w w') (hb : Blk w g e cs) (hg : ¬ F g) : Blk w' g e cs := (h.block g hb.lt hg).trans hb
theorem Turn.map {F : Nat → Prop} {w w' : World} (h : Turn F w w') {P : Program} {k : TypeId} {R : Value → Option (DataW Unit × List MemPlace)} {b n : Nat} {D : DataW Unit} (hm : w.ownsMap P k R b n D) (hg : ¬ F b) : w'.ownsMap P k R b n D := by
  have hlt := hm.lt
  obtain ⟨es, clock, h1, h2⟩ := hm
  exact ⟨es, clock, (h.block b hlt hg).trans h1, h2⟩
end Go.Proofs.Ytagejkolgicecaa
