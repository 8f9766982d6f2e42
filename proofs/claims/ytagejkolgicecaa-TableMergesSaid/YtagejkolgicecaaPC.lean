/- Tables that lie apart, as many as there are; calls at one of them. -/
import Derived.Test.YtagejkolgicecaaQL
import Derived.Test.YtagejkolgicecaaQI
namespace Go.Proofs.Ytagejkolgicecaa
open Go Go.RowKit Go.Maps
inductive Th
  | t (b : Nat) (S : Tb)
  | r (b : Nat) (R : Rt)
def Th.At (F : Nat → Prop) (w : World) : Th → Prop
  | .t b S => Tab F w b S
  | .r b R => RTab F w b R
theorem Th.At.turn {F G : Nat → Prop} {w w' : World} {h : Th} (ha : h.At F w) (ht : Turn G w w') (hd : ∀ k, F k → ¬ G k) : h.At F w' := by
  cases h with
  | t b S => exact Tab.turn ha ht hd
  | r b R => obtain ⟨rv, wv, h⟩ := ha; exact ⟨rv, wv, h.turn ht hd⟩
theorem Th.At.mono {F G : Nat → Prop} {w : World} {h : Th} (ha : h.At F w) (hg : ∀ k, k < w.heap.size → F k → G k) : h.At G w := by
  cases h with
  | t b S => exact Tab.mono ha hg
  | r b R => obtain ⟨rv, wv, h⟩ := ha; exact ⟨rv, wv, h.mono hg⟩
theorem Th.At.below {F : Nat → Prop} {w w' : World} {h : Th} (ha : h.At F w) (hb : Below w.heap.size w w') : h.At F w' := by
  cases h with
  | t b S => exact Tab.below ha hb
  | r b R => obtain ⟨rv, wv, h⟩ := ha; exact ⟨rv, wv, h.below hb⟩
def fset (f : Nat → Option Th) (c : Nat) (h : Th) : Nat → Option Th := fun d => if d = c then some h else f d
theorem fset_same (f : Nat → Option Th) (c : Nat) (h : Th) : fset f c h c = some h := by unfold fset; rw [if_pos rfl]
theorem fset_other (f : Nat → Option Th) {c d : Nat} (h : Th) (hd : d ≠ c) : fset f c h d = f d := by unfold fset; rw [if_neg hd]
structure Zoo (P : Nat → Prop) (w0 w : World) (f : Nat → Option Th) : Prop where
  tn : Turn (fun k => ¬ P k) w0 w
  col : ∃ col : Nat → Nat, (∀ i, w.heap.size ≤ i → col i = 0) ∧ (∀ k, k < w0.heap.size → P k → col k = 0) ∧ ∀ c h, f c = some h → h.At (fun i => col i = c + 1) w
section
variable {P : Nat → Prop} {w0 w w' : World} {f : Nat → Option Th}
theorem Zoo.start (w : World) : Zoo (fun _ => True) w w (fun _ => none) := ⟨Turn.refl _ _, fun _ => 0, fun _ _ => rfl, fun _ _ _ => rfl, fun c h e => by cases e⟩
theorem Zoo.end_ (h : Zoo (fun _ => True) w0 w f) : Below w0.heap.size w0 w := h.tn.below (Nat.le_refl _) (fun _ hk => absurd trivial hk)
theorem Zoo.below (h : Zoo P w0 w f) (hb : Below w.heap.size w w') : Zoo P w0 w' f := by
  obtain ⟨col, c1, c2, c3⟩ := h.col
  exact ⟨h.tn.trans (Turn.of_below hb), col, fun i hi => c1 i (by have := hb.size; omega), c2, fun c th e => (c3 c th e).below hb⟩
theorem Zoo.get (h : Zoo P w0 w f) {c : Nat} {th : Th} (hc : f c = some th) : ∃ G, th.At G w := by
  obtain ⟨col, c1, c2, c3⟩ := h.col
  exact ⟨_, c3 c th hc⟩
/-- blocks that no table owns stay -/
theorem Zoo.cell (h : Zoo P w0 w f) {g j : Nat} {x : Value} (hg : P g) (hc : w0.cell? ⟨g, j, none⟩ = some x) : w.cell? ⟨g, j, none⟩ = some x := by
  have hlt : g < w0.heap.size := World.block_lt_of_cell? w0 _ hc
  have hb := h.tn.block g hlt (fun h => h hg)
  simp only [World.cell?] at hc ⊢
  rw [hb]; exact hc
theorem Zoo.row (h : Zoo P w0 w f) {g : Nat} {e : TypeId} {cs : List Value} (hg : P g) (hb : Blk w0 g e cs) : Blk w g e cs := h.tn.blk hb (fun h => h hg)
/-- one thing turned (or laid anew), the others stay -/
theorem Zoo.put (h : Zoo P w0 w f) {col : Nat → Nat} (c1 : ∀ i, w.heap.size ≤ i → col i = 0) (c2 : ∀ k, k < w0.heap.size → P k → col k = 0) (c3 : ∀ c h, f c = some h → h.At (fun i => col i = c + 1) w) {c : Nat} {th' : Th}
    (hT : th'.At (fun i => col i = c + 1 ∨ w.heap.size ≤ i) w') (hU : Turn (fun i => col i = c + 1 ∨ w.heap.size ≤ i) w w') : Zoo P w0 w' (fset f c th') := by
  have hsz := hU.size
  have hs0 := h.tn.size
  refine ⟨⟨hU.os.trans h.tn.os, hU.tape.trans h.tn.tape, hU.output.trans h.tn.output, Nat.le_trans hs0 hsz, fun k hk hP => (hU.block k (by omega) (fun hF => ?_)).trans (h.tn.block k hk hP)⟩, fun i => if w.heap.size ≤ i ∧ i < w'.heap.size then c + 1 else col i, fun i hi => ?_, fun k hk hP => ?_, fun d x hx => ?_⟩
  · rcases hF with h1 | h1
    · have := c2 k hk (Classical.byContradiction hP); omega
    · omega
  · show (if w.heap.size ≤ i ∧ i < w'.heap.size then c + 1 else col i) = 0
    rw [if_neg (by omega)]; exact c1 i (by omega)
  · show (if w.heap.size ≤ k ∧ k < w'.heap.size then c + 1 else col k) = 0
    rw [if_neg (by omega)]; exact c2 k hk hP
  · unfold fset at hx
    split at hx
    · rename_i e
      cases hx
      subst e
      refine hT.mono (fun k hk hF => ?_)
      show (if w.heap.size ≤ k ∧ k < w'.heap.size then d + 1 else col k) = d + 1
      rcases hF with h1 | h1
      · split
        · rfl
        · exact h1
      · rw [if_pos ⟨h1, hk⟩]
    · rename_i e
      have h1 := (c3 d x hx).turn hU (fun k hF => by
        intro h2
        rcases h2 with h2 | h2
        · omega
        · have := c1 k h2; omega)
      refine h1.mono (fun k hk hF => ?_)
      show (if w.heap.size ≤ k ∧ k < w'.heap.size then c + 1 else col k) = d + 1
      rw [if_neg (fun h2 => by have := c1 k h2.1; omega)]
      exact hF
theorem Zoo.call (h : Zoo P w0 w f) {c : Nat} {th : Th} (hc : f c = some th) :
    ∃ F : Nat → Prop, th.At F w ∧ (∀ i, w.heap.size ≤ i → F i) ∧ ∀ w' th', th'.At F w' → Turn F w w' → Zoo P w0 w' (fset f c th') := by
  obtain ⟨col, c1, c2, c3⟩ := h.col
  exact ⟨fun i => col i = c + 1 ∨ w.heap.size ≤ i, (c3 c th hc).mono (fun _ _ h => .inl h), fun i hi => .inr hi, fun w' th' hT hU => h.put c1 c2 c3 hT hU⟩
theorem Zoo.new (h : Zoo P w0 w f) {c : Nat} {th : Th} (ha : th.At (fun i => w.heap.size ≤ i) w') (hb : Below w.heap.size w w') : Zoo P w0 w' (fset f c th) := by
  obtain ⟨col, c1, c2, c3⟩ := h.col
  exact h.put c1 c2 c3 (ha.mono (fun _ _ h => .inr h)) (Turn.of_below hb)
/-- begin anew at w1: what was laid since w is no table's -/
theorem Zoo.base {w1 : World} (h : Zoo P w0 w f) (hb : Below w.heap.size w w1) : ∃ P' : Nat → Prop, Zoo P' w1 w1 f ∧ (∀ k, w.heap.size ≤ k → P' k) ∧ (∀ k, k < w0.heap.size → P k → P' k) ∧ ∀ w' f', Zoo P' w1 w' f' → Zoo P w0 w' f' := by
  have h1 := h.below hb
  obtain ⟨col, c1, c2, c3⟩ := h.col
  refine ⟨fun k => col k = 0, ⟨Turn.refl _ _, col, fun i hi => c1 i (by have := hb.size; omega), fun _ _ h => h, fun c th e => (c3 c th e).below hb⟩, c1, c2, fun w' f' h' => ?_⟩
  obtain ⟨col', d1, d2, d3⟩ := h'.col
  have hs := h.tn.size
  have hs2 := hb.size
  exact ⟨⟨h'.tn.os.trans h1.tn.os, h'.tn.tape.trans h1.tn.tape, h'.tn.output.trans h1.tn.output, Nat.le_trans h1.tn.size h'.tn.size, fun k hk hP => (h'.tn.block k (by omega) (fun hc => hc (c2 k hk (Classical.byContradiction hP)))).trans (h1.tn.block k hk hP)⟩,
    col', d1, fun k hk hP => d2 k (by omega) (c2 k hk hP), d3⟩
end
end Go.Proofs.Ytagejkolgicecaa
