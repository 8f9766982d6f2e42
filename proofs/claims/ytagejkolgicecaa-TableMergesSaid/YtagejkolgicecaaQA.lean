/- Rows of structs: how they are read and set. -/
import Derived.Test.YtagejkolgicecaaMc
namespace Go.Proofs.Ytagejkolgicecaa
open Go Go.RowKit Go.Maps
section
variable {α : Type} (enc : α → List Value) (sz : Nat)
theorem fm_len (hs : ∀ x, (enc x).length = sz) : ∀ xs : List α, (xs.flatMap enc).length = xs.length * sz
  | [] => by simp
  | x :: xs => by rw [List.flatMap_cons, List.length_append, hs, fm_len hs xs, List.length_cons, Nat.succ_mul]; omega
theorem fm_get (hs : ∀ x, (enc x).length = sz) : ∀ (xs : List α) (j i : Nat) (x : α), xs[j]? = some x → i < sz → (xs.flatMap enc)[j * sz + i]? = (enc x)[i]?
  | [], j, i, x, h, _ => by simp at h
  | y :: xs, 0, i, x, h, hi => by
    simp at h; subst h
    rw [List.flatMap_cons, Nat.zero_mul, Nat.zero_add, List.getElem?_append_left (by rw [hs]; exact hi)]
  | y :: xs, j + 1, i, x, h, hi => by
    have h1 := fm_get hs xs j i x (by simpa using h) hi
    rw [List.flatMap_cons, List.getElem?_append_right (by rw [hs, Nat.succ_mul]; omega), hs, show (j + 1) * sz + i - sz = j * sz + i by rw [Nat.succ_mul]; omega]
    exact h1
theorem fm_set (hs : ∀ x, (enc x).length = sz) : ∀ (xs : List α) (j i : Nat) (x x' : α) (u : Value), xs[j]? = some x → i < sz → enc x' = (enc x).set i u → (xs.flatMap enc).set (j * sz + i) u = (xs.set j x').flatMap enc
  | [], j, i, x, x', u, h, _, _ => by simp at h
  | y :: xs, 0, i, x, x', u, h, hi, he => by
    simp at h; subst h
    rw [List.flatMap_cons, Nat.zero_mul, Nat.zero_add, List.set_append_left _ _ (by rw [hs]; exact hi), List.set_cons_zero, List.flatMap_cons, he]
  | y :: xs, j + 1, i, x, x', u, h, hi, he => by
    have h1 := fm_set hs xs j i x x' u (by simpa using h) hi he
    rw [List.flatMap_cons, List.set_append_right _ _ (by rw [hs, Nat.succ_mul]; omega), hs, show (j + 1) * sz + i - sz = j * sz + i by rw [Nat.succ_mul]; omega, h1, List.set_cons_succ, List.flatMap_cons]
end
/-- a list of structs of sz cells, as a slice -/
structure Lay (α : Type) where
  e : TypeId
  sz : Nat
  enc : α → List Value
  len : ∀ x, (enc x).length = sz
section
variable {α : Type} {L : Lay α}
def Seq (L : Lay α) (B : Nat) (w : World) (v : Value) (xs : List α) : Prop := w.ownsRow B L.e L.sz v xs.length (xs.flatMap L.enc)
theorem Seq.below {B : Nat} {w w' : World} {v : Value} {xs : List α} (h : Seq L B w v xs) (hb : Below w.heap.size w w') : Seq L B w' v xs := ownsRow_below h hb
theorem Seq.turn {B : Nat} {F : Nat → Prop} {w w' : World} {v : Value} {xs : List α} (h : Seq L B w v xs) (ht : Turn F w w') (hg : ∀ g, v.ownBlock = some g → ¬ F g) : Seq L B w' v xs := by
  refine ⟨h.1, ?_⟩
  rcases h.2 with hn | ⟨g, cap, cur, rfl, hb, hgg, rest⟩
  · exact .inl hn
  · exact .inr ⟨g, cap, cur, rfl, hb, (ht.block g (lt_of_block hgg) (hg g rfl)).trans hgg, rest⟩
theorem Seq.down {B : Nat} {w : World} {v : Value} {xs : List α} (h : Seq L B w v xs) : Seq L 0 w v xs := by
  refine ⟨h.1, ?_⟩
  rcases h.2 with hn | ⟨g, cap, cur, rfl, hb, rest⟩
  · exact .inl hn
  · exact .inr ⟨g, cap, cur, rfl, Nat.zero_le _, rest⟩
theorem Seq.form {B : Nat} {w : World} {v : Value} {xs : List α} (h : Seq L B w v xs) : ∃ ao cap, v = .slice ao xs.length cap ∧ xs.length ≤ cap ∧ cap ≤ maxLen ∧ (∀ (j : Nat) (x : α), xs[j]? = some x → ∃ g, ao = some ⟨g, 0, none⟩ ∧ B ≤ g ∧ (∀ (i : Nat) (u : Value), i < L.sz → (L.enc x)[i]? = some u → w.cell? ⟨g, j * L.sz + i, none⟩ = some u) ∧ (∀ i, w.frozen? ⟨g, i, none⟩ = false)) := by
  obtain ⟨h1, h2 | ⟨g, cap, cur, rfl, hB, hh, h5, h6, h7, h8⟩⟩ := h
  · obtain ⟨rfl, h3⟩ := h2
    have h4 : xs = [] := List.length_eq_zero_iff.1 h3
    subst h4
    exact ⟨none, 0, rfl, Nat.le_refl _, Nat.zero_le _, fun j x hj => by simp at hj⟩
  · refine ⟨some ⟨g, 0, none⟩, cap, rfl, h5, h6, fun j x hj => ⟨g, rfl, hB, fun i u hi hu => ?_, fun i => by simp [World.frozen?, hh]⟩⟩
    rw [cell_of_row w g _ _ L.e (0, 0) hh]
    have h9 := fm_get L.enc L.sz L.len xs j i x hj hi
    rw [hu, ← h8, List.getElem?_take] at h9
    split at h9
    · simpa using h9
    · cases h9
theorem Seq.lt {B : Nat} {w : World} {v : Value} {xs : List α} (h : Seq L B w v xs) {g : Nat} (hg : v.ownBlock = some g) : B ≤ g ∧ g < w.heap.size ∧ ∃ cs, Blk w g L.e cs := by
  rcases h.2 with ⟨h6, _⟩ | ⟨g5, c5, cu5, h6, h7, h8, _⟩
  · rw [h6] at hg; cases hg
  · rw [h6] at hg
    have e2 : g5 = g := Option.some.inj hg
    subst e2
    exact ⟨h7, lt_of_block h8, cu5.toList, by simpa [Blk] using h8⟩
theorem Seq.set {B : Nat} {w : World} {g n cap : Nat} {xs : List α} (h : Seq L B w (.slice (some ⟨g, 0, none⟩) n cap) xs) (j i : Nat) (x x' : α) (u : Value) (hj : xs[j]? = some x) (hi : i < L.sz) (he : L.enc x' = (L.enc x).set i u) :
    Seq L B (w.setCell ⟨g, j * L.sz + i, none⟩ u) (.slice (some ⟨g, 0, none⟩) n cap) (xs.set j x') := by
  obtain ⟨h1, h2 | ⟨g', cap', cur, h3, hb, hh, h5, h6, h7, h8⟩⟩ := h
  · cases h2.1
  · cases h3
    have e := fm_set L.enc L.sz L.len xs j i x x' u hj hi he
    refine ⟨by rw [← e, List.length_set, List.length_set]; exact h1, .inr ⟨g, cap, (cur.toList.set (j * L.sz + i) u).toArray, by rw [List.length_set], hb, ?_, by rw [List.length_set]; exact h5, h6, by simp; omega, ?_⟩⟩
    · have hb2 : Blk w g L.e cur.toList := by simpa [Blk] using hh
      exact hb2.set (j * L.sz + i) u
    · rw [List.length_set, ← e, ← h8]
      simp [List.take_set]
end
def rowL : Lay (Int × Int × Nat) := ⟨83, 3, fun x => [.int .i64 x.1, .int .i64 x.2.1, .int .i64 (x.2.2 : Int)], fun _ => rfl⟩
def walkL : Lay (Nat × Bool) := ⟨89, 2, fun x => [.int .i64 (x.1 : Int), .bool x.2], fun _ => rfl⟩
structure Rt where
  rows : List (Int × Int × Nat)
  walks : List (Nat × Bool)
  now : Nat
  st : Bool
  fz : Bool
structure RWit (F : Nat → Prop) (w : World) (r : Nat) (R : Rt) (rv wv : Value) : Prop where
  blk : Blk w r 58 [.bool true, .bool R.st, .bool R.fz, rv, wv, .int .i64 (R.now : Int)]
  rows : Seq rowL 0 w rv R.rows
  walks : Seq walkL 0 w wv R.walks
  fr : F r
  fv : ∀ g, rv.ownBlock = some g → F g
  fw : ∀ g, wv.ownBlock = some g → F g
theorem blk_type {w : World} {g : Nat} {e e' : TypeId} {cs cs' : List Value} (h : Blk w g e cs) (h' : Blk w g e' cs') : e = e' := by
  have h1 : w.heap[g]? = some (.cells cs.toArray e (0, 0)) := h
  have h2 : w.heap[g]? = some (.cells cs'.toArray e' (0, 0)) := h'
  rw [h1] at h2; simp at h2; exact h2.2
section
variable {F G : Nat → Prop} {w w' : World} {r : Nat} {R : Rt} {rv wv : Value}
theorem RWit.ne (h : RWit F w r R rv wv) : rv.ownBlock ≠ some r ∧ wv.ownBlock ≠ some r ∧ ∀ g, rv.ownBlock = some g → wv.ownBlock ≠ some g := by
  refine ⟨fun e => ?_, fun e => ?_, fun g e e' => ?_⟩
  · obtain ⟨_, _, cs, hc⟩ := h.rows.lt e
    have h1 := blk_type h.blk hc; cases h1
  · obtain ⟨_, _, cs, hc⟩ := h.walks.lt e
    have h1 := blk_type h.blk hc; cases h1
  · obtain ⟨_, _, cs, hc⟩ := h.rows.lt e
    obtain ⟨_, _, cs', hc'⟩ := h.walks.lt e'
    have h1 := blk_type hc hc'; cases h1
theorem RWit.below (h : RWit F w r R rv wv) (hb : Below w.heap.size w w') : RWit F w' r R rv wv := ⟨blkDown h.blk hb, h.rows.below hb, h.walks.below hb, h.fr, h.fv, h.fw⟩
theorem RWit.turn (h : RWit F w r R rv wv) (ht : Turn G w w') (hd : ∀ k, F k → ¬ G k) : RWit F w' r R rv wv :=
  ⟨ht.blk h.blk (hd _ h.fr), h.rows.turn ht (fun g hg => hd _ (h.fv g hg)), h.walks.turn ht (fun g hg => hd _ (h.fw g hg)), h.fr, h.fv, h.fw⟩
theorem RWit.mono (h : RWit F w r R rv wv) (hg : ∀ k, k < w.heap.size → F k → G k) : RWit G w r R rv wv :=
  ⟨h.blk, h.rows, h.walks, hg _ h.blk.lt h.fr, fun g hk => hg g (h.rows.lt hk).2.1 (h.fv g hk), fun g hk => hg g (h.walks.lt hk).2.1 (h.fw g hk)⟩
end
def RTab (F : Nat → Prop) (w : World) (r : Nat) (R : Rt) : Prop := ∃ rv wv, RWit F w r R rv wv
end Go.Proofs.Ytagejkolgicecaa
