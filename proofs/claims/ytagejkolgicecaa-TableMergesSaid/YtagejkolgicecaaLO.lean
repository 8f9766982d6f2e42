/- TableOrder: what is wanted is what the table has. -/
import Derived.Test.YtagejkolgicecaaL
import Derived.Test.YtagejkolgicecaaKE
namespace Go.Proofs.Ytagejkolgicecaa
open Go Go.RowKit Go.Maps
def Ds3 (w : World) (ao : Option Addr) (ds : List (Int × Int × Int)) : Prop :=
  ∀ (j : Nat) (d a b : Int), ds[j]? = some (d, a, b) → ∃ db off, ao = some ⟨db, off, none⟩ ∧ db < w.heap.size ∧ w.cell? ⟨db, off + j * 4, none⟩ = some (.int .i64 d) ∧ w.cell? ⟨db, off + j * 4 + 1, none⟩ = some (.int .i64 a) ∧ w.cell? ⟨db, off + j * 4 + 2, none⟩ = some (.int .i64 b)
theorem Ds3.below {w w' : World} {ao : Option Addr} {ds : List (Int × Int × Int)} (h : Ds3 w ao ds) (hb : Below w.heap.size w w') : Ds3 w' ao ds := fun j d a b hj => by
  obtain ⟨db, off, h1, h2, h3, h4, h5⟩ := h j d a b hj
  exact ⟨db, off, h1, Nat.lt_of_lt_of_le h2 hb.size, below_cell hb h3, below_cell hb h4, below_cell hb h5⟩
def PrsB (B : Nat) (w : World) (v : Value) (rs : List (Int × Int)) : Prop := w.ownsRow B 42 2 v rs.length (pcs rs)
theorem PrsB.below {B : Nat} {w w' : World} {v : Value} {rs : List (Int × Int)} (h : PrsB B w v rs) (hb : Below w.heap.size w w') : PrsB B w' v rs := ownsRow_below h hb
theorem PrsB.prs {B : Nat} {w : World} {v : Value} {rs : List (Int × Int)} (h : PrsB B w v rs) : Prs w v rs := by
  obtain ⟨h1, h2 | ⟨g, c, cu, h3, _, h4⟩⟩ := h
  · exact ⟨h1, .inl h2⟩
  · exact ⟨h1, .inr ⟨g, c, cu, h3, Nat.zero_le _, h4⟩⟩
theorem PrsB.turn {B : Nat} {F : Nat → Prop} {w w' : World} {v : Value} {rs : List (Int × Int)} (h : PrsB B w v rs) (ht : Turn F w w') (hg : ∀ g, v.ownBlock = some g → ¬ F g) : PrsB B w' v rs := by
  refine ⟨h.1, ?_⟩
  rcases h.2 with hn | ⟨g, cap, cur, rfl, hb, hgg, rest⟩
  · exact .inl hn
  · exact .inr ⟨g, cap, cur, rfl, hb, (ht.block g (lt_of_block hgg) (hg g rfl)).trans hgg, rest⟩
/-- the table, and the list that is wanted, apart -/
def OrdAt (w : World) (b : Nat) (wr : World) (S : Tb) (v : Value) (rs : List (Int × Int)) : Prop :=
  ∃ G : Nat → Prop, Tab G wr b S ∧ (∀ i, G i → w.heap.size ≤ i ∧ i < wr.heap.size) ∧ PrsB w.heap.size wr v rs ∧ (∀ g, v.ownBlock = some g → ¬ G g) ∧ Below w.heap.size w wr
theorem OrdAt.below {w wr w' : World} {b : Nat} {S : Tb} {v : Value} {rs : List (Int × Int)} (h : OrdAt w b wr S v rs) (hb : Below wr.heap.size wr w') : OrdAt w b w' S v rs := by
  obtain ⟨G, h1, h2, h3, h4, h5⟩ := h
  exact ⟨G, h1.below hb, fun i hi => ⟨(h2 i hi).1, Nat.lt_of_lt_of_le (h2 i hi).2 hb.size⟩, h3.below hb, h4, bThen h5 hb⟩
/-- a call at the table -/
theorem OrdAt.call {w wr : World} {b : Nat} {S : Tb} {v : Value} {rs : List (Int × Int)} (h : OrdAt w b wr S v rs) :
    ∃ F : Nat → Prop, Tab F wr b S ∧ (∀ i, wr.heap.size ≤ i → F i) ∧ ∀ w' S', Tab F w' b S' → Turn F wr w' → OrdAt w b w' S' v rs := by
  obtain ⟨G, h1, h2, h3, h4, h5⟩ := h
  refine ⟨fun i => G i ∨ wr.heap.size ≤ i, h1.mono (fun _ _ h => .inl h), fun i hi => .inr hi, fun w' S' hT hU => ?_⟩
  have hsz := hU.size
  have hw := h5.size
  refine ⟨fun i => (G i ∨ wr.heap.size ≤ i) ∧ i < w'.heap.size, hT.mono (fun i hi hf => ⟨hf, hi⟩), fun i hi => ⟨?_, hi.2⟩, h3.turn hU (fun g hg => ?_), fun g hg hf => ?_, h5.trans (hU.below hw (fun k hk => ?_))⟩
  · rcases hi.1 with h | h
    · exact (h2 i h).1
    · omega
  · rintro (h | h)
    · exact h4 g hg h
    · have := (h3.prs.read); obtain ⟨_, _, _, _, _, h6⟩ := this; have := h6 g hg; omega
  · rcases hf.1 with h | h
    · exact h4 g hg h
    · have := (h3.prs.read); obtain ⟨_, _, _, _, _, h6⟩ := this; have := h6 g hg; omega
  · rcases hk with h | h
    · exact (h2 k h).1
    · omega
/-- the wanted list, changed at its own block or laid anew -/
theorem OrdAt.want {w wr w' : World} {b : Nat} {S : Tb} {v v' : Value} {rs rs' : List (Int × Int)} (h : OrdAt w b wr S v rs) (hg : wr.grownBy w' v.ownBlock) (hp : PrsB w.heap.size w' v' rs') (hv : v.ownBlock = v'.ownBlock ∨ ∃ g, v'.ownBlock = some g ∧ wr.heap.size ≤ g) : OrdAt w b w' S v' rs' := by
  obtain ⟨G, h1, h2, h3, h4, h5⟩ := h
  have hU : Turn (fun i => v.ownBlock = some i) wr w' := .of_grown hg (fun _ e => e)
  refine ⟨G, h1.turn hU (fun k hk e => h4 k e hk), fun i hi => ⟨(h2 i hi).1, Nat.lt_of_lt_of_le (h2 i hi).2 hg.size⟩, hp, fun g hgv hG => ?_, h5.trans ⟨hg.os, hg.tape, hg.output, hg.size, fun k hk => hg.block k (by have := h5.size; omega) (fun e => ?_)⟩⟩
  · rcases hv with h | ⟨g', h6, h7⟩
    · exact h4 g (h.trans hgv) hG
    · rw [h6] at hgv; cases hgv; have := (h2 g hG).2; omega
  · rcases h3.2 with ⟨h6, _⟩ | ⟨g5, c5, cu5, h6, h7, _⟩
    · rw [h6] at e; cases e
    · rw [h6] at e
      have e2 : k = g5 := Option.some.inj e
      omega
theorem rows_keys (S : Tb) : S.rows.map Prod.fst = S.ks := by unfold Tb.rows; rw [List.map_map]; simp [Function.comp_def]
theorem vl_upd (S : Tb) (ks' : List Int) (pt' : Nat) (k : Int) (a : Option (Int × Nat)) (x : Int) :
    Tb.vl { S with ks := ks', pt := pt', rw := upd S.rw k a } x = if x = k then (a.getD (0, 0)).1 else S.vl x := by
  unfold Tb.vl upd; simp only; split <;> rfl
def updR (k v : Int) (r : Int × Int) : Int × Int := if r.1 = k then (k, v) else r
theorem rows_set {S : Tb} (h : Ok S) {k : Int} (hk : WF k) (v : Int) : (S.set k v).rows = S.rows.map (updR k v) ++ (if S.has k then [] else [(k, v)]) := by
  cases hh : S.has k with
  | true =>
    rw [set_has v hh]
    unfold Tb.rows
    simp only [if_true, List.append_nil, List.map_map]
    refine List.map_congr_left (fun x _ => ?_)
    have := vl_upd S S.ks S.pt k (some (v, S.pl k)) x
    rw [this]
    simp only [Function.comp_apply, updR]
    split
    · rename_i e; rw [e]; rfl
    · rfl
  | false =>
    rw [set_new v hh]
    have hn : k ∉ S.ks := fun hm => by have := (h.mem k hk).2 hm; rw [hh] at this; cases this
    unfold Tb.rows
    simp only [Bool.false_eq_true, if_false, List.map_append, List.map_cons, List.map_nil, List.map_map]
    congr 1
    · refine List.map_congr_left (fun x hx => ?_)
      have hne : x ≠ k := fun e => hn (e ▸ hx)
      rw [vl_upd, if_neg hne]
      simp [updR, hne]
    · rw [vl_upd, if_pos rfl]; rfl
theorem rows_del {S : Tb} (hf : S.fz = false) (k : Int) (h : Ok S) (hk : WF k) : (S.del k).rows = S.rows.filter (fun r => !decide (r.1 = k)) := by
  unfold Tb.del
  rw [if_neg (by rw [hf]; simp)]
  split
  · unfold Tb.rows
    rw [List.filter_map]
    simp only
    refine List.map_congr_left (fun x hx => ?_)
    have hx' : x ≠ k := by simpa using (List.mem_filter.1 hx).2
    have := vl_upd S (S.ks.filter (fun x => !decide (x = k))) S.pt k none x
    rw [this, if_neg hx']
  · rename_i hh
    have hn : k ∉ S.ks := fun hm => hh ((h.mem k hk).2 hm)
    unfold Tb.rows
    rw [List.filter_map]
    refine congrArg _ (List.filter_eq_self.2 (fun x hx => ?_)).symm
    simp only [Function.comp_apply, Bool.not_eq_true', decide_eq_false_iff_not]
    exact fun e => hn (e ▸ hx)
theorem has_rows {S : Tb} (h : Ok S) {k : Int} (hk : WF k) : S.has k = S.rows.any (fun r => decide (r.1 = k)) := by
  have h1 : S.rows.any (fun r => decide (r.1 = k)) = decide (k ∈ S.ks) := by
    rw [← rows_keys S, Bool.eq_iff_iff]; simp
  rw [h1, Bool.eq_iff_iff, h.mem k hk]; simp
structure OrdI (j : Nat) (S : Tb) : Prop where
  fz : S.fz = false
  st : S.st = false
  len : S.ks.length ≤ j
  pt : S.pt ≤ j
theorem OrdI.put {j : Nat} {S : Tb} (h : OrdI j S) (k v : Int) : OrdI (j + 1) (S.set k v) :=
  ⟨by rw [fz_set]; exact h.fz, by rw [st_set]; exact h.st, by rw [len_set]; have := h.len; split <;> omega, by have := pt_set S k v; have := h.pt; omega⟩
theorem OrdI.del {j : Nat} {S : Tb} (h : OrdI j S) (k : Int) : OrdI (j + 1) (S.del k) := by
  unfold Tb.del
  rw [if_neg (by rw [h.fz]; simp)]
  split
  · exact ⟨h.fz, h.st, by have h1 := List.length_filter_le (fun x => !decide (x = k)) S.ks; have := h.len; simp only; omega, by have := h.pt; show S.pt ≤ _; omega⟩
  · exact ⟨h.fz, h.st, by have := h.len; omega, by have := h.pt; omega⟩
theorem OrdI.first : OrdI 0 Tb.new := ⟨rfl, rfl, Nat.le_refl _, Nat.le_refl _⟩
end Go.Proofs.Ytagejkolgicecaa
