/- A table as it is: its rows in order, its places, its walks; and how it lies in memory. -/
import Derived.Test.YtagejkolgicecaaMb
namespace Go.Proofs.Ytagejkolgicecaa
open Go Go.RowKit Go.Maps

structure Tb where
  ks : List Int
  rw : Int → Option (Int × Nat)
  pt : Nat
  nw : Nat
  wk : Int → Option Nat
  bg : Nat
  st : Bool
  fz : Bool

def Tb.pl (S : Tb) (x : Int) : Nat := ((S.rw x).getD (0, 0)).2
def Tb.vl (S : Tb) (x : Int) : Int := ((S.rw x).getD (0, 0)).1
def Tb.has (S : Tb) (x : Int) : Bool := (S.rw x).isSome

structure Ok (S : Tb) : Prop where
  nd : S.ks.Nodup
  wf : ∀ x ∈ S.ks, WF x
  mem : ∀ x, WF x → (S.has x = true ↔ x ∈ S.ks)
  inc : S.ks.Pairwise (fun x y => S.pl x < S.pl y)
  lo : ∀ x ∈ S.ks, 1 ≤ S.pl x ∧ S.pl x ≤ S.pt
  len : S.ks.length ≤ 500
  wlen : S.nw ≤ 20
  won : ∀ x, WF x → (S.wk x).isSome = true → 0 ≤ x ∧ x < (S.bg : Int)

def Tb.new : Tb := ⟨[], fun _ => none, 0, 0, fun _ => none, 0, false, false⟩
theorem ok_new : Ok Tb.new := ⟨List.nodup_nil, by simp [Tb.new], by simp [Tb.new, Tb.has], by simp [Tb.new], by simp [Tb.new], by simp [Tb.new], by simp [Tb.new], by simp [Tb.new]⟩

def Tb.set (S : Tb) (k v : Int) : Tb :=
  if S.has k then { S with rw := upd S.rw k (some (v, S.pl k)) }
  else { S with ks := S.ks ++ [k], pt := S.pt + 1, rw := upd S.rw k (some (v, S.pt + 1)) }
def Tb.closed (S : Tb) : Bool := S.st && decide (0 < S.nw)
def Tb.putE (S : Tb) (k : Int) : Int :=
  if S.fz then 13 else if !S.has k && S.closed then 8 else if !S.has k && decide (500 ≤ S.ks.length) then 9 else 0
def Tb.put (S : Tb) (k v : Int) : Tb := if S.putE k = 0 then S.set k v else S
def Tb.out (S : Tb) (i : Nat) (k : Int) : Tb := { S with ks := S.ks.eraseIdx i, rw := upd S.rw k none }

theorem pl_upd (S : Tb) (ks' : List Int) (pt' : Nat) (k : Int) (a : Option (Int × Nat)) (x : Int) :
    Tb.pl { S with ks := ks', pt := pt', rw := upd S.rw k a } x = if x = k then (a.getD (0, 0)).2 else S.pl x := by
  unfold Tb.pl upd; simp only; split <;> rfl
theorem has_upd (S : Tb) (ks' : List Int) (pt' : Nat) (k : Int) (a : Option (Int × Nat)) (x : Int) :
    Tb.has { S with ks := ks', pt := pt', rw := upd S.rw k a } x = if x = k then a.isSome else S.has x := by
  unfold Tb.has upd; simp only; split <;> rfl

theorem Ok.set {S : Tb} (h : Ok S) {k : Int} (hk : WF k) (v : Int) (hl : S.has k = false → S.ks.length < 500) : Ok (S.set k v) := by
  unfold Tb.set
  cases hh : S.has k with
  | true =>
    simp only [if_true]
    have hp : ∀ x, Tb.pl { S with rw := upd S.rw k (some (v, S.pl k)) } x = S.pl x := fun x => by
      have := pl_upd S S.ks S.pt k (some (v, S.pl k)) x
      rw [this]; split
      · rename_i e; rw [e]; rfl
      · rfl
    refine ⟨h.nd, h.wf, fun x hx => ?_, ?_, fun x hx => by rw [hp]; exact h.lo x hx, h.len, h.wlen, h.won⟩
    · have := has_upd S S.ks S.pt k (some (v, S.pl k)) x
      rw [this]; split
      · rename_i e; subst e; simpa [hh] using h.mem x hx
      · exact h.mem x hx
    · exact h.inc.imp (fun hxy => by rw [hp, hp]; exact hxy)
  | false =>
    simp only [Bool.false_eq_true, if_false]
    have hn : k ∉ S.ks := fun hm => by have := (h.mem k hk).2 hm; rw [hh] at this; cases this
    have hne : ∀ x ∈ S.ks, x ≠ k := fun x hx e => hn (e ▸ hx)
    have hp : ∀ x ∈ S.ks, Tb.pl { S with ks := S.ks ++ [k], pt := S.pt + 1, rw := upd S.rw k (some (v, S.pt + 1)) } x = S.pl x := fun x hx => by
      rw [pl_upd, if_neg (hne x hx)]
    have hq : Tb.pl { S with ks := S.ks ++ [k], pt := S.pt + 1, rw := upd S.rw k (some (v, S.pt + 1)) } k = S.pt + 1 := by rw [pl_upd, if_pos rfl]; rfl
    refine ⟨?_, ?_, fun x hx => ?_, ?_, ?_, ?_, h.wlen, h.won⟩
    · exact List.nodup_append.2 ⟨h.nd, by simp, fun a ha b hb => by simp at hb; subst hb; exact hne a ha⟩
    · intro x hx
      rcases List.mem_append.1 hx with hx | hx
      · exact h.wf x hx
      · simp at hx; subst hx; exact hk
    · rw [has_upd]
      by_cases e : x = k
      · subst e; simp
      · rw [if_neg e]; simpa [e] using h.mem x hx
    · refine List.pairwise_append.2 ⟨?_, by simp, fun a ha b hb => ?_⟩
      · refine h.inc.imp_of_mem (fun {a b} ha hb hab => ?_)
        rw [hp a ha, hp b hb]; exact hab
      · simp at hb; subst hb
        rw [hp a ha, hq]; have := (h.lo a ha).2; omega
    · intro x hx
      rcases List.mem_append.1 hx with hx | hx
      · rw [hp x hx]; have := h.lo x hx; simp only; omega
      · simp at hx; subst hx; rw [hq]; simp only; omega
    · simp; have := hl hh; omega
theorem Ok.out {S : Tb} (h : Ok S) {i : Nat} {k : Int} (hi : S.ks[i]? = some k) : Ok (S.out i k) := by
  obtain ⟨hlt, he⟩ := List.getElem?_eq_some_iff.1 hi
  have hsub := List.eraseIdx_sublist S.ks i
  have hmem : ∀ x, x ∈ S.ks.eraseIdx i ↔ x ∈ S.ks ∧ x ≠ k := fun x => by
    constructor
    · intro hx
      refine ⟨hsub.mem hx, ?_⟩
      rintro rfl
      obtain ⟨j, hj, hne, hjk⟩ := List.mem_eraseIdx_iff_getElem.1 hx
      exact hne ((List.getElem_inj h.nd).1 (hjk.trans he.symm))
    · rintro ⟨hx, hne⟩
      obtain ⟨j, hj, rfl⟩ := List.getElem_of_mem hx
      exact List.mem_eraseIdx_iff_getElem.2 ⟨j, hj, fun e => hne (by subst e; exact he), rfl⟩
  have hp : ∀ x ∈ S.ks.eraseIdx i, (S.out i k).pl x = S.pl x := fun x hx => by
    have := pl_upd S (S.ks.eraseIdx i) S.pt k none x
    unfold Tb.out; rw [this, if_neg ((hmem x).1 hx).2]
  refine ⟨h.nd.sublist hsub, fun x hx => h.wf x (hsub.mem hx), fun x hx => ?_, ?_, fun x hx => ?_, ?_, h.wlen, h.won⟩
  · have := has_upd S (S.ks.eraseIdx i) S.pt k none x
    show Tb.has { S with ks := S.ks.eraseIdx i, rw := upd S.rw k none } x = true ↔ _
    rw [this]
    show _ ↔ x ∈ S.ks.eraseIdx i
    rw [hmem]
    by_cases e : x = k
    · simp [e]
    · simp [e, h.mem x hx]
  · refine (h.inc.sublist hsub).imp_of_mem (fun {a b} ha hb hab => ?_)
    rw [hp a ha, hp b hb]; exact hab
  · rw [hp x hx]; exact h.lo x (hsub.mem hx)
  · have := hsub.length_le; have := h.len; show (S.ks.eraseIdx i).length ≤ 500; omega

/-- how a table lies in memory: at block b, all its blocks among F -/
structure Wit (F : Nat → Prop) (w : World) (b : Nat) (S : Tb) (m0 m1 : Nat) (kv : Value) : Prop where
  blk : Blk w b 69 [.map (some m0), kv, .int .i64 (S.pt : Int), .map (some m1), .int .i64 (S.bg : Int), .bool S.st, .bool S.fz]
  rows : IMap rowK w m0 S.ks.length S.rw
  walks : IMap numK w m1 S.nw S.wk
  keys : w.ownsRow 0 3 1 kv S.ks.length (S.ks.map (Value.int .i64))
  fb : F b
  f0 : F m0
  f1 : F m1
  fk : ∀ g, kv.ownBlock = some g → F g
  ne : m0 ≠ m1
def Tab (F : Nat → Prop) (w : World) (b : Nat) (S : Tb) : Prop := Ok S ∧ ∃ m0 m1 kv, Wit F w b S m0 m1 kv

theorem Wit.ne0 {F : Nat → Prop} {w : World} {b : Nat} {S : Tb} {m0 m1 : Nat} {kv : Value} (h : Wit F w b S m0 m1 kv) : b ≠ m0 := (h.rows.ne h.blk).symm
theorem Wit.ne1 {F : Nat → Prop} {w : World} {b : Nat} {S : Tb} {m0 m1 : Nat} {kv : Value} (h : Wit F w b S m0 m1 kv) : b ≠ m1 := (h.walks.ne h.blk).symm
theorem row_block {w : World} {n : Nat} {v : Value} {xs : List Value} {e : TypeId} (h : w.ownsRow 0 e 1 v n xs) {g : Nat} (hg : v.ownBlock = some g) : ∃ cs, Blk w g e cs := by
  obtain ⟨_, h1 | ⟨g', cs, rfl, _, _, h2, _⟩⟩ := row_cases h
  · rw [h1.1] at hg; cases hg
  · cases hg; exact ⟨cs, h2⟩
theorem Wit.kne {F : Nat → Prop} {w : World} {b : Nat} {S : Tb} {m0 m1 : Nat} {kv : Value} (h : Wit F w b S m0 m1 kv) : kv.ownBlock ≠ some b ∧ kv.ownBlock ≠ some m0 ∧ kv.ownBlock ≠ some m1 := by
  refine ⟨fun e => ?_, fun e => ?_, fun e => ?_⟩
  · obtain ⟨cs, hc⟩ := row_block h.keys e
    have h1 : w.heap[b]? = some (.cells _ 69 (0, 0)) := h.blk
    have h2 : w.heap[b]? = some (.cells cs.toArray 3 (0, 0)) := hc
    rw [h1] at h2; simp at h2
  · obtain ⟨cs, hc⟩ := row_block h.keys e
    exact h.rows.ne hc rfl
  · obtain ⟨cs, hc⟩ := row_block h.keys e
    exact h.walks.ne hc rfl
theorem ownsRow_turn {F : Nat → Prop} {w w' : World} {e : TypeId} {v : Value} {n : Nat} {xs : List Value} (h : w.ownsRow 0 e 1 v n xs) (ht : Turn F w w') (hg : ∀ g, v.ownBlock = some g → ¬ F g) : w'.ownsRow 0 e 1 v n xs := by
  refine ⟨h.1, ?_⟩
  rcases h.2 with hn | ⟨g, cap, cur, rfl, hb, hgg, rest⟩
  · exact .inl hn
  · exact .inr ⟨g, cap, cur, rfl, hb, (ht.block g (lt_of_block hgg) (hg g rfl)).trans hgg, rest⟩
/-- a table that is not among what a call turns -/
theorem Wit.turn {F G : Nat → Prop} {w w' : World} {b : Nat} {S : Tb} {m0 m1 : Nat} {kv : Value} (h : Wit F w b S m0 m1 kv) (ht : Turn G w w') (hd : ∀ k, F k → ¬ G k) : Wit F w' b S m0 m1 kv :=
  ⟨ht.blk h.blk (hd _ h.fb), h.rows.turn ht (hd _ h.f0), h.walks.turn ht (hd _ h.f1), ownsRow_turn h.keys ht (fun g hg => hd _ (h.fk g hg)), h.fb, h.f0, h.f1, h.fk, h.ne⟩
theorem Wit.below {F : Nat → Prop} {w w' : World} {b : Nat} {S : Tb} {m0 m1 : Nat} {kv : Value} (h : Wit F w b S m0 m1 kv) (hb : Below w.heap.size w w') : Wit F w' b S m0 m1 kv :=
  ⟨blkDown h.blk hb, h.rows.below hb, h.walks.below hb, ownsRow_below h.keys hb, h.fb, h.f0, h.f1, h.fk, h.ne⟩
theorem Wit.mono {F G : Nat → Prop} {w : World} {b : Nat} {S : Tb} {m0 m1 : Nat} {kv : Value} (h : Wit F w b S m0 m1 kv) (hg : ∀ k, k < w.heap.size → F k → G k) : Wit G w b S m0 m1 kv :=
  ⟨h.blk, h.rows, h.walks, h.keys, hg _ h.blk.lt h.fb, hg _ h.rows.lt h.f0, hg _ h.walks.lt h.f1, fun g hk => hg g (by obtain ⟨cs, hc⟩ := row_block h.keys hk; exact hc.lt) (h.fk g hk), h.ne⟩
theorem Tab.turn {F G : Nat → Prop} {w w' : World} {b : Nat} {S : Tb} (h : Tab F w b S) (ht : Turn G w w') (hd : ∀ k, F k → ¬ G k) : Tab F w' b S := by
  obtain ⟨h1, m0, m1, kv, h2⟩ := h; exact ⟨h1, m0, m1, kv, h2.turn ht hd⟩
theorem Tab.below {F : Nat → Prop} {w w' : World} {b : Nat} {S : Tb} (h : Tab F w b S) (hb : Below w.heap.size w w') : Tab F w' b S := by
  obtain ⟨h1, m0, m1, kv, h2⟩ := h; exact ⟨h1, m0, m1, kv, h2.below hb⟩
theorem Tab.mono {F G : Nat → Prop} {w : World} {b : Nat} {S : Tb} (h : Tab F w b S) (hg : ∀ k, k < w.heap.size → F k → G k) : Tab G w b S := by
  obtain ⟨h1, m0, m1, kv, h2⟩ := h; exact ⟨h1, m0, m1, kv, h2.mono hg⟩
theorem keys_read {w : World} {kv : Value} {l : List Int} (h : w.ownsRow 0 3 1 kv l.length (l.map (Value.int .i64))) :
    (kv = .slice none 0 0 ∧ l = []) ∨ ∃ g cap, kv = .slice (some ⟨g, 0, none⟩) l.length cap ∧ l.length ≤ cap ∧ cap ≤ maxLen ∧ g < w.heap.size ∧ (∀ k x, l[k]? = some x → w.cell? ⟨g, k, none⟩ = some (.int .i64 x)) ∧ (∀ k, w.frozen? ⟨g, k, none⟩ = false) := by
  obtain ⟨_, ⟨h1, h2, h3⟩ | ⟨g, cs, h1, _, h2, h3, h4, h5, h6⟩⟩ := row_cases h
  · exact .inl ⟨h1, List.length_eq_zero_iff.1 h2⟩
  · refine .inr ⟨g, cs.length, h1, h4, h5, h2, fun k x hx => h3.cell k ?_, fun k => h3.free k⟩
    have hx' : (l.map (Value.int .i64))[k]? = some (.int .i64 x) := by simp [hx]
    rw [← h6, List.getElem?_take] at hx'
    split at hx'
    · exact hx'
    · cases hx'
theorem keys_form {w : World} {kv : Value} {l : List Int} (h : w.ownsRow 0 3 1 kv l.length (l.map (Value.int .i64))) :
    ∃ ao cap, kv = .slice ao l.length cap ∧ l.length ≤ cap ∧ cap ≤ maxLen ∧ ∀ k x, l[k]? = some x → ∃ g, ao = some ⟨g, 0, none⟩ ∧ w.cell? ⟨g, k, none⟩ = some (.int .i64 x) := by
  rcases keys_read h with ⟨rfl, rfl⟩ | ⟨g, cap, rfl, h1, h2, _, h3, _⟩
  · exact ⟨none, 0, rfl, by simp, by simp, fun k x hx => by simp at hx⟩
  · exact ⟨_, cap, rfl, h1, h2, fun k x hx => ⟨g, rfl, h3 k x hx⟩⟩
end Go.Proofs.Ytagejkolgicecaa
