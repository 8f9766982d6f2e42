/- Maps from ints: what stands at each key. -/
import Derived.Test.YtagejkolgicecaaMm
namespace Go.Proofs.Ytagejkolgicecaa
open Go Go.RowKit Go.Maps

abbrev WF (x : Int) : Prop := (Lit.int .i64 x).wf = true
theorem key3 : Keyed Try.prog 3 := int_keyed Try.underlying3
theorem hkey3 {x : Int} (h : WF x) : keyOf Try.prog 3 (.int .i64 x) = some (.int .i64 x) := keyOf_int_mk Try.underlying3 h
theorem isKey (x : Int) (h : WF x) : WideAt.IsKeyLit (.int .i64 x) := key3.key (hkey3 h)

/-- how an element is read: its value, its datum, and back -/
structure Kind (α : Type) where
  en : α → Value
  dd : α → DataW Unit
  R : Value → Option (DataW Unit × List MemPlace)
  put : ∀ a, R (en a) = some (dd a, [])
  inv : ∀ v a ps, R v = some (dd a, ps) → v = en a

/-- rows: a value and a place -/
def rowR : Value → Option (DataW Unit × List MemPlace)
  | .agg cs => match cs.toList with
    | [.int .i64 a, .int .i64 b] => some (.agg [.lit (.int .i64 a), .lit (.int .i64 b)], [])
    | _ => none
  | _ => none
def rowV (x : Int × Nat) : Value := .agg #[.int .i64 x.1, .int .i64 (x.2 : Int)]
def rowK : Kind (Int × Nat) where
  en := rowV
  dd := fun x => .agg [.lit (.int .i64 x.1), .lit (.int .i64 (x.2 : Int))]
  R := rowR
  put := fun _ => rfl
  inv := fun v a ps h => by
    cases v <;> simp only [rowR] at h <;> try cases h
    rename_i cs
    obtain ⟨l⟩ := cs
    simp only at h
    split at h
    · simp only [Option.some.injEq, Prod.mk.injEq, DataW.agg.injEq, List.cons.injEq, DataW.lit.injEq, Lit.int.injEq, true_and, and_true] at h
      obtain ⟨⟨rfl, rfl⟩, _⟩ := h
      rfl
    · cases h
/-- places -/
def numR : Value → Option (DataW Unit × List MemPlace)
  | .int .i64 a => some (.lit (.int .i64 a), [])
  | _ => none
def numV (x : Nat) : Value := .int .i64 (x : Int)
def numK : Kind Nat where
  en := numV
  dd := fun x => .lit (.int .i64 (x : Int))
  R := numR
  put := fun _ => rfl
  inv := fun v a ps h => by
    unfold numR at h
    split at h
    · simp only [Option.some.injEq, Prod.mk.injEq, DataW.lit.injEq, Lit.int.injEq, true_and] at h
      rw [h.1]; rfl
    · cases h

/-- block b is a map of n keys, f tells what stands at each -/
def IMap {α : Type} (K : Kind α) (w : World) (b n : Nat) (f : Int → Option α) : Prop :=
  ∃ D, w.ownsMap Try.prog 3 K.R b n D ∧ Maps.size D = n ∧ ∀ x, WF x → (f x = none → Maps.has D (.int .i64 x) = false) ∧ (∀ a, f x = some a → Maps.has D (.int .i64 x) = true ∧ ∀ z, D.atKey (.int .i64 x) z = K.dd a)

theorem tight {w : World} {R : Value → Option (DataW Unit × List MemPlace)} {b n : Nat} {D : DataW Unit} (h : w.ownsMap Try.prog 3 R b n D) : w.ownsMap Try.prog 3 R b (Maps.size D) D := by
  obtain ⟨es, clock, hb, F, hs, rfl⟩ := h
  exact ⟨es, clock, hb, F, by simp [Maps.size, length_sorted], rfl⟩
theorem atKey_of_has {D : DataW Unit} {k : Lit} {z y : DataW Unit} (h : Maps.has D k = true) : D.atKey k z = D.atKey k y := by
  cases D <;> try (simp [Maps.has] at h; done)
  rename_i es
  rw [Maps.has_eq] at h
  obtain ⟨p, hp, hk⟩ := List.any_eq_true.1 h
  have hs : (es.find? (fun p => p.1.sameKey k)).isSome = true := List.find?_isSome.2 ⟨p, hp, hk⟩
  obtain ⟨x, hx⟩ := Option.isSome_iff_exists.1 hs
  simp [DataW.atKey, hx]

section
variable {α : Type} {K : Kind α} {w : World} {b n : Nat} {f : Int → Option α}
theorem IMap.lt (h : IMap K w b n f) : b < w.heap.size := by obtain ⟨D, h, _⟩ := h; exact h.lt
theorem IMap.isMap (h : IMap K w b n f) : ∃ es c, w.heap[b]? = some (.map es c) := by
  obtain ⟨D, ⟨es, c, hb, _⟩, _⟩ := h; exact ⟨es, c, hb⟩
theorem IMap.ne {g : Nat} {e : TypeId} {cs : List Value} (h : IMap K w b n f) (hb : Blk w g e cs) : b ≠ g := by
  obtain ⟨es, c, h1⟩ := h.isMap
  rintro rfl
  have h2 : w.heap[b]? = some (.cells cs.toArray e (0, 0)) := hb
  rw [h1] at h2; cases h2
theorem IMap.turn {F : Nat → Prop} {w' : World} (h : IMap K w b n f) (ht : Turn F w w') (hg : ¬ F b) : IMap K w' b n f := by
  obtain ⟨D, h1, h2, h3⟩ := h
  exact ⟨D, ht.map h1 hg, h2, h3⟩
theorem IMap.below {w' : World} (h : IMap K w b n f) (hb : Below w.heap.size w w') : IMap K w' b n f := h.turn (F := fun _ => False) (.of_below hb) (fun h => h)
theorem IMap.of_eq {g : Int → Option α} {m : Nat} (h : IMap K w b n f) (hn : n = m) (hf : ∀ x, WF x → f x = g x) : IMap K w b m g := by
  subst hn
  obtain ⟨D, h1, h2, h3⟩ := h
  exact ⟨D, h1, h2, fun x hx => by rw [← hf x hx]; exact h3 x hx⟩
theorem IMap.made (w : World) (K : Kind α) : IMap K (w.alloc (.map #[] 0)) w.heap.size 0 (fun _ => none) :=
  ⟨.map [], w.ownsMap_made Try.prog 3 K.R, rfl, fun x _ => ⟨fun _ => rfl, fun a h => by cases h⟩⟩
theorem IMap.look {t e : TypeId} (h : IMap K w b n f) (ht : Try.prog.underlying t = some (.map 3 e)) (a0 : α) (hz : (zeroValue e).run Try.prog w = .ok (K.en a0) w) {x : Int} (hx : WF x) :
    (Instr.lookup t (.map (some b)) (.int .i64 x) false).run Try.prog w = .ok (K.en ((f x).getD a0)) w := by
  obtain ⟨D, h1, h2, h3⟩ := h
  obtain ⟨v, ps, hr, hv⟩ := h1.lookup key3 ht hz (K.put a0) (hkey3 hx)
  obtain ⟨h4, h5⟩ := h3 x hx
  cases hf : f x with
  | none =>
    rw [Maps.atKey_of_not_has (h4 hf)] at hv
    rw [hr, K.inv _ _ _ hv]; rfl
  | some a =>
    rw [(h5 a hf).2] at hv
    rw [hr, K.inv _ _ _ hv]; rfl
theorem IMap.look_ok {t e : TypeId} (h : IMap K w b n f) (ht : Try.prog.underlying t = some (.map 3 e)) (a0 : α) (hz : (zeroValue e).run Try.prog w = .ok (K.en a0) w) {x : Int} (hx : WF x) :
    (Instr.lookup t (.map (some b)) (.int .i64 x) true).run Try.prog w = .ok (.tuple #[K.en ((f x).getD a0), .bool (f x).isSome]) w := by
  obtain ⟨D, h1, h2, h3⟩ := h
  obtain ⟨v, ps, hr, hv⟩ := h1.look_ok key3 ht hz (K.put a0) (hkey3 hx)
  obtain ⟨h4, h5⟩ := h3 x hx
  cases hf : f x with
  | none =>
    rw [Maps.atKey_of_not_has (h4 hf)] at hv
    rw [hr, K.inv _ _ _ hv, h4 hf]; rfl
  | some a =>
    rw [(h5 a hf).2] at hv
    rw [hr, K.inv _ _ _ hv, (h5 a hf).1]; rfl
theorem IMap.len {t e : TypeId} (h : IMap K w b n f) (ht : Try.prog.underlying t = some (.map 3 e)) (ty : TypeId) : (Builtin.len_ #[t] ty #[.map (some b)]).run Try.prog w = .ok (.int .i64 n) w := by
  obtain ⟨D, h1, h2, _⟩ := h
  rw [h1.len ht ty, h2]
def upd (f : Int → Option α) (x : Int) (a : Option α) : Int → Option α := fun y => if y = x then a else f y
theorem IMap.put {t e : TypeId} (h : IMap K w b n f) (ht : Try.prog.underlying t = some (.map 3 e)) (hn : n < maxLen) {x : Int} (hx : WF x) (a : α) :
    ∃ w', (Instr.mapUpdate t (.map (some b)) (.int .i64 x) (K.en a)).run Try.prog w = .ok () w' ∧ IMap K w' b (if (f x).isSome then n else n + 1) (upd f x (some a)) ∧ w.mapTurned w' b := by
  obtain ⟨D, h1, h2, h3⟩ := h
  obtain ⟨w', hr, h4, h5⟩ := h1.store key3 ht hn (hkey3 hx) (K.put a)
  have hT := h1.tidy key3
  obtain ⟨h6, h7⟩ := h3 x hx
  have hsz : Maps.size (D.put (.int .i64 x) (K.dd a)) = if (f x).isSome then n else n + 1 := by
    rw [Maps.size_put hT, h2]
    cases hf : f x with
    | none => rw [h6 hf]; rfl
    | some a' => rw [(h7 a' hf).1]; rfl
  refine ⟨w', hr, ⟨_, hsz ▸ tight h4, hsz, fun y hy => ?_⟩, h5⟩
  by_cases hyx : y = x
  · subst hyx
    simp only [upd, if_true]
    exact ⟨fun h => (by cases h), fun a' ha => by cases ha; exact ⟨Maps.has_put_same hT.isMap (isKey y hy) _, fun z => Maps.atKey_put_same hT.isMap (isKey y hy) _ z⟩⟩
  · have hne : (Lit.int .i64 y) ≠ .int .i64 x := fun e => hyx (by cases e; rfl)
    simp only [upd, if_neg hyx]
    rw [Maps.has_put_other hne]
    exact ⟨(h3 y hy).1, fun a' ha => ⟨((h3 y hy).2 a' ha).1, fun z => by rw [Maps.atKey_put_other hne]; exact ((h3 y hy).2 a' ha).2 z⟩⟩
theorem IMap.drop {t e : TypeId} (h : IMap K w b n f) (ht : Try.prog.underlying t = some (.map 3 e)) {x : Int} (hx : WF x) (ty : TypeId) :
    ∃ w', (Builtin.delete_ #[t, 3] ty #[.map (some b), .int .i64 x]).run Try.prog w = .ok (.tuple #[]) w' ∧ IMap K w' b (n - (if (f x).isSome then 1 else 0)) (upd f x none) ∧ w.mapTurned w' b := by
  obtain ⟨D, h1, h2, h3⟩ := h
  obtain ⟨w', hr, h4, h5⟩ := h1.drop key3 ht (hkey3 hx) ty
  have hT := h1.tidy key3
  obtain ⟨h6, h7⟩ := h3 x hx
  have hsz : Maps.size (D.del (.int .i64 x)) = n - (if (f x).isSome then 1 else 0) := by
    have := Maps.size_del (k := .int .i64 x) hT
    rw [h2] at this
    cases hf : f x with
    | none => rw [h6 hf] at this; simp at this ⊢; omega
    | some a' => rw [(h7 a' hf).1] at this; simp at this ⊢; omega
  refine ⟨w', hr, ⟨_, hsz ▸ tight h4, hsz, fun y hy => ?_⟩, h5⟩
  by_cases hyx : y = x
  · subst hyx
    simp only [upd, if_true]
    exact ⟨fun _ => Maps.has_del_same, fun a' ha => by cases ha⟩
  · have hne : (Lit.int .i64 y) ≠ .int .i64 x := fun e => hyx (by cases e; rfl)
    simp only [upd, if_neg hyx]
    rw [Maps.has_del_other hne]
    exact ⟨(h3 y hy).1, fun a' ha => ⟨((h3 y hy).2 a' ha).1, fun z => by rw [Maps.atKey_del_other hne]; exact ((h3 y hy).2 a' ha).2 z⟩⟩
end
theorem IMap.set {α : Type} {K : Kind α} {w : World} {b n : Nat} {f : Int → Option α} (h : IMap K w b n f) {g : Nat} (hg : b ≠ g) (j : Nat) (u : Value) : IMap K (w.setCell ⟨g, j, none⟩ u) b n f :=
  h.turn (F := fun k => k = g) (Turn.set (F := fun k => k = g) (Turn.refl _ w) g j rfl u) hg
theorem IMap.alloc {α : Type} {K : Kind α} {w : World} {b n : Nat} {f : Int → Option α} (h : IMap K w b n f) (o : Obj) : IMap K (w.alloc o) b n f := h.below (bSelf w o)
theorem IMap.drew {α : Type} {K : Kind α} {w : World} {b n : Nat} {f : Int → Option α} (h : IMap K w b n f) : IMap K w.drew b n f := h.below (Below.refl _ _).drew
theorem IMap.grown {α : Type} {K : Kind α} {w w' : World} {b n : Nat} {f : Int → Option α} {row : Option Nat} (h : IMap K w b n f) (hg : w.grownBy w' row) (hne : row ≠ some b) : IMap K w' b n f :=
  h.turn (F := fun k => row = some k) (.of_grown hg (fun _ e => e)) hne
/-- a store into a map, at the operation -/
theorem wpList_put {α : Type} {K : Kind α} (w : World) {ops : Array Oper} {rest : List Oper} {o : Oper} {a : Act} {Q : Exit → Act → World → Prop}
    (hg : o.guard = none) (m x v : Operand) (t : TypeId) (hop : o.op = Op.mapUpdate t m x v) (e : TypeId) (ht : Try.prog.underlying t = some (.map 3 e)) (b n : Nat) (f : Int → Option α)
    (hm : a.eval m = .map (some b)) (h : IMap K w b n f) (hn : n < maxLen) (k : Int) (a0 : α) (hx : a.eval x = .int .i64 k) (hv : a.eval v = K.en a0) (hk : WF k)
    (hK : ∀ w', IMap K w' b (if (f k).isSome then n else n + 1) (upd f k (some a0)) → w.mapTurned w' b → wpList Try.prog ops Q rest (a.put o.dst undef) w') :
    wpList Try.prog ops Q (o :: rest) a w := by
  refine wpList_plain hg fun K' hK' => ?_
  obtain ⟨w', hrun, r1, r2⟩ := h.put ht hn hk a0
  unfold Oper.wp
  simp [execOp, hop, hm, hx, hv, hrun, Result.andThen]
  exact hK' _ _ (hK w' r1 r2)
/-- the deletion of a key, at the operation -/
theorem wpList_drop {α : Type} {K : Kind α} (w : World) {ops : Array Oper} {rest : List Oper} {o : Oper} {a : Act} {Q : Exit → Act → World → Prop}
    (hg : o.guard = none) (m x : Operand) (t : TypeId) (hop : o.op = Op.call { callee := Callee.builtin Builtin.delete, args := #[m, x], argTypes := #[t, 3] }) (e : TypeId) (ht : Try.prog.underlying t = some (.map 3 e)) (b n : Nat) (f : Int → Option α)
    (hm : a.eval m = .map (some b)) (h : IMap K w b n f) (k : Int) (hx : a.eval x = .int .i64 k) (hk : WF k)
    (hK : ∀ w', IMap K w' b (n - (if (f k).isSome then 1 else 0)) (upd f k none) → w.mapTurned w' b → wpList Try.prog ops Q rest (a.put o.dst (.tuple #[])) w') :
    wpList Try.prog ops Q (o :: rest) a w := by
  refine wpList_plain hg fun K' hK' => ?_
  obtain ⟨w', hrun, r1, r2⟩ := h.drop ht hk o.type
  unfold Oper.wp
  simp [execOp, hop, resolve, invoke, builtin, hm, hx, hrun, Result.andThen]
  exact hK' _ _ (hK w' r1 r2)
theorem mturn {F : Nat → Prop} {w w' : World} {b : Nat} (h : w.mapTurned w' b) (hb : F b) : Turn F w w' := .of_grown h.grown (fun k e => by cases e; exact hb)
theorem mblk {w w' : World} {b g : Nat} {e : TypeId} {cs : List Value} (h : w.mapTurned w' b) (hb : Blk w g e cs) (hne : g ≠ b) : Blk w' g e cs := (h.grown.block g hb.lt (by simpa using hne)).trans hb
end Go.Proofs.Ytagejkolgicecaa
