/- Bytes in memory: made, appended, copied, turned into a string; what stays of a world. -/
import Derived.Test.YtmbnckmhngijdaaGreatDoorF
import Derived.OwnWalk
import Derived.Laws.CopyOwn
import Derived.Lib.LazyBuf
import Derived.Lib.BufferWrite
namespace Go.Proofs.YtmbnckmhngijdaaGreatDoor
open Go Go.RowKit

theorem infoB : (Tryz.prog.info? 5).map (fun i => (i.zero, i.size, i.bytes)) = some (some (.int .u8 0), 1, 1) := by kernel_rfl
theorem made_one (z : Value) (n : Nat) (h : z.cells = #[z]) : (madeCells z.cells (n * 1)).toList = List.replicate n z := by
  rw [h]; apply List.ext_getElem
  · simp [madeCells]
  · intro i h1 h2
    simp [madeCells, Nat.mod_one]
/-- make([]byte, n) -/
theorem mk8 (w : World) {ops : Array Oper} {rest : List Oper} {o : Oper} {a : Act} {Q : Exit → Act → World → Prop}
    (hg : o.guard = none) (l c : Operand) (hop : o.op = Op.makeSlice 72 l c) (L C : Int) (n : Nat) (hl : a.eval l = .int .i64 L) (hc : a.eval c = .int .i64 C) (hL : L = (n : Int)) (hC : C = (n : Int)) (hn : n ≤ 1099511627776)
    (hK : ∀ w', Hid (Blk w' w.heap.size 5 (c8 (List.replicate n 0))) → Below w.heap.size w w' → wpList Tryz.prog ops Q rest (a.put o.dst (.slice (some ⟨w.heap.size, 0, none⟩) n n)) w') :
    wpList Tryz.prog ops Q (o :: rest) a w := by
  obtain ⟨i0, hi, hz0, hz1, hz2⟩ := info_parts infoB
  refine wpList_make_full w hg l c 72 hop w.heap.size 5 i0 (.int .u8 0) 1 Tryz.underlying72 hi hz0 hz1 .i64 .i64 L C n hl hc hL hC (by rw [hz2]; omega) (by unfold maxLen; omega) (Nat.le_refl _) (fun w' h1 h2 => ?_)
  obtain ⟨_, h3 | ⟨g, cs, h3, h4, h5, h6, h7, h8, h9⟩⟩ := row_cases h1
  · exact absurd h3.1 (by simp)
  · simp only [Value.slice.injEq, Option.some.injEq, Addr.mk.injEq] at h3
    obtain ⟨⟨rfl, _, _⟩, _, h10⟩ := h3
    rw [← h10] at h7
    refine hK w' ?_ ⟨h2.os, h2.tape, h2.output, h2.size, fun k hk => h2.block k hk (by simp)⟩
    show Blk _ _ _ _
    rw [List.take_of_length_le (by omega), made_one _ _ rfl] at h9
    rw [h9] at h6
    simpa [c8] using h6
/-- bytes of a list stand in a block from its head on -/
def Rd (w : World) (g : Nat) (b : List UInt8) : Prop := ∀ (k : Nat) (x : UInt8), b[k]? = some x → w.cell? ⟨g, k, none⟩ = some (.int .u8 x.toNat)
theorem Blk.rd {w : World} {g : Nat} {b : List UInt8} (h : Blk w g 5 (c8 b)) : Rd w g b := fun _ _ hx => h.cell _ (c8_get hx)
theorem Rd.below {w w' : World} {g : Nat} {b : List UInt8} (h : Rd w g b) (hb : Below w.heap.size w w') : Rd w' g b := fun k x hx => below_cell hb (h k x hx)
/-- append(bytes of the call's own, bytes..) -/
theorem app8n {w : World} {ops : Array Oper} {rest : List Oper} {o : Oper} {a : Act} {Q : Exit → Act → World → Prop} (hgd : o.guard = none) (s x : Operand)
    (ho : o.op = .call { callee := .builtin .append, args := #[s, x], argTypes := #[72, 72] }) (base : Nat) (v : Value) (n : Nat) (ys : List UInt8) (hs : a.eval s = v) (hown : w.ownsRow base 5 1 v n (c8 ys))
    (g m c : Nat) (b : List UInt8) (hx : a.eval x = .slice (some ⟨g, 0, none⟩) m c) (hm : b.length = m) (hc : Rd w g b) (hn : n + m ≤ 1000000000) (hbase : base ≤ w.heap.size)
    (h : ∀ v' w', Hid (w'.ownsRow base 5 1 v' (n + m) (c8 (ys ++ b))) → Hid (w.grownBy w' v.ownBlock) → wpList Tryz.prog ops Q rest (a.put o.dst v') w') :
    wpList Tryz.prog ops Q (o :: rest) a w := by
  obtain ⟨i0, hi, hz0, hz1, hz2⟩ := info_parts infoB
  refine wpList_append_own w hgd s x 72 ho base 5 i0 (.int .u8 0) 1 1 Tryz.underlying72 hi hz0 hz1 hz2 rfl (by decide) v n (c8 ys) hs hown ⟨g, 0, none⟩ m c (c8 b) hx (by simp [hm]) ?_ (by simp [Value.oneCell', c8]) (by unfold maxLen; omega) (by omega) hbase (fun v' w' h1 h2 _ => h v' w' ?_ h2)
  · intro j u hu
    rw [add_addr, Nat.zero_add]
    rw [c8, List.getElem?_map] at hu
    cases hb : b[j]? with
    | none => rw [hb] at hu; cases hu
    | some x => rw [hb] at hu; cases hu; exact hc j x hb
  · show World.ownsRow _ _ _ _ _ _ _
    rw [c8, List.map_append]
    exact h1
/-- what stays of a world but for some blocks -/
structure Kp (S : Nat → Prop) (w w' : World) : Prop where
  os : w'.os = w.os
  tape : w'.tape = w.tape
  output : w'.output = w.output
  size : w.heap.size ≤ w'.heap.size
  block : ∀ k, k < w.heap.size → ¬ S k → w'.heap[k]? = w.heap[k]?
theorem Kp.refl (S : Nat → Prop) (w : World) : Kp S w w := ⟨rfl, rfl, rfl, Nat.le_refl _, fun _ _ _ => rfl⟩
theorem Kp.trans {S T : Nat → Prop} {w w1 w2 : World} (h : Kp S w w1) (k : Kp T w1 w2) (hT : ∀ g, T g → S g ∨ w.heap.size ≤ g) : Kp S w w2 :=
  ⟨k.os.trans h.os, k.tape.trans h.tape, k.output.trans h.output, Nat.le_trans h.size k.size, fun g hg hs => (k.block g (Nat.lt_of_lt_of_le hg h.size) (fun ht => by
    rcases hT g ht with h1 | h1
    · exact hs h1
    · omega)).trans (h.block g hg hs)⟩
theorem Kp.of {w w' : World} (S : Nat → Prop) (hb : Below w.heap.size w w') : Kp S w w' := ⟨hb.os, hb.tape, hb.output, hb.size, fun k hk _ => hb.block k hk⟩
theorem Kp.grown {w w' : World} {row : Option Nat} (h : w.grownBy w' row) : Kp (fun k => row = some k) w w' := ⟨h.os, h.tape, h.output, h.size, fun k hk hs => h.block k hk (fun e => hs e.symm)⟩
theorem Kp.set (w : World) (g j : Nat) (u : Value) : Kp (fun k => k = g) w (w.setCell ⟨g, j, none⟩ u) :=
  ⟨rfl, rfl, rfl, by simp, fun k _ hs => Below.heap_setCell w ⟨g, j, none⟩ u k hs⟩
theorem Kp.weaken {S T : Nat → Prop} {w w' : World} (h : Kp S w w') (hS : ∀ g, S g → T g) : Kp T w w' := ⟨h.os, h.tape, h.output, h.size, fun k hk hs => h.block k hk (fun hh => hs (hS k hh))⟩
theorem Kp.below {S : Nat → Prop} {w w' : World} {B : Nat} (h : Kp S w w') (hS : ∀ g, S g → B ≤ g) (hB : B ≤ w.heap.size) : Below B w w' :=
  ⟨h.os, h.tape, h.output, h.size, fun k hk => h.block k (by omega) (fun hs => by have := hS k hs; omega)⟩
theorem Kp.blk {S : Nat → Prop} {w w' : World} {g : Nat} {e : TypeId} {cs : List Value} (h : Kp S w w') (hb : Blk w g e cs) (hg : ¬ S g) : Blk w' g e cs := (h.block g hb.lt hg).trans hb
theorem Kp.row {S : Nat → Prop} {w w' : World} {B : Nat} {e : TypeId} {size n : Nat} {v : Value} {xs : List Value} (h : Kp S w w') (hb : w.ownsRow B e size v n xs) (hg : ∀ g, v.ownBlock = some g → ¬ S g) : w'.ownsRow B e size v n xs := by
  obtain ⟨h1, h2⟩ := hb
  refine ⟨h1, ?_⟩
  rcases h2 with h2 | ⟨g, cap, cur, rfl, h3, h4, r⟩
  · exact .inl h2
  · exact .inr ⟨g, cap, cur, rfl, h3, (h.block g (lt_of_block h4) (hg g rfl)).trans h4, r⟩
theorem own_ne {w : World} {B g : Nat} {e t : TypeId} {size n : Nat} {v : Value} {xs cs : List Value} (h : w.ownsRow B e size v n xs) (hk : Blk w g t cs) (hne : e ≠ t) : v.ownBlock ≠ some g := by
  rcases h.2 with ⟨rfl, _⟩ | ⟨g', cap, cur, rfl, _, hg, _⟩
  · simp [Value.ownBlock]
  · intro e
    simp [Value.ownBlock] at e
    subst e
    have := hg.symm.trans hk
    simp at this
    exact hne this.2
theorem own_lt {w : World} {B : Nat} {e : TypeId} {size n : Nat} {v : Value} {xs : List Value} (h : w.ownsRow B e size v n xs) {g : Nat} (hg : v.ownBlock = some g) : g < w.heap.size ∧ B ≤ g := by
  rcases h.2 with ⟨rfl, _⟩ | ⟨g', cap, cur, rfl, h1, h2, _⟩
  · simp [Value.ownBlock] at hg
  · simp [Value.ownBlock] at hg
    subst hg
    exact ⟨lt_of_block h2, h1⟩

theorem fold_push (l : List UInt8) : ∀ r : ByteArray, (l.map fun b => (b.toNat : Int)).foldl (fun r n => r.push (UInt8.ofNat n.toNat)) r = ⟨r.data ++ l.toArray⟩ := by
  induction l with
  | nil => intro r; simp
  | cons b l ih =>
    intro r
    rw [List.map_cons, List.foldl_cons, ih]
    have e : UInt8.ofNat ((b.toNat : Int)).toNat = b := by simp
    rw [e]
    show (⟨(r.data.push b) ++ l.toArray⟩ : ByteArray) = _
    congr 1
    simp
/-- string(bytes) -/
theorem conv_rd (W : World) (g cap : Nat) (l : List UInt8) (h : Rd W g l) : (convert 72 9 (.slice (some ⟨g, 0, none⟩) l.length cap)).run Tryz.prog W = .ok (.string ⟨l.toArray⟩) W := by
  rw [run_convert_bytes_string _ 72 9 5 _ _ _ Tryz.underlying72 Tryz.underlying5 Tryz.underlying9, run_bytesToString _ _ _ _ (l.map fun b => (b.toNat : Int)) ?_, fold_push]
  · simp [ByteArray.empty, ByteArray.emptyWithCapacity]; rfl
  · have := run_loadCells_list (P := Tryz.prog) (w := W) ⟨g, 0, none⟩ (Lib.byteCells l) (fun j u hj => by
      rw [add_addr, Nat.zero_add]
      cases hx : l[j]? with
      | none => simp [Lib.byteCells, hx] at hj
      | some x =>
        rw [h j x hx]
        simpa [Lib.byteCells, hx] using hj)
    rw [Lib.byteCells_length] at this
    rw [this]
    simp [Lib.byteCells]
theorem conv_nil (W : World) (p : Option Addr) (cap : Nat) : (convert 72 9 (.slice p 0 cap)).run Tryz.prog W = .ok (.string ⟨#[]⟩) W := by
  rw [run_convert_bytes_string _ 72 9 5 _ _ _ Tryz.underlying72 Tryz.underlying5 Tryz.underlying9]
  cases p <;> rfl
theorem conv_row (W : World) (B : Nat) (v : Value) (l : List UInt8) (h : W.ownsRow B 5 1 v l.length (c8 l)) : (convert 72 9 v).run Tryz.prog W = .ok (.string ⟨l.toArray⟩) W := by
  rcases row_read h with ⟨rfl, h2, _⟩ | ⟨g, cap, rfl, _, _, _, h5⟩
  · obtain rfl := List.length_eq_zero_iff.1 h2
    exact conv_nil W none 0
  · exact conv_rd W g cap l fun k x hx => h5 k _ (c8_get hx)
/-- copy(bytes, a string) -/
theorem run_copy_str (w : World) (ty : TypeId) (g dLen dCap : Nat) (s : ByteArray) (cur : List Value) (hg : Blk w g 5 cur) (hle : dLen ≤ cur.length) :
    (Builtin.copy_ #[72, 9] ty #[.slice (some ⟨g, 0, none⟩) dLen dCap, .string s]).run Tryz.prog w =
      .ok (goInt (min s.size dLen : Nat)) (w.setRow g (c8 (s.data.toList.take (min s.size dLen)) ++ cur.drop (min s.size dLen)).toArray) := by
  have hlen : (c8 (s.data.toList.take (min s.size dLen))).length = min s.size dLen := by
    have : s.data.toList.length = s.size := rfl
    simp [this]
  have hst := run_storeCells_at Tryz.prog g 0 5 (c8 (s.data.toList.take (min s.size dLen))) 0 cur.toArray w hg (by rw [hlen]; simp; omega) (by
    intro v hv
    obtain ⟨x, _, rfl⟩ := List.mem_map.1 hv
    rfl)
  rw [hlen] at hst
  simp only [Nat.add_zero, List.take_zero, List.nil_append, Nat.zero_add] at hst
  have hs : (Tryz.prog.info? 5).map (·.size) = some 1 := by kernel_rfl
  have htk : List.take (Nat.min s.size dLen) (List.map (fun b : UInt8 => Value.int IntKind.u8 (b.toNat : Int)) s.data.toList) = c8 (s.data.toList.take (min s.size dLen)) := by
    rw [c8, List.map_take]
  cases hq : Tryz.prog.info? 5 with
  | none => rw [hq] at hs; cases hs
  | some i =>
    simp [Builtin.copy_, run_underlying Tryz.underlying72, Builtin.lenOf, Builtin.firstCells, sizeOf, typeInfo, hq]
    rw [htk, hst]
    simp [Result.andThen]
/-- .. at the operation -/
theorem cpS {w : World} {ops : Array Oper} {rest : List Oper} {o : Oper} {a : Act} {Q : Exit → Act → World → Prop} (hgd : o.guard = none) (d s : Operand)
    (ho : o.op = .call { callee := .builtin .copy, args := #[d, s], argTypes := #[72, 9] })
    (g dLen dCap : Nat) (t : ByteArray) (cur : List Value) (hd : a.eval d = .slice (some ⟨g, 0, none⟩) dLen dCap) (hs : a.eval s = .string t) (hg : Blk w g 5 cur) (hle : dLen ≤ cur.length)
    (h : ∀ w', Hid (Blk w' g 5 (c8 (t.data.toList.take (min t.size dLen)) ++ cur.drop (min t.size dLen))) → Hid (Kp (fun k => k = g) w w') → wpList Tryz.prog ops Q rest (a.put o.dst (goInt (min t.size dLen : Nat))) w') :
    wpList Tryz.prog ops Q (o :: rest) a w := by
  refine wpList_plain hgd fun K hK => ?_
  have hrun := run_copy_str w o.type g dLen dCap t cur hg hle
  unfold Oper.wp
  simp only [execOp, ho, resolve, invoke, builtin, Array.map]
  simp [hd, hs, hrun, Result.andThen]
  refine hK _ _ (h _ ?_ ?_)
  · show Blk _ _ _ _
    rw [c8, List.map_take]
    exact setRow_heap w g _ _ 5 _ hg
  · exact ⟨rfl, rfl, rfl, by simp [World.setRow], fun k _ hk => setRow_other w g k _ hk⟩
end Go.Proofs.YtmbnckmhngijdaaGreatDoor
