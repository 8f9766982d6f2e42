/- The reference's items in memory. -/
import Derived.Test.YtmbnckmhngijdaaGreatDoorRC
namespace Go.Proofs.YtmbnckmhngijdaaGreatDoor
open Go Go.RowKit

theorem info65 : (Tryz.prog.info? 65).map (fun i => (i.zero, i.size, i.bytes)) = some (some (.agg #[.bool false, .int .i64 0, .string ⟨#[]⟩]), 3, 32) := by kernel_rfl
/-- the reference's items in memory -/
def Iq (w : World) (B : Nat) (v : Value) (xs : List Itm) : Prop := w.ownsRow B 65 3 v xs.length (icells xs)
theorem Iq.below {W W' : World} {B : Nat} {v : Value} {xs : List Itm} (h : Iq W B v xs) (hb : Below W.heap.size W W') : Iq W' B v xs := ownsRow_below h hb
theorem iq_len {w : World} {B : Nat} {v : Value} {xs : List Itm} {x : Itm} (h : Iq w B v (xs ++ [x])) : w.ownsRow B 65 3 v (xs.length + 1) (icells (xs ++ [x])) := by
  unfold Iq at h; rw [List.length_append] at h; exact h
theorem app65 {w : World} {ops : Array Oper} {rest : List Oper} {o : Oper} {a : Act} {Q : Exit → Act → World → Prop} (hgd : o.guard = none) (s x : Operand)
    (ho : o.op = .call { callee := .builtin .append, args := #[s, x], argTypes := #[28, 28] }) (base : Nat) (v : Value) (xs : List Itm) (hs : a.eval s = v) (hown : Iq w base v xs)
    (g c : Nat) (d : Itm) (hx : a.eval x = .slice (some ⟨g, 0, none⟩) 1 c) (hc : Blk w g 65 d.cs.toList) (hn : xs.length ≤ 100000000) (hbase : base ≤ w.heap.size)
    (h : ∀ v' w', Hid (Iq w' base v' (xs ++ [d])) → Hid (w.grownBy w' v.ownBlock) → wpList Tryz.prog ops Q rest (a.put o.dst v') w') :
    wpList Tryz.prog ops Q (o :: rest) a w := by
  obtain ⟨i0, hi, hz0, hz1, hz2⟩ := info_parts info65
  refine wpList_append_own w hgd s x 28 ho base 65 i0 (.agg #[.bool false, .int .i64 0, .string ⟨#[]⟩]) 3 32 Tryz.underlying28 hi hz0 hz1 hz2 rfl (by decide) v xs.length (icells xs) hs hown ⟨g, 0, none⟩ 1 c d.cs.toList hx rfl ?_ ?_ (by unfold maxLen; omega) (by omega) hbase (fun v' w' h1 h2 _ => h v' w' ?_ h2)
  · intro j u hu
    rw [add_addr, Nat.zero_add]
    exact hc.cell j hu
  · intro u hu
    simp only [Itm.cs, List.mem_cons, List.mem_nil_iff, or_false] at hu
    rcases hu with rfl | rfl | rfl <;> rfl
  · show World.ownsRow _ _ _ _ _ _ _
    rw [icells_snoc, List.length_append]
    exact h1
theorem Iq.cell {w : World} {B : Nat} {v : Value} {xs : List Itm} (h : Iq w B v xs) {j : Nat} {x : Itm} (hx : xs[j]? = some x) : ∃ g cap, v = .slice (some ⟨g, 0, none⟩) xs.length cap ∧ g < w.heap.size ∧ w.cell? ⟨g, j * 3, none⟩ = some (.bool x.t) ∧ w.cell? ⟨g, j * 3 + 1, none⟩ = some (.int .i64 x.i) ∧ w.cell? ⟨g, j * 3 + 2, none⟩ = some (.string x.str) := by
  have hj := (List.getElem?_eq_some_iff.1 hx).1
  rcases h.2 with ⟨_, h0⟩ | ⟨g, cap, cur, rfl, h1, h2, h3, h4, h5, h6⟩
  · omega
  · have hc : ∀ k u, k < 3 → x.cs.toList[k]? = some u → w.cell? ⟨g, j * 3 + k, none⟩ = some u := fun k u hk hu => by
      have e := icells_get xs j x k hx hk
      rw [hu, ← h6, List.getElem?_take] at e
      split at e
      · have hb : Blk w g 65 cur.toList := by simpa [Blk] using h2
        exact hb.cell _ e
      · cases e
    exact ⟨g, cap, rfl, lt_of_block h2, hc 0 _ (by omega) rfl, hc 1 _ (by omega) rfl, hc 2 _ (by omega) rfl⟩
theorem bne_str (s : ByteArray) : (s.toList != s.toList) = false := by simp
end Go.Proofs.YtmbnckmhngijdaaGreatDoor
