/- Bytes that a string was turned into, zeros and single bytes appended. -/
import Derived.Test.YtmbnckmhngijdaaGreatDoorRI
namespace Go.Proofs.YtmbnckmhngijdaaGreatDoor
open Go Go.RowKit

theorem zc_list (n : Nat) : Builtin.zeroCells (Value.int .u8 0).cells n = (c8 (List.replicate n 0)).toArray := by
  apply Array.ext'
  apply List.ext_getElem
  · simp [Builtin.zeroCells, c8, Value.cells]
  · intro i h1 h2
    simp [Builtin.zeroCells, c8, Value.cells, Nat.mod_one]
set_option maxHeartbeats 1000000 in
/-- append(bytes, make([]byte, z)..) -/
theorem run_append_zeros (w : World) (ty : TypeId) (base : Nat) (v : Value) (n : Nat) (ys : List UInt8) (hown : w.ownsRow base 5 1 v n (c8 ys)) (z : Nat) (hz : z ≤ 1000000) (hn : n ≤ 1000000) (hbase : base ≤ w.heap.size) :
    ∃ v' w', (Builtin.append_ #[72, 3] ty #[v, .int .i64 z]).run Tryz.prog w = .ok v' w' ∧ w'.ownsRow base 5 1 v' (n + z) (c8 (ys ++ List.replicate z 0)) ∧ w.grownBy w' v.ownBlock := by
  obtain ⟨i0, hi, hz0, hz1, hz2⟩ := info_parts infoB
  have hzi : (z : Int) ≤ 1000000 := by omega
  have hw : IntKind.i64.wrap (z : Int) = z := IntWalk.i64_in _ (by omega)
  have hneg : ¬ ((z : Int) < 0) := by omega
  have h48 : ¬ (281474976710656 < (z : Int)) := by omega
  have hl : (c8 ys).length = n := by have := hown.1; omega
  have hlen : (c8 (ys ++ List.replicate z 0)).length = (n + z) * 1 := by rw [c8, List.length_map, List.length_append, List.length_replicate]; simp at hl; omega
  have grown : ∀ (old : Nat), old < n + z → ∀ (row : Option Nat),
      (w.drew.alloc (.cells ((c8 ys).toArray ++ (c8 (List.replicate z 0)).toArray ++ Builtin.zeroCells (Value.int .u8 0).cells (grownCap w (n + z) old 5 - (n + z))) 5)).ownsRow base 5 1
        (.slice (some ⟨w.heap.size, 0, none⟩) (n + z) (grownCap w (n + z) old 5)) (n + z) (c8 (ys ++ List.replicate z 0)) ∧
      w.grownBy (w.drew.alloc (.cells ((c8 ys).toArray ++ (c8 (List.replicate z 0)).toArray ++ Builtin.zeroCells (Value.int .u8 0).cells (grownCap w (n + z) old 5 - (n + z))) 5)) row := by
    intro old ho row
    have hge := grownCap_ge w (n + z) old 5
    have hcm : grownCap w (n + z) old 5 ≤ maxLen := grownCap_le_maxLen w (n + z) old 5 (by unfold maxLen; omega)
    refine ⟨⟨hlen, .inr ⟨w.heap.size, _, _, rfl, hbase, heap_alloc_new w.drew _, hge, hcm, ?_, ?_⟩⟩, ⟨rfl, rfl, rfl, by simp, fun k hk _ => _root_.Go.heap_alloc_old w.drew _ (by simpa using hk)⟩⟩
    · rw [zc_list]; simp at hl ⊢; omega
    · rw [zc_list]
      simp only [Array.toList_append]
      rw [show c8 ys ++ c8 (List.replicate z 0) = c8 (ys ++ List.replicate z 0) by simp [c8], Nat.mul_one, show n + z = (c8 (ys ++ List.replicate z 0)).length by rw [hlen]; omega]
      exact List.take_left
  rcases hown.2 with ⟨rfl, rfl⟩ | ⟨g, cap, cur, rfl, hbg, hg, hnc, hcm, hcs, htake⟩
  · have hx : ys = [] := by simpa using hl
    subst hx
    by_cases hm : z = 0
    · subst hm
      refine ⟨.slice none 0 0, w, ?_, World.ownsRow_nil w base 5 1, ⟨rfl, rfl, rfl, Nat.le_refl _, fun _ _ _ => rfl⟩⟩
      simp [Builtin.append_, run_underlying Tryz.underlying72, run_underlying Tryz.underlying3, sizeOf, typeInfo, hi, hz2, asInt, asIntOf, show IntKind.i64.wrap 0 = 0 by decide]
    · have hgr := grown 0 (by omega) (Value.ownBlock (.slice none 0 0))
      have h48' : ¬ (281474976710656 < Builtin.nextslicecap z 0) := by rw [nextslicecap_zero (by omega)]; omega
      have h63' : ¬ (9223372036854775807 < (z : Int)) := by omega
      simp only [Nat.zero_add] at hgr ⊢
      refine ⟨_, _, ?_, hgr.1, hgr.2⟩
      simp [Builtin.append_, run_underlying Tryz.underlying72, run_underlying Tryz.underlying3, sizeOf, typeInfo, zeroValue, hi, hz0, hz1, hz2, asInt, asIntOf, hw, hneg, h48, hm, h48', h63', Builtin.lenOf, Question.forced, run_firstCells_none, newRow, grownCap, zc_list]
  · have hcl : cur.toList.take n = c8 ys := by rw [Nat.mul_one] at htake; exact htake
    by_cases hroom : n + z ≤ cap
    · have hst := run_storeCells_at Tryz.prog g n 5 (c8 (List.replicate z 0)) 0 cur w hg (by simp; omega) (by intro u hu; obtain ⟨x, _, rfl⟩ := List.mem_map.1 hu; rfl)
      simp only [Nat.add_zero] at hst
      have hr : (Builtin.append_ #[72, 3] ty #[.slice (some ⟨g, 0, none⟩) n cap, .int .i64 z]).run Tryz.prog w = .ok (.slice (some ⟨g, 0, none⟩) (n + z) cap) (w.setRow g (cur.toList.take n ++ c8 (List.replicate z 0) ++ cur.toList.drop (n + (c8 (List.replicate z 0)).length)).toArray) := by
        by_cases hm : z = 0
        · subst hm
          simp at hst
          simp [Builtin.append_, run_underlying Tryz.underlying72, run_underlying Tryz.underlying3, sizeOf, typeInfo, hi, hz2, asInt, asIntOf, show IntKind.i64.wrap 0 = 0 by decide, hnc, storeCells, Addr.add_lit]
          rw [setRow_self w g cur 5 (0, 0) hg]
        · simp [Builtin.append_, run_underlying Tryz.underlying72, run_underlying Tryz.underlying3, sizeOf, typeInfo, zeroValue, hi, hz0, hz1, hz2, asInt, asIntOf, hw, hneg, h48, hm, hroom, Builtin.lenOf, Addr.add_lit, zc_list]
          simp at hst
          rw [hst]
          simp
      refine ⟨_, _, hr, ⟨hlen, .inr ⟨g, cap, _, rfl, hbg, setRow_heap w g cur _ 5 _ hg, hroom, hcm, ?_, ?_⟩⟩, ⟨rfl, rfl, rfl, by simp, fun k _ hk => setRow_other w g k _ (fun e => hk (by simp [Value.ownBlock, e]))⟩⟩
      · simp; omega
      · rw [hcl, show c8 ys ++ c8 (List.replicate z 0) = c8 (ys ++ List.replicate z 0) by simp [c8], ← hlen]
        exact List.take_left
    · have holds : ∀ j u, (c8 ys)[j]? = some u → w.cell? ((⟨g, 0, none⟩ : Addr).add j) = some u := hown.cells (g := g) rfl
      have hfo := run_firstCells_some (P := Tryz.prog) w.drew 1 n ⟨g, 0, none⟩ n cap (c8 ys) (by omega) (by simpa using holds)
      have hgr := grown cap (by omega) (Value.ownBlock (.slice (some ⟨g, 0, none⟩) n cap))
      have h63' : ¬ (9223372036854775807 < ((n : Int) + (z : Int))) := by omega
      have h48' : ¬ (281474976710656 < Builtin.nextslicecap (n + z) cap) := by have := growslice_fits (need := n + z) (old := cap) (bytes := 1) (by omega) (by omega); omega
      have hm : z ≠ 0 := by omega
      refine ⟨_, _, ?_, hgr.1, hgr.2⟩
      simp [Builtin.append_, run_underlying Tryz.underlying72, run_underlying Tryz.underlying3, sizeOf, typeInfo, zeroValue, hi, hz0, hz1, hz2, asInt, asIntOf, hw, hneg, h48, hm, hroom, h48', h63', Builtin.lenOf, Question.forced, hfo, newRow, grownCap, zc_list]
/-- .. at the operation -/
theorem appZ {w : World} {ops : Array Oper} {rest : List Oper} {o : Oper} {a : Act} {Q : Exit → Act → World → Prop} (hgd : o.guard = none) (s x : Operand)
    (ho : o.op = .call { callee := .builtin .append, args := #[s, x], argTypes := #[72, 3] }) (base : Nat) (v : Value) (n : Nat) (ys : List UInt8) (hs : a.eval s = v) (hown : w.ownsRow base 5 1 v n (c8 ys))
    (z : Nat) (hx : a.eval x = .int .i64 z) (hz : z ≤ 1000000) (hn : n ≤ 1000000) (hbase : base ≤ w.heap.size)
    (h : ∀ v' w', Hid (w'.ownsRow base 5 1 v' (n + z) (c8 (ys ++ List.replicate z 0))) → Hid (w.grownBy w' v.ownBlock) → wpList Tryz.prog ops Q rest (a.put o.dst v') w') :
    wpList Tryz.prog ops Q (o :: rest) a w := by
  refine wpList_plain hgd fun K hK => ?_
  obtain ⟨v', w', hr, h2, h3⟩ := run_append_zeros w o.type base v n ys hown z hz hn hbase
  unfold Oper.wp execOp
  simp only [ho, resolve, invoke, builtin, Sem.run_bind, Sem.run_pure, Result.andThen_ok, List.map_toArray, List.map_cons, List.map_nil, hs, hx, hr]
  exact hK _ _ (h v' w' h2 h3)
/-- append of nothing -/
theorem appN {w : World} {ops : Array Oper} {rest : List Oper} {o : Oper} {a : Act} {Q : Exit → Act → World → Prop} (hgd : o.guard = none) (s x : Operand)
    (ho : o.op = .call { callee := .builtin .append, args := #[s, x], argTypes := #[72, 72] }) (base : Nat) (v : Value) (n : Nat) (ys : List UInt8) (hs : a.eval s = v) (hown : w.ownsRow base 5 1 v n (c8 ys))
    (hx : a.eval x = .slice none 0 0) (h : wpList Tryz.prog ops Q rest (a.put o.dst v) w) :
    wpList Tryz.prog ops Q (o :: rest) a w := by
  obtain ⟨i0, hi, hz0, hz1, hz2⟩ := info_parts infoB
  refine wpList_plain hgd fun K hK => ?_
  have hr := run_append_owned_none (P := Tryz.prog) w base 72 o.type 5 i0 1 Tryz.underlying72 hi v n (c8 ys) hown
  unfold Oper.wp execOp
  simp only [ho, resolve, invoke, builtin, Sem.run_bind, Sem.run_pure, Result.andThen_ok, List.map_toArray, List.map_cons, List.map_nil, hs, hx, hr]
  exact hK _ _ h
end Go.Proofs.YtmbnckmhngijdaaGreatDoor
