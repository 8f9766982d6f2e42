/- Contracts of sizes, is. -/
import Derived.Test.YtmbnckmhngijdaaGreatDoorMm
import Derived.Test.YtmbnckmhngijdaaGreatDoorProg
import Derived.WalkLawsBesides
import Derived.WalkSpells
import Derived.Outline
import Derived.BigQuiet
import Derived.Deep.QuietTactic
import Derived.IntWalk
namespace Go.Proofs.YtmbnckmhngijdaaGreatDoor
open Go Go.RowKit Go.Maps Go.ChangeMaps Go.MapKept

theorem law5 : Keyed Tryz.prog 5 := int_keyed Tryz.underlying5
theorem zero3 (w : World) : (zeroValue 3).run Tryz.prog w = .ok (.int .i64 0) w := by kernel_rfl
def P (D : DataW Unit) (c n : Int) : DataW Unit := D.put (.int .u8 c) (.lit (.int .i64 n))
def sizesD : DataW Unit := P (P (P (P (P (P (P (P (P (P (P (P (.map []) 67 1) 99 1) 83 2) 115 2) 76 4) 108 4) 81 8) 113 8) 110 2) 78 4) 119 0) 85 0
/-- the table of sizes lies there -/
def Tab (w : World) (b : Nat) : Prop := w.ownsMap Tryz.prog 5 (plainElem (H := Unit) Tryz.prog 3) b 12 sizesD
theorem putk {w : World} {b n : Nat} {D : DataW Unit} {c m : Int} (h : w.ownsMap Tryz.prog 5 (plainElem (H := Unit) Tryz.prog 3) b (n + 1) (D.put (.int .u8 c) (.lit (.int .i64 m)))) : w.ownsMap Tryz.prog 5 (plainElem (H := Unit) Tryz.prog 3) b (n + 1) (P D c m) := h
/-- an entry of a map's literal, at the operation -/
theorem wpList_insert_own {w : World} {ops : Array Oper} {rest : List Oper} {o : Oper} {a : Act} {Q : Exit → Act → World → Prop}
    (hg : o.guard = none) (m : Operand) (c n : Int) (hop : o.op = Op.insert 117 m (.const (.int .u8 c)) (.const (.int .i64 n))) (b k : Nat) (D : DataW Unit)
    (hm : a.eval m = .map (some b)) (hown : w.ownsMap Tryz.prog 5 (plainElem (H := Unit) Tryz.prog 3) b k D) (hk : k < maxLen) (hc : (Lit.int .u8 c).wf = true) (hn : (Lit.int .i64 n).wf = true)
    (hK : ∀ w', w'.ownsMap Tryz.prog 5 (plainElem (H := Unit) Tryz.prog 3) b (k + 1) (P D c n) → w.grownBy w' (some b) → wpList Tryz.prog ops Q rest (a.put o.dst undef) w') :
    wpList Tryz.prog ops Q (o :: rest) a w := by
  refine wpList_plain hg fun K' hK' => ?_
  obtain ⟨w', hrun, r1, r2⟩ := hown.update law5 Tryz.underlying117 hk (keyOf_int_mk Tryz.underlying5 hc) (plainElem_int Tryz.underlying3 hn)
  have e1 : a.eval (.const (.int .u8 c)) = .int .u8 c := rfl
  have e2 : a.eval (.const (.int .i64 n)) = .int .i64 n := rfl
  unfold Oper.wp
  simp [execOp, hop, hm, e1, e2, hrun, Result.andThen]
  exact hK' _ _ (hK w' r1 r2)
theorem key5 {c : Int} (h : (Lit.int .u8 c).wf = true) : keyOf Tryz.prog 5 (.int .u8 c) = some (.int .u8 c) := keyOf_int_mk Tryz.underlying5 h
set_option maxRecDepth 100000 in
set_option maxHeartbeats 1000000 in
theorem t65 (w : World) : Calls Tryz.prog 65 #[] w fun e w' => e = .returned (.map (some w.heap.size)) ∧ Tab w' w.heap.size ∧ Below w.heap.size w w' := by
  have hmm := @run_makeMap Tryz.prog
  have hown := World.ownsMap_made w Tryz.prog 5 (plainElem (H := Unit) Tryz.prog 3)
  have hb := bSelf w (.map #[] 0)
  go_enter Tryz.func65, Tryz.ntmps65
  go_wp2_with (refine wpList_insert_own rfl _ _ _ rfl w.heap.size _ _ rfl hown (by decide) (by decide) (by decide) ?_; intro w1 hown1 hgrow1; have hb1 := hb.grown hgrow1 hb.size (fun j hj => by cases hj; exact Nat.le_refl _); clear hown hb hgrow1; have hown := hown1; have hb := hb1; clear hown1 hb1)
  go_ret
  exact ⟨rfl, hown, hb⟩
def chk (n : Nat) : Bool :=
  (match sizesD.atKey (.int .u8 n) (.lit (.int .i64 0)) with
   | .lit (.int .i64 m) => m == (sizeC (UInt8.ofNat n) : Int)
   | _ => false) && (has sizesD (.int .u8 n) == numC (UInt8.ofNat n))
theorem chk_all : ∀ n : Fin 256, chk n.val = true := by decide +kernel
theorem tab_at (c : UInt8) : sizesD.atKey (.int .u8 c.toNat) (.lit (.int .i64 0)) = .lit (.int .i64 (sizeC c)) ∧ has sizesD (.int .u8 c.toNat) = numC c := by
  have h := chk_all ⟨c.toNat, c.toNat_lt⟩
  unfold chk at h
  dsimp only at h
  rw [Bool.and_eq_true] at h
  obtain ⟨h1, h2⟩ := h
  rw [UInt8.ofNat_toNat] at h1 h2
  refine ⟨?_, by simpa using h2⟩
  split at h1
  · rename_i m e
    rw [e]
    have : m = (sizeC c : Int) := by simpa using h1
    rw [this]
  · cases h1
/-- a directive as the program has it -/
def Dir.cs (d : Dir) : Array Value := #[.int .u8 d.c.toNat, .bool (numC d.c), .int .i64 (sizeC d.c), .bool d.great, .bool d.all, .int .i64 d.n]
def Dir.v (d : Dir) : Value := .agg d.cs
end Go.Proofs.YtmbnckmhngijdaaGreatDoor
