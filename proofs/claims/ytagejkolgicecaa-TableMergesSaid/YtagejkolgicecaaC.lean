/- At, Get. -/
import Derived.BigQuiet
import Derived.Test.YtagejkolgicecaaB
namespace Go.Proofs.Ytagejkolgicecaa
open Go Go.RowKit Go.Maps
section
variable {F : Nat → Prop} {b : Nat} {S : Tb} {m0 m1 : Nat} {kv : Value}
def Tb.getE (S : Tb) (x : Int) : Ending := if S.has x then .returned (.tuple #[.int .i64 (S.vl x), .int .i64 0]) else .returned (.tuple #[.int .i64 0, .int .i64 3])
set_option maxRecDepth 100000 in
theorem t28 (w : World) (h : Wit F w b S m0 m1 kv) {x : Int} (hx : WF x) : Calls Try.prog 28 #[.pointer (some ⟨b, 0, none⟩), .int .i64 x] w fun e w' => e = S.getE x ∧ Below w.heap.size w w' := by
  have q0 := h.blk.cell 0 rfl
  have C55 := Lib.hid (t55 b m0 w q0)
  have C59 := Lib.hid (t59 w h hx)
  have HL : Hid (∀ W, Wit F W b S m0 m1 kv → W.cell? ⟨b, 0, none⟩ = some (.map (some m0)) ∧ (Instr.lookup 65 (.map (some m0)) (.int .i64 x) false).run Try.prog W = Result.ok (Value.agg #[.int .i64 (S.vl x), .int .i64 (S.pl x : Int)]) W) :=
    fun W hW => ⟨hW.blk.cell 0 rfl, hW.rows.look Try.underlying65 (0, 0) (zero85 W) hx⟩
  have HW := Lib.hid h
  clear h hx q0
  unfold Tb.getE
  generalize S.vl x = a at *
  generalize S.pl x = p at *
  generalize S.has x = r at *
  go_enter Try.func28, Try.ntmps28
  go_wp2_with (go_at_call 55; refine C55.out.mono ?_; rintro e w' ⟨rfl, rfl⟩)
  refine C59.out.mono ?_
  rintro e w1 ⟨rfl, hb1⟩
  obtain ⟨q0, hl⟩ := HL.out w1 (HW.out.below hb1)
  have HB := Lib.hid hb1
  clear hb1
  cases r
  · go_wp2
    go_ret2
    exact ⟨rfl, HB.out⟩
  · have f0 := field0 a p w1
    go_wp2
    go_ret2
    exact ⟨rfl, HB.out⟩
def Tb.atE (S : Tb) (i : Int) : Ending :=
  if 0 ≤ i then (match S.ks[i.toNat]? with | some k => .returned (.tuple #[.int .i64 k, .int .i64 (S.vl k), .int .i64 0]) | none => .returned (.tuple #[.int .i64 0, .int .i64 0, .int .i64 3]))
  else .returned (.tuple #[.int .i64 0, .int .i64 0, .int .i64 3])
theorem atE_some {S : Tb} {i : Nat} {k : Int} (h : S.ks[i]? = some k) : S.atE i = .returned (.tuple #[.int .i64 k, .int .i64 (S.vl k), .int .i64 0]) := by
  simp [Tb.atE, h]
theorem atE_neg {S : Tb} {i : Int} (h : i < 0) : S.atE i = .returned (.tuple #[.int .i64 0, .int .i64 0, .int .i64 3]) := by
  simp [Tb.atE]; intro h2; omega
theorem atE_big {S : Tb} {i : Int} (h : (S.ks.length : Int) ≤ i) : S.atE i = .returned (.tuple #[.int .i64 0, .int .i64 0, .int .i64 3]) := by
  have : S.ks[i.toNat]? = none := List.getElem?_eq_none (by omega)
  simp [Tb.atE, this]
set_option maxRecDepth 100000 in
set_option maxHeartbeats 1000000 in
theorem t41 (w : World) (hO : Ok S) (h : Wit F w b S m0 m1 kv) (i : Int) : Calls Try.prog 41 #[.pointer (some ⟨b, 0, none⟩), .int .i64 i] w fun e w' => e = S.atE i ∧ Below w.heap.size w w' := by
  have q0 := h.blk.cell 0 rfl
  have q1 := h.blk.cell 1 rfl
  have C55 := Lib.hid (t55 b m0 w q0)
  obtain ⟨ao, cap, rfl, hc0, hc1, hc⟩ := keys_form h.keys
  by_cases hneg : i < 0
  · rw [atE_neg hneg]
    clear h hc
    go_enter Try.func41, Try.ntmps41
    go_wp2_with (go_at_call 55; refine C55.out.mono ?_; rintro e w' ⟨rfl, rfl⟩)
    go_ret3
    exact ⟨rfl, Below.refl _ _⟩
  · by_cases hbig : (S.ks.length : Int) ≤ i
    · rw [atE_big hbig]
      clear h hc
      go_enter Try.func41, Try.ntmps41
      go_wp2_with (go_at_call 55; refine C55.out.mono ?_; rintro e w' ⟨rfl, rfl⟩)
      go_ret3
      exact ⟨rfl, Below.refl _ _⟩
    · obtain ⟨n, rfl⟩ : ∃ n : Nat, i = n := ⟨i.toNat, by omega⟩
      have hlt : n < S.ks.length := by omega
      obtain ⟨k, hk⟩ : ∃ k, S.ks[n]? = some k := ⟨_, List.getElem?_eq_getElem hlt⟩
      obtain ⟨g, rfl, hg⟩ := hc n k hk
      rw [atE_some hk]
      have hkm := List.mem_of_getElem? hk
      have hl := (h.rows.below ((Below.refl _ _).drew)).look Try.underlying65 (0, 0) (zero85 w.drew) (hO.wf k hkm)
      change _ = Result.ok (Value.agg #[.int .i64 (S.vl k), .int .i64 (S.pl k : Int)]) w.drew at hl
      have f0 := field0 (S.vl k) (S.pl k) w.drew
      clear h hc hO hk hkm
      generalize S.vl k = a at *
      generalize (S.pl k : Int) = p at *
      go_enter Try.func41, Try.ntmps41
      go_wp2_with (go_at_call 55; refine C55.out.mono ?_; rintro e w' ⟨rfl, rfl⟩)
      go_region
      all_goals (go_wp2; go_ret3; exact ⟨rfl, (Below.refl _ _).drew⟩)
end
end Go.Proofs.Ytagejkolgicecaa
