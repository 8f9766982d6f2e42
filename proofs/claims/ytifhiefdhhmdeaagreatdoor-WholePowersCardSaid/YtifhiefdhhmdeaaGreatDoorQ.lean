/- Contracts of the integers' compare and over. -/
import Derived.Test.YtifhiefdhhmdeaaGreatDoorP
namespace Go.Proofs.YtifhiefdhhmdeaaGreatDoor
open Go Go.RowKit

def cmpZ (x y : Int) : Int := if x < y then -1 else if y < x then 1 else 0
theorem cmp_diff (x y : Int) : cmpZ x y = if x - y < 0 then -1 else cmpN (Lw (x - y).natAbs) 0 := by
  unfold cmpZ
  rcases Int.lt_trichotomy x y with h | h | h
  · rw [if_pos h, if_pos (by omega)]
  · subst h
    rw [if_neg (by omega), if_neg (by omega), if_neg (by omega), Int.sub_self]
    rfl
  · rw [if_neg (by omega), if_pos h, if_neg (by omega), cmpN_gt (Lw_pos (by omega))]
theorem bx2s (w : World) (b c : Bool) (va vb : Value) : Bx2 w (((w.alloc (.cells #[.bool b, va] 67)).alloc (.cells #[.bool c, vb] 67)).alloc (.cells #[.bool false, .slice none 0 0] 67)) #[.bool b, va] #[.bool c, vb] := bx2_mk w _ _

set_option maxRecDepth 100000 in
set_option maxHeartbeats 1000000 in
theorem t101 (x y : Int) (b c : Bool) (va vb : Value) (w : World) (hbx : b = decide (x < 0)) (hcy : c = decide (y < 0)) (hA : Nt w va x.natAbs) (hB : Nt w vb y.natAbs) (hl : Lw x.natAbs ≤ 900000) (hl' : Lw y.natAbs ≤ 900000) :
    Calls Tryz.prog 101 #[.agg #[.bool b, va], .agg #[.bool c, vb]] w fun e w' => e = .returned (.int .i64 (cmpZ x y)) ∧ Below w.heap.size w w' := by
  have hb0 : Below w.heap.size w ((w.alloc (.cells #[.bool b, va] 67)).alloc (.cells #[.bool c, vb] 67)) := ((Below.refl _ _).alloc (Nat.le_refl _) _).alloc (by simp) _
  have cc := t93 x y b c va vb _ hbx hcy (hA.below hb0) (hB.below hb0) hl hl'
  obtain ⟨pa, ca, rfl, -, -, -⟩ := hA.cells
  obtain ⟨pb, cb, rfl, -, -, -⟩ := hB.cells
  have C := Lib.hid cc
  have HB := Lib.hid hb0
  clear cc hb0 hA hB hbx hcy
  go_enter Tryz.func101, Tryz.ntmps101
  go_wp2_with fail
  refine C.out.mono ?_
  rintro e w1 ⟨v, rfl, hN, hb1⟩
  have hBw : Below w.heap.size w w1 := HB.out.trans (hb1.mono HB.out.size)
  obtain ⟨pv, cv, rfl, -, -, -⟩ := hN.cells
  have hcm := cmp_diff x y
  have HC := Lib.hid hcm
  have c2 := fun W => t142 (Lw (x - y).natAbs) 0 W
  have C2 := Lib.hid c2
  clear hcm c2 hN hb1
  by_cases hlt : x - y < 0
  · have hd : decide (x - y < 0) = true := by simpa using hlt
    have HL := Lib.hid hlt
    rw [hd]
    clear hd hlt
    go_wp2_with fail
    go_ret
    exact ⟨by rw [HC.out, if_pos HL.out]; rfl, hBw.alloc hBw.size _⟩
  · have hd : decide (x - y < 0) = false := by simpa using hlt
    have HL := Lib.hid hlt
    rw [hd]
    clear hd hlt
    go_wp2_with fail
    refine (C2.out _).mono ?_
    rintro e w2 ⟨rfl, rfl⟩
    go_wp2_with fail
    go_ret
    exact ⟨by rw [HC.out, if_neg (by have := HL.out; omega)]; rfl, hBw.alloc hBw.size _⟩

/-- rounded down: quotient and rest -/
def fq (x y : Int) : Int := if (decide (x < 0) != decide (y < 0)) = true ∧ x.natAbs % y.natAbs ≠ 0 then -((x.natAbs / y.natAbs : Nat) : Int) - 1 else if (decide (x < 0) != decide (y < 0)) = true then -((x.natAbs / y.natAbs : Nat) : Int) else ((x.natAbs / y.natAbs : Nat) : Int)
def fr (x y : Int) : Int := if (decide (x < 0) != decide (y < 0)) = true ∧ x.natAbs % y.natAbs ≠ 0 then (if x < 0 then -((x.natAbs % y.natAbs : Nat) : Int) else ((x.natAbs % y.natAbs : Nat) : Int)) + y else if x < 0 then -((x.natAbs % y.natAbs : Nat) : Int) else ((x.natAbs % y.natAbs : Nat) : Int)
theorem fq_fr_plain (x y : Int) (b c s1 s2 : Bool) (Q R : Nat) (hb : b = decide (x < 0)) (hc : c = decide (y < 0)) (h1 : s1 = ((b != c) && decide (0 < Q))) (h2 : s2 = (b && decide (0 < R))) (hQ : x.natAbs / y.natAbs = Q) (hR : x.natAbs % y.natAbs = R) (h : R = 0 ∨ (b != c) = false) :
    s1 = decide (fq x y < 0) ∧ s2 = decide (fr x y < 0) ∧ (fq x y).natAbs = Q ∧ (fr x y).natAbs = R := by
  unfold fq fr
  rw [hQ, hR, ← hb, ← hc]
  have hn : ¬ ((b != c) = true ∧ R ≠ 0) := by
    rintro ⟨g1, g2⟩
    rcases h with h | h
    · exact g2 h
    · rw [h] at g1; cases g1
  rw [if_neg hn, if_neg hn, h1, h2]
  clear h hn h1 h2
  cases hbc : (b != c) <;> by_cases hx : x < 0 <;> simp [hb, hx] <;> omega
theorem fq_fr_less (x y : Int) (b c s1 s2 : Bool) (Q R : Nat) (hb : b = decide (x < 0)) (hc : c = decide (y < 0)) (h1 : s1 = ((b != c) && decide (0 < Q))) (h2 : s2 = (b && decide (0 < R))) (hQ : x.natAbs / y.natAbs = Q) (hR : x.natAbs % y.natAbs = R) (h : R ≠ 0) (hbc : (b != c) = true) :
    ∃ r : Int, s1 = decide (-(Q : Int) < 0) ∧ s2 = decide (r < 0) ∧ -(Q : Int) - 1 = fq x y ∧ r + y = fr x y ∧ r.natAbs = R := by
  refine ⟨if x < 0 then -(R : Int) else R, ?_, ?_, ?_, ?_, ?_⟩
  · rw [h1, hbc, Bool.eq_iff_iff]; simp
  · rw [h2, hb, Bool.eq_iff_iff]; by_cases hx : x < 0 <;> simp [hx]
  · unfold fq; rw [hQ, hR, ← hb, ← hc, if_pos ⟨hbc, h⟩]
  · unfold fr; rw [hR, ← hb, ← hc, if_pos (⟨hbc, h⟩ : (b != c) = true ∧ R ≠ 0)]
  · split <;> omega
/-- two integers as results -/
def IntR2 (q r : Int) (w : World) (e : Ending) (w' : World) : Prop := ∃ v u, e = .returned (.tuple #[.agg #[.bool (decide (q < 0)), v], .agg #[.bool (decide (r < 0)), u]]) ∧ Nt w' v q.natAbs ∧ Nt w' u r.natAbs ∧ Below w.heap.size w w'
end Go.Proofs.YtifhiefdhhmdeaaGreatDoor
