/- Contracts of the integers' text and write, and of the readers' loop (reckon). -/
import Derived.Test.YtifhiefdhhmdeaaGreatDoorZA
import Derived.Test.YtifhiefdhhmdeaaGreatDoorV
import Derived.Test.YtifhiefdhhmdeaaGreatDoorQ
namespace Go.Proofs.YtifhiefdhhmdeaaGreatDoor
open Go Go.RowKit

instance fitsDec (z : Int) : Decidable (fits z) := inferInstanceAs (Decidable ((dgs 10 z.natAbs).length ≤ 400))
theorem txt_len (b N : Nat) (hb : 2 ≤ b) : (txt b N).length ≤ 32 * Lw N + 1 := by
  rw [txt_length b N hb]
  have h : (dgs b N).length ≤ 32 * Lw N := by
    rw [dgs_length_le hb]
    have h1 := lt_Lw N
    have h2 : (4294967296 : Nat) = 2 ^ 32 := by decide
    rw [h2, ← Nat.pow_mul] at h1
    exact Nat.lt_of_lt_of_le h1 (Nat.pow_le_pow_left hb _)
  omega
theorem cons_bytes (c : UInt8) (l : List UInt8) : (⟨#[c]⟩ ++ ⟨l.toArray⟩ : ByteArray) = ⟨(c :: l).toArray⟩ := by
  apply ByteArray.ext
  rw [ByteArray.data_append]
  simp
theorem vld_fits (z : Int) : vldL (txtZ 10 z) = decide (fits z) := by
  by_cases h : fits z
  · rw [vldL_txtZ z h]; exact (decide_eq_true h).symm
  · cases hv : vldL (txtZ 10 z) with
    | false => exact (decide_eq_false h).symm
    | true =>
      obtain ⟨y, hy, hf⟩ := vldL_num _ hv
      rw [txtZ_inj (by omega) (by omega) hy] at h
      exact absurd hf h

set_option maxRecDepth 100000 in
set_option maxHeartbeats 1000000 in
theorem t69 (z : Int) (b : Bool) (va : Value) (base : Nat) (w : World) (hb : b = decide (z < 0)) (hA : Nt w va z.natAbs) (hl : Lw z.natAbs ≤ 100000) (h0 : 2 ≤ base) (h1 : base ≤ 36) :
    Calls Tryz.prog 69 #[.agg #[.bool b, va], .int .i64 base] w (TxtR (txtZ base z) w) := by
  have hb0 : Below w.heap.size w (w.alloc (.cells #[.bool b, va] 67)) := (Below.refl _ _).alloc (Nat.le_refl _) _
  have c := t127 va z.natAbs base _ (hA.below hb0) hl h0 h1
  obtain ⟨pa, ca, rfl, -, -, -⟩ := hA.cells
  have C := Lib.hid c
  have HB := Lib.hid hb0
  clear c hb0 hA
  by_cases hz : z < 0
  · have hbt : b = true := by rw [hb]; simpa using hz
    have hlen := txt_len base z.natAbs h0
    have hlen2 : (txt base z.natAbs).length ≤ 3200001 := by omega
    have HT : Hid (txtZ base z = 45 :: txt base z.natAbs) := by show _ = _; unfold txtZ; rw [if_pos hz]
    subst hbt
    clear hb hz
    go_enter Tryz.func69, Tryz.ntmps69
    go_wp2_with fail
    refine C.out.mono ?_
    rintro e w2 ⟨rfl, hb2⟩
    go_wp2_with fail
    go_ret
    exact ⟨by rw [HT.out, ← cons_bytes]; rfl, HB.out.trans (hb2.mono HB.out.size)⟩
  · have hbf : b = false := by rw [hb]; simpa using hz
    have HT : Hid (txtZ base z = txt base z.natAbs) := by show _ = _; unfold txtZ; rw [if_neg hz]
    subst hbf
    clear hb hz
    go_enter Tryz.func69, Tryz.ntmps69
    go_wp2_with fail
    refine C.out.mono ?_
    rintro e w2 ⟨rfl, hb2⟩
    go_wp2_with fail
    go_ret
    exact ⟨by rw [HT.out]; rfl, HB.out.trans (hb2.mono HB.out.size)⟩
def toldS (z : Int) : ByteArray := if fits z then ⟨(txtZ 10 z).toArray⟩ else ⟨#[]⟩
def toldE (z : Int) : Int := if fits z then 0 else 2
def ToldR (z : Int) (w : World) (e : Ending) (w' : World) : Prop := e = .returned (.tuple #[.string (toldS z), .int .i64 (toldE z)]) ∧ Below w.heap.size w w'
set_option maxRecDepth 100000 in
set_option maxHeartbeats 1000000 in
theorem t58 (z : Int) (b : Bool) (va : Value) (w : World) (hb : b = decide (z < 0)) (hA : Nt w va z.natAbs) (hl : Lw z.natAbs ≤ 100000) :
    Calls Tryz.prog 58 #[.agg #[.bool b, va]] w (ToldR z w) := by
  have hb0 : Below w.heap.size w (w.alloc (.cells #[.bool b, va] 67)) := (Below.refl _ _).alloc (Nat.le_refl _) _
  have c := t69 z b va 10 _ hb (hA.below hb0) hl (by omega) (by omega)
  obtain ⟨pa, ca, rfl, -, -, -⟩ := hA.cells
  obtain ⟨tb, htb⟩ : ∃ tb : ByteArray, tb = ⟨(txtZ 10 z).toArray⟩ := ⟨_, rfl⟩
  have hv := fun W => t48 tb W
  rw [show tb.data.toList = txtZ 10 z from by rw [htb], vld_fits] at hv
  unfold TxtR at c
  rw [← htb] at c
  have HTB := Lib.hid htb
  have C := Lib.hid c
  have V := Lib.hid hv
  have HB := Lib.hid hb0
  clear c hb0 hA hv htb hb
  by_cases hf : fits z
  · have HT : Hid (toldS z = tb ∧ toldE z = 0) := ⟨by unfold toldS; rw [if_pos hf, HTB.out], by unfold toldE; rw [if_pos hf]⟩
    rw [decide_eq_true hf] at V
    clear hf
    go_enter Tryz.func58, Tryz.ntmps58
    go_wp2_with fail
    refine C.out.mono ?_
    rintro e w2 ⟨rfl, hb2⟩
    go_wp2_with fail
    refine (V.out _).mono ?_
    rintro e w3 ⟨rfl, rfl⟩
    go_wp2_with fail
    go_ret2
    exact ⟨by rw [HT.out.1, HT.out.2]; rfl, HB.out.trans (hb2.mono HB.out.size)⟩
  · have HT : Hid (toldS z = ⟨#[]⟩ ∧ toldE z = 2) := ⟨by unfold toldS; rw [if_neg hf], by unfold toldE; rw [if_neg hf]⟩
    rw [decide_eq_false hf] at V
    clear hf
    go_enter Tryz.func58, Tryz.ntmps58
    go_wp2_with fail
    refine C.out.mono ?_
    rintro e w2 ⟨rfl, hb2⟩
    go_wp2_with fail
    refine (V.out _).mono ?_
    rintro e w3 ⟨rfl, rfl⟩
    go_wp2_with fail
    go_ret2
    exact ⟨by rw [HT.out.1, HT.out.2]; rfl, HB.out.trans (hb2.mono HB.out.size)⟩
end Go.Proofs.YtifhiefdhhmdeaaGreatDoor
