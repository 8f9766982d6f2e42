/- Contract of readInteger. -/
import Derived.Test.YtifhiefdhhmdeaaGreatDoorU
import Derived.Test.YtifhiefdhhmdeaaGreatDoorO
namespace Go.Proofs.YtifhiefdhhmdeaaGreatDoor
open Go Go.RowKit

/-- what reading a number returns -/
def RiR (l : List UInt8) (w : World) (e : Ending) (w' : World) : Prop :=
  (vldL l = false ∧ e = .returned (.tuple #[.agg #[.bool false, .slice none 0 0], .bool false]) ∧ Below w.heap.size w w') ∨
  (∃ z v, IsNum l z ∧ e = .returned (.tuple #[.agg #[.bool (decide (z < 0)), v], .bool true]) ∧ Nt w' v z.natAbs ∧ Below w.heap.size w w')
theorem num_sign {z : Int} : decide ((txtZ 10 z).head? = some 45) = decide (z < 0) := by
  rw [Bool.eq_iff_iff]
  simp only [decide_eq_true_eq]
  unfold txtZ
  by_cases h : z < 0
  · simp [h]
  · rw [if_neg h]
    constructor
    · intro h2; exact absurd rfl (txt_sign (b := 10) (by omega) (by omega) (List.mem_of_head? h2)).1
    · intro h2; exact absurd h2 h
theorem Blk.ret67 {w : World} : Blk (w.alloc (.cells #[.bool false, .slice none 0 0] 67)) w.heap.size 67 [.bool false, .slice none 0 0] := Blk.new w _ 67
theorem Lw_dgs {n k : Nat} (h : (dgs 10 n).length ≤ k) : Lw n ≤ k := by
  have h1 := (dgs_length_le (b := 10) (by omega) n k).1 h
  rw [Lw_le]
  exact Nat.lt_of_lt_of_le h1 (Nat.pow_le_pow_left (by omega) k)
theorem fits_Lw {z : Int} (h : fits z) : Lw z.natAbs ≤ 400 := Lw_dgs h

set_option maxRecDepth 100000 in
set_option maxHeartbeats 2000000 in
theorem t56 (s : ByteArray) (w : World) :
    Calls Tryz.prog 56 #[.string s] w (RiR s.data.toList w) := by
  have hb0 : Below w.heap.size w (w.alloc (.cells #[.bool false, .slice none 0 0] 67)) := (Below.refl _ _).alloc (Nat.le_refl _) _
  have HR : Hid (Blk (w.alloc (.cells #[.bool false, .slice none 0 0] 67)) w.heap.size 67 [.bool false, .slice none 0 0]) := Blk.ret67
  have c1 := t48 s (w.alloc (.cells #[.bool false, .slice none 0 0] 67))
  have HB0 := Lib.hid hb0
  clear hb0
  cases hv : vldL s.data.toList with
  | false =>
    rw [hv] at c1
    have HV := Lib.hid hv
    have C1 := Lib.hid c1
    have r0 := HR.out.cell 0 rfl
    have r1 := HR.out.cell 1 rfl
    have f0 := HR.out.free 0
    have f1 := HR.out.free 1
    clear hv c1
    go_enter Tryz.func56, Tryz.ntmps56
    go_wp2_with fail
    refine C1.out.mono ?_
    rintro e w' ⟨rfl, rfl⟩
    go_wp2_with fail
    refine bodyPost_ret (v := .tuple #[.agg #[.bool false, .slice none 0 0], .bool false]) (by simp [results, Tryz.results56, go_sem, r0, r1]) rfl (.inl ⟨HV.out, rfl, ?_⟩)
    exact HB0.out
  | true =>
    obtain ⟨z, hz⟩ := (vldL_iff _).1 hv
    have hzn := fits_Lw hz.2
    have HZ := Lib.hid hz
    have c2 := Tryz.strings_CutPrefix s ⟨#[45]⟩ (w.alloc (.cells #[.bool false, .slice none 0 0] 67))
    rw [show ((⟨#[45]⟩ : ByteArray).data.toList) = [45] from rfl, trim_unsign, prefix_sign, hz.1, num_sign, unsign_txtZ 10 (by omega) (by omega)] at c2
    obtain ⟨t, ht⟩ : ∃ t : ByteArray, t = ⟨(txt 10 z.natAbs).toArray⟩ := ⟨_, rfl⟩
    rw [← ht] at c2
    have htl : t.data.toList = txt 10 z.natAbs := by rw [ht]
    have hts : t.size ≤ 10000 := by
      have h1 : t.size = (txt 10 z.natAbs).length := by rw [← htl]; rfl
      rw [h1, txt_length 10 _ (by omega)]
      have : (dgs 10 z.natAbs).length ≤ 400 := hz.2
      omega
    have c3 := fun W => t72 t 10 W hts (by omega) (by omega)
    rw [htl, rdN_txt 10 (by omega) (by omega)] at c3
    obtain ⟨b, hbz⟩ : ∃ b : Bool, b = decide (z < 0) := ⟨_, rfl⟩
    rw [← hbz] at c2
    have hbn : (b && decide (0 < z.natAbs)) = decide (z < 0) := by rw [hbz, Bool.eq_iff_iff]; simp; omega
    have c4 := fun v (W : World) (h : Nt W v z.natAbs) => t73 b v z.natAbs W h
    rw [hbn, ← hbz] at c4
    have HBZ := Lib.hid hbz
    rw [hv] at c1
    have C1 := Lib.hid c1
    have C2 := Lib.hid c2
    have C3 := Lib.hid c3
    have C4 := Lib.hid c4
    clear hv c1 c2 c3 c4 hbn hbz hz ht htl
    go_enter Tryz.func56, Tryz.ntmps56
    go_wp2_with fail
    refine C1.out.mono ?_
    rintro e w' ⟨rfl, rfl⟩
    go_wp2_with fail
    refine C2.out.mono ?_
    rintro e w' ⟨rfl, rfl⟩
    go_wp2_with fail
    refine (C3.out _).mono ?_
    rintro e w2 ⟨v, rfl, hv, hb2⟩
    have hbw2 := HB0.out.trans (hb2.mono HB0.out.size)
    have HR2 := Lib.hid (HR.out.below hb2 HR.out.lt)
    have hnt := hv.nt
    obtain ⟨pv, cv, rfl, -, -, -⟩ := hnt.cells
    have HNT := Lib.hid hnt
    clear hv hnt hb2
    go_wp2_with fail
    refine (C4.out _ _ HNT.out).mono ?_
    rintro e w3 ⟨rfl, hb3⟩
    have hbw3 := hbw2.trans (hb3.mono hbw2.size)
    have hr3 := HR2.out.below hb3 HR2.out.lt
    have hn3 := HNT.out.below hb3
    have r0 := hr3.cell 0 rfl
    have r1 := hr3.cell 1 rfl
    have f0 := hr3.free 0
    have f1 := hr3.free 1
    have HR3 := Lib.hid hr3
    have HN3 := Lib.hid hn3
    clear hr3 hn3 hb3
    go_wp2
    have g0 : (w3.setCell ⟨w.heap.size, 0, none⟩ (.bool b)).cell? ⟨w.heap.size, 0, none⟩ = some (.bool b) := (HR3.out.set 0 _).cell 0 rfl
    have g1 : ((w3.setCell ⟨w.heap.size, 0, none⟩ (.bool b)).setCell ⟨w.heap.size, 1, none⟩ (.slice pv (Lw z.natAbs) cv)).cell? ⟨w.heap.size, 1, none⟩ = some (.slice pv (Lw z.natAbs) cv) := ((HR3.out.set 0 _).set 1 _).cell 1 rfl
    refine bodyPost_ret (v := .tuple #[.agg #[.bool b, .slice pv (Lw z.natAbs) cv], .bool true]) (by simp [results, Tryz.results56, go_sem, g0, g1]) rfl ?_
    refine .inr ⟨z, _, HZ.out, by rw [← HBZ.out], (HN3.out.setCell (HN3.out.ne67 HR3.out)).setCell (HN3.out.ne67 HR3.out), (hbw3.setCell (Nat.le_refl _) _).setCell (Nat.le_refl _) _⟩
end Go.Proofs.YtifhiefdhhmdeaaGreatDoor
