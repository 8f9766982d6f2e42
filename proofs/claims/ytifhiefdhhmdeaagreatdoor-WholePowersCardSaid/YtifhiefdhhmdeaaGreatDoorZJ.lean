/- Contracts of Gcd, Root, Bits. -/
import Derived.Test.YtifhiefdhhmdeaaGreatDoorZI
namespace Go.Proofs.YtifhiefdhhmdeaaGreatDoor
open Go Go.RowKit

theorem false_neg (n : Nat) : false = decide ((n : Int) < 0) := by simp
theorem Lw_gcd (m n k : Nat) (hm : Lw m ≤ k) (hn : Lw n ≤ k) : Lw (Nat.gcd m n) ≤ k := by
  rcases Nat.eq_zero_or_pos m with h | h
  · subst h; rw [Nat.gcd_zero_left]; exact hn
  · exact Nat.le_trans (Lw_mono (Nat.gcd_le_left n h)) hm
set_option maxRecDepth 100000 in
set_option maxHeartbeats 2000000 in
theorem t103 (x y : Int) (b c : Bool) (va vb : Value) (w : World) (_hb : b = decide (x < 0)) (_hc : c = decide (y < 0)) (hA : Nt w va x.natAbs) (hB : Nt w vb y.natAbs) (hl : Lw x.natAbs ≤ 40000) (hl' : Lw y.natAbs ≤ 40000) :
    Calls Tryz.prog 103 #[.agg #[.bool b, va], .agg #[.bool c, vb]] w (ToldR (Nat.gcd x.natAbs y.natAbs : Nat) w) := by
  have hb0 : Below w.heap.size w ((w.alloc (.cells #[.bool b, va] 67)).alloc (.cells #[.bool c, vb] 67)) := ((Below.refl _ _).alloc (Nat.le_refl _) _).alloc (by simp) _
  have c1 := t104 va vb x.natAbs y.natAbs _ (hA.below hb0) (hB.below hb0) (by omega) (by omega)
  have hlw := Lw_gcd x.natAbs y.natAbs 40000 hl hl'
  generalize Nat.gcd x.natAbs y.natAbs = g at *
  obtain ⟨pa, ca, rfl, -, -, -⟩ := hA.cells
  obtain ⟨pb, cb, rfl, -, -, -⟩ := hB.cells
  have C1 := Lib.hid c1
  have HB0 := Lib.hid hb0
  clear c1 hb0 hA hB _hb _hc
  go_enter Tryz.func103, Tryz.ntmps103
  go_wp2_with fail
  refine C1.out.mono ?_
  rintro e w1 ⟨v, rfl, hN, hb1⟩
  have hB1 := HB0.out.trans (hb1.mono HB0.out.size)
  have C2 := Lib.hid (t73 false v g w1 hN)
  have HN := Lib.hid hN
  clear hN hb1
  go_wp2_with fail
  refine C2.out.mono ?_
  rintro e w2 ⟨rfl, hb2⟩
  have hB2 := hB1.trans (hb2.mono hB1.size)
  have C3 := Lib.hid (t58 (g : Int) false v w2 (false_neg g) (HN.out.below hb2) (by simpa using Nat.le_trans hlw (by omega)))
  clear hb2
  go_wp2_with fail
  refine C3.out.mono ?_
  rintro e w3 ⟨rfl, hb3⟩
  go_wp2_with fail
  go_ret2
  exact ⟨rfl, hB2.trans (hb3.mono hB2.size)⟩
set_option maxRecDepth 100000 in
set_option maxHeartbeats 2000000 in
theorem r63_103 (s t : ByteArray) (w : World) :
    Calls Tryz.prog 63 #[.func (.func 56) #[] #[], .string s, .string t, .func (.func 103) #[] #[]] w (RkR s.data.toList t.data.toList (.tuple #[.string ⟨#[]⟩, .int .i64 1]) (fun x y => .tuple #[.string (toldS ((Nat.gcd x.natAbs y.natAbs : Nat) : Int)), .int .i64 (toldE ((Nat.gcd x.natAbs y.natAbs : Nat) : Int))]) w) := by
  go_enter Tryz.func63, Tryz.ntmps63
  go_wp2_with fail
  refine (t56 s w).mono ?_
  rintro e w1 (⟨hv1, rfl, hb1⟩ | ⟨x, v, hx, rfl, hn1, hb1⟩)
  · have HV1 := Lib.hid hv1
    have hB1 := hb1.alloc hb1.size (.cells #[.bool false, .slice none 0 0] 67)
    have HB1 := Lib.hid hB1
    clear hv1 hB1
    go_wp2_with fail
    refine (t56 t _).mono ?_
    rintro e w2 (⟨hv2, rfl, hb2⟩ | ⟨y, v2, hy, rfl, hn2, hb2⟩)
    · have HB2 := Lib.hid (HB1.out.trans (hb2.mono HB1.out.size))
      clear hv2 hb2
      go_wp2_with fail
      go_ret2
      exact .inl ⟨.inl HV1.out, rfl, HB2.out.alloc HB2.out.size _⟩
    · have HB2 := Lib.hid (HB1.out.trans (hb2.mono HB1.out.size))
      obtain ⟨p2, c2, rfl, -, -, -⟩ := hn2.cells
      clear hy hn2 hb2
      go_wp2_with fail
      go_ret2
      exact .inl ⟨.inl HV1.out, rfl, HB2.out.alloc HB2.out.size _⟩
  · have HX := Lib.hid hx
    obtain ⟨p1, c1, rfl, -, -, -⟩ := hn1.cells
    have hB1 := hb1.alloc hb1.size (.cells #[.bool (decide (x < 0)), .slice p1 (Lw x.natAbs) c1] 67)
    have HB1 := Lib.hid hB1
    have HK1 := Lib.hid (Blk.new w1 #[.bool (decide (x < 0)), .slice p1 (Lw x.natAbs) c1] 67)
    have HN1 := Lib.hid (hn1.below ((Below.refl _ _).alloc (Nat.le_refl _) (.cells #[.bool (decide (x < 0)), .slice p1 (Lw x.natAbs) c1] 67)))
    obtain ⟨b, hb⟩ : ∃ b : Bool, b = decide (x < 0) := ⟨_, rfl⟩
    rw [← hb] at HB1 HK1 HN1 ⊢
    have HBX := Lib.hid hb
    clear hx hn1 hB1 hb1 hb
    go_wp2_with fail
    refine (t56 t _).mono ?_
    rintro e w2 (⟨hv2, rfl, hb2⟩ | ⟨y, v2, hy, rfl, hn2, hb2⟩)
    · have HB2 := Lib.hid (HB1.out.trans (hb2.mono HB1.out.size))
      have HV2 := Lib.hid hv2
      clear hv2 hb2
      go_wp2_with fail
      go_ret2
      exact .inl ⟨.inr HV2.out, rfl, HB2.out.alloc HB2.out.size _⟩
    · have HY := Lib.hid hy
      obtain ⟨p2, c2, rfl, -, -, -⟩ := hn2.cells
      obtain ⟨c, hc⟩ : ∃ c : Bool, c = decide (y < 0) := ⟨_, rfl⟩
      rw [← hc]
      have HBY := Lib.hid hc
      have hk := HK1.out.below hb2 (by simp)
      have h1 := (hk.alloc (.cells #[.bool c, .slice p2 (Lw y.natAbs) c2] 67)).cell 0 rfl
      have h2 := (hk.alloc (.cells #[.bool c, .slice p2 (Lw y.natAbs) c2] 67)).cell 1 rfl
      have hB2 := HB1.out.trans (hb2.mono HB1.out.size)
      have hB3 := hB2.alloc hB2.size (.cells #[.bool c, .slice p2 (Lw y.natAbs) c2] 67)
      have c3 := t103 x y b c _ _ (w2.alloc (.cells #[.bool c, .slice p2 (Lw y.natAbs) c2] 67)) HBX.out HBY.out ((HN1.out.below hb2).below ((Below.refl _ _).alloc (Nat.le_refl _) _)) (hn2.below ((Below.refl _ _).alloc (Nat.le_refl _) _)) (Nat.le_trans (fits_Lw HX.out.2) (by omega)) (Nat.le_trans (fits_Lw HY.out.2) (by omega))
      have C3 := Lib.hid c3
      have HB3 := Lib.hid hB3
      clear hy hn2 hb2 hk hB2 hB3 c3 hc
      go_wp2_with fail
      refine C3.out.mono ?_
      rintro e w3 ⟨rfl, hb3⟩
      go_wp2_with fail
      go_ret2
      exact .inr ⟨x, y, HX.out, HY.out, rfl, HB3.out.trans (hb3.mono HB3.out.size)⟩
set_option maxRecDepth 100000 in
set_option maxHeartbeats 2000000 in
theorem t39 (s t : ByteArray) (w : World) : Calls Tryz.prog 39 #[.string s, .string t] w (RkR s.data.toList t.data.toList (.tuple #[.string ⟨#[]⟩, .int .i64 1]) (fun x y => .tuple #[.string (toldS ((Nat.gcd x.natAbs y.natAbs : Nat) : Int)), .int .i64 (toldE ((Nat.gcd x.natAbs y.natAbs : Nat) : Int))]) w) := by
  go_enter Tryz.func39, Tryz.ntmps39
  go_wp2_with fail
  refine (r63_103 s t w).mono ?_
  rintro e w1 (⟨hv, rfl, hb⟩ | ⟨x, y, hx, hy, rfl, hb⟩)
  · have HV := Lib.hid hv
    clear hv
    go_wp2_with fail
    go_ret2
    exact .inl ⟨HV.out, rfl, hb⟩
  · have HX := Lib.hid hx
    have HY := Lib.hid hy
    clear hx hy
    go_wp2_with fail
    go_ret2
    exact .inr ⟨x, y, HX.out, HY.out, rfl, hb⟩
/-- what a function of one number returns -/
def R1 (l : List UInt8) (none : Value) (R : Int → Value) (w : World) (e : Ending) (w' : World) : Prop :=
  (vldL l = false ∧ e = .returned none ∧ Below w.heap.size w w') ∨ (∃ z, IsNum l z ∧ e = .returned (R z) ∧ Below w.heap.size w w')
def bitsZ (z : Int) : Value := .tuple #[.int .i64 ((dgs 2 z.natAbs).length : Nat), .int .i64 0]
def rootZ (z : Int) : Value := if z < 0 then .tuple #[.string ⟨#[]⟩, .int .i64 1] else .tuple #[.string (toldS ((isq z.natAbs : Nat) : Int)), .int .i64 (toldE ((isq z.natAbs : Nat) : Int))]
set_option maxRecDepth 100000 in
set_option maxHeartbeats 2000000 in
theorem t54 (s : ByteArray) (w : World) : Calls Tryz.prog 54 #[.string s] w (R1 s.data.toList (.tuple #[.int .i64 0, .int .i64 1]) bitsZ w) := by
  go_enter Tryz.func54, Tryz.ntmps54
  go_wp2_with fail
  refine (t56 s w).mono ?_
  rintro e w1 (⟨hv, rfl, hb1⟩ | ⟨z, v, hz, rfl, hn, hb1⟩)
  · have HV := Lib.hid hv
    have HB1 := Lib.hid (hb1.alloc hb1.size (.cells #[.bool false, .slice none 0 0] 67))
    clear hv hb1
    go_wp2_with fail
    go_ret2
    exact .inl ⟨HV.out, rfl, HB1.out⟩
  · have HZ := Lib.hid hz
    obtain ⟨p1, c1, rfl, -, -, -⟩ := hn.cells
    generalize decide (z < 0) = c at *
    have C := Lib.hid (t122 _ z.natAbs (w1.alloc (.cells #[.bool c, .slice p1 (Lw z.natAbs) c1] 67)) (hn.below ((Below.refl _ _).alloc (Nat.le_refl _) _)) (Nat.le_trans (fits_Lw hz.2) (by omega)))
    have HB1 := Lib.hid (hb1.alloc hb1.size (.cells #[.bool c, .slice p1 (Lw z.natAbs) c1] 67))
    clear hz hn hb1
    go_wp2_with fail
    refine C.out.mono ?_
    rintro e w2 ⟨rfl, rfl⟩
    go_wp2_with fail
    go_ret2
    exact .inr ⟨z, HZ.out, rfl, HB1.out⟩
set_option maxRecDepth 100000 in
set_option maxHeartbeats 2000000 in
theorem t38 (s : ByteArray) (w : World) : Calls Tryz.prog 38 #[.string s] w (R1 s.data.toList (.tuple #[.string ⟨#[]⟩, .int .i64 1]) rootZ w) := by
  go_enter Tryz.func38, Tryz.ntmps38
  go_wp2_with fail
  refine (t56 s w).mono ?_
  rintro e w1 (⟨hv, rfl, hb1⟩ | ⟨z, v, hz, rfl, hn, hb1⟩)
  · have HV := Lib.hid hv
    have HB1 := Lib.hid (hb1.alloc hb1.size (.cells #[.bool false, .slice none 0 0] 67))
    clear hv hb1
    go_wp2_with fail
    go_ret2
    exact .inl ⟨HV.out, rfl, HB1.out⟩
  · have HZ := Lib.hid hz
    obtain ⟨p1, c1, rfl, -, -, -⟩ := hn.cells
    by_cases hneg : z < 0
    · rw [decide_eq_true hneg]
      have HR : Hid (rootZ z = .tuple #[.string ⟨#[]⟩, .int .i64 1]) := by show _ = _; unfold rootZ; rw [if_pos hneg]
      have HB1 := Lib.hid (hb1.alloc hb1.size (.cells #[.bool true, .slice p1 (Lw z.natAbs) c1] 67))
      clear hz hn hb1 hneg
      go_wp2_with fail
      go_ret2
      exact .inr ⟨z, HZ.out, by rw [HR.out]; rfl, HB1.out⟩
    · rw [decide_eq_false hneg]
      have hlq : Lw (isq z.natAbs) ≤ 400 := by
        have h1 : isq z.natAbs ≤ z.natAbs := by
          have h2 := (isq_spec z.natAbs).1
          rcases Nat.eq_zero_or_pos (isq z.natAbs) with h | h
          · omega
          · have : isq z.natAbs * 1 ≤ isq z.natAbs * isq z.natAbs := Nat.mul_le_mul_left _ h
            omega
        exact Nat.le_trans (Lw_mono h1) (fits_Lw hz.2)
      have HR : Hid (rootZ z = .tuple #[.string (toldS ((isq z.natAbs : Nat) : Int)), .int .i64 (toldE ((isq z.natAbs : Nat) : Int))]) := by show _ = _; unfold rootZ; rw [if_neg hneg]
      have C := Lib.hid (t102 _ z.natAbs (w1.alloc (.cells #[.bool false, .slice p1 (Lw z.natAbs) c1] 67)) (hn.below ((Below.refl _ _).alloc (Nat.le_refl _) _)) (Nat.le_trans (fits_Lw hz.2) (by omega)))
      have HB1 := Lib.hid (hb1.alloc hb1.size (.cells #[.bool false, .slice p1 (Lw z.natAbs) c1] 67))
      generalize isq z.natAbs = g at *
      clear hz hn hb1 hneg
      go_wp2_with fail
      refine C.out.mono ?_
      rintro e w2 ⟨v2, rfl, hN, hb2⟩
      have hB2 := HB1.out.trans (hb2.mono HB1.out.size)
      have C2 := Lib.hid (t73 false v2 g w2 hN)
      have HN := Lib.hid hN
      clear hN hb2
      go_wp2_with fail
      refine C2.out.mono ?_
      rintro e w3 ⟨rfl, hb3⟩
      have hB3 := hB2.trans (hb3.mono hB2.size)
      have C3 := Lib.hid (t58 (g : Int) false v2 w3 (false_neg g) (HN.out.below hb3) (by simpa using Nat.le_trans hlq (by omega)))
      clear hb3
      go_wp2_with fail
      refine C3.out.mono ?_
      rintro e w4 ⟨rfl, hb4⟩
      go_wp2_with fail
      go_ret2
      exact .inr ⟨z, HZ.out, by rw [HR.out]; rfl, hB3.trans (hb4.mono hB3.size)⟩
end Go.Proofs.YtifhiefdhhmdeaaGreatDoor
