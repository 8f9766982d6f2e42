/- Contracts of the operators' closures and of reckon over integers. -/
import Derived.Test.YtifhiefdhhmdeaaGreatDoorZB
namespace Go.Proofs.YtifhiefdhhmdeaaGreatDoor
open Go Go.RowKit

theorem IntR.lw {n k : Nat} (h : n ≤ k) (j : Nat) (hj : k ≤ j) : n ≤ j := Nat.le_trans h hj
theorem Lw_addZ (x y : Int) (k : Nat) (hx : Lw x.natAbs ≤ k) (hy : Lw y.natAbs ≤ k) : Lw (x + y).natAbs ≤ k + 1 := by
  have h1 := Lw_mono (Int.natAbs_add_le x y)
  have h2 := Lw_add x.natAbs y.natAbs
  omega
theorem Lw_subZ (x y : Int) (k : Nat) (hx : Lw x.natAbs ≤ k) (hy : Lw y.natAbs ≤ k) : Lw (x - y).natAbs ≤ k + 1 := by
  have h1 := Lw_mono (Int.natAbs_sub_le x y)
  have h2 := Lw_add x.natAbs y.natAbs
  omega
theorem Lw_mulZ (x y : Int) (k : Nat) (hx : Lw x.natAbs ≤ k) (hy : Lw y.natAbs ≤ k) : Lw (x * y).natAbs ≤ 2 * k := by
  rw [Int.natAbs_mul]
  have h2 := Lw_mul x.natAbs y.natAbs
  omega
set_option maxRecDepth 100000 in
set_option maxHeartbeats 2000000 in
theorem t90 (x y : Int) (b c : Bool) (va vb : Value) (w : World) (hb : b = decide (x < 0)) (hc : c = decide (y < 0)) (hA : Nt w va x.natAbs) (hB : Nt w vb y.natAbs) (hl : Lw x.natAbs ≤ 40000) (hl' : Lw y.natAbs ≤ 40000) :
    Calls Tryz.prog 90 #[.agg #[.bool b, va], .agg #[.bool c, vb]] w (ToldR (x + y) w) := by
  have hb0 : Below w.heap.size w ((w.alloc (.cells #[.bool b, va] 67)).alloc (.cells #[.bool c, vb] 67)) := ((Below.refl _ _).alloc (Nat.le_refl _) _).alloc (by simp) _
  have c1 := t91 x y b c va vb _ hb hc (hA.below hb0) (hB.below hb0) (by omega) (by omega)
  have hlw := Lw_addZ x y 40000 hl hl'
  obtain ⟨pa, ca, rfl, -, -, -⟩ := hA.cells
  obtain ⟨pb, cb, rfl, -, -, -⟩ := hB.cells
  have C1 := Lib.hid c1
  have HB0 := Lib.hid hb0
  clear c1 hb0 hA hB hb hc
  go_enter Tryz.func90, Tryz.ntmps90
  go_wp2_with fail
  refine C1.out.mono ?_
  rintro e w1 ⟨v, rfl, hN, hb1⟩
  have c2 := t58 (x + y) _ v w1 rfl hN (by omega)
  have hB1 := HB0.out.trans (hb1.mono HB0.out.size)
  have C2 := Lib.hid c2
  clear c2 hN hb1
  go_wp2_with fail
  refine C2.out.mono ?_
  rintro e w2 ⟨rfl, hb2⟩
  go_wp2_with fail
  go_ret2
  exact ⟨rfl, hB1.trans (hb2.mono hB1.size)⟩
set_option maxRecDepth 100000 in
set_option maxHeartbeats 2000000 in
theorem t92 (x y : Int) (b c : Bool) (va vb : Value) (w : World) (hb : b = decide (x < 0)) (hc : c = decide (y < 0)) (hA : Nt w va x.natAbs) (hB : Nt w vb y.natAbs) (hl : Lw x.natAbs ≤ 40000) (hl' : Lw y.natAbs ≤ 40000) :
    Calls Tryz.prog 92 #[.agg #[.bool b, va], .agg #[.bool c, vb]] w (ToldR (x - y) w) := by
  have hb0 : Below w.heap.size w ((w.alloc (.cells #[.bool b, va] 67)).alloc (.cells #[.bool c, vb] 67)) := ((Below.refl _ _).alloc (Nat.le_refl _) _).alloc (by simp) _
  have c1 := t93 x y b c va vb _ hb hc (hA.below hb0) (hB.below hb0) (by omega) (by omega)
  have hlw := Lw_subZ x y 40000 hl hl'
  obtain ⟨pa, ca, rfl, -, -, -⟩ := hA.cells
  obtain ⟨pb, cb, rfl, -, -, -⟩ := hB.cells
  have C1 := Lib.hid c1
  have HB0 := Lib.hid hb0
  clear c1 hb0 hA hB hb hc
  go_enter Tryz.func92, Tryz.ntmps92
  go_wp2_with fail
  refine C1.out.mono ?_
  rintro e w1 ⟨v, rfl, hN, hb1⟩
  have c2 := t58 (x - y) _ v w1 rfl hN (by omega)
  have hB1 := HB0.out.trans (hb1.mono HB0.out.size)
  have C2 := Lib.hid c2
  clear c2 hN hb1
  go_wp2_with fail
  refine C2.out.mono ?_
  rintro e w2 ⟨rfl, hb2⟩
  go_wp2_with fail
  go_ret2
  exact ⟨rfl, hB1.trans (hb2.mono hB1.size)⟩
set_option maxRecDepth 100000 in
set_option maxHeartbeats 2000000 in
theorem t94 (x y : Int) (b c : Bool) (va vb : Value) (w : World) (hb : b = decide (x < 0)) (hc : c = decide (y < 0)) (hA : Nt w va x.natAbs) (hB : Nt w vb y.natAbs) (hl : Lw x.natAbs ≤ 40000) (hl' : Lw y.natAbs ≤ 40000) :
    Calls Tryz.prog 94 #[.agg #[.bool b, va], .agg #[.bool c, vb]] w (ToldR (x * y) w) := by
  have hb0 : Below w.heap.size w ((w.alloc (.cells #[.bool b, va] 67)).alloc (.cells #[.bool c, vb] 67)) := ((Below.refl _ _).alloc (Nat.le_refl _) _).alloc (by simp) _
  have c1 := t95I x y b c va vb _ hb hc (hA.below hb0) (hB.below hb0) (by omega) (by omega)
  have hlw := Lw_mulZ x y 40000 hl hl'
  obtain ⟨pa, ca, rfl, -, -, -⟩ := hA.cells
  obtain ⟨pb, cb, rfl, -, -, -⟩ := hB.cells
  have C1 := Lib.hid c1
  have HB0 := Lib.hid hb0
  clear c1 hb0 hA hB hb hc
  go_enter Tryz.func94, Tryz.ntmps94
  go_wp2_with fail
  refine C1.out.mono ?_
  rintro e w1 ⟨v, rfl, hN, hb1⟩
  have c2 := t58 (x * y) _ v w1 rfl hN (by omega)
  have hB1 := HB0.out.trans (hb1.mono HB0.out.size)
  have C2 := Lib.hid c2
  clear c2 hN hb1
  go_wp2_with fail
  refine C2.out.mono ?_
  rintro e w2 ⟨rfl, hb2⟩
  go_wp2_with fail
  go_ret2
  exact ⟨rfl, hB1.trans (hb2.mono hB1.size)⟩
set_option maxRecDepth 100000 in
set_option maxHeartbeats 2000000 in
theorem t100 (x y : Int) (b c : Bool) (va vb : Value) (w : World) (hb : b = decide (x < 0)) (hc : c = decide (y < 0)) (hA : Nt w va x.natAbs) (hB : Nt w vb y.natAbs) (hl : Lw x.natAbs ≤ 40000) (hl' : Lw y.natAbs ≤ 40000) :
    Calls Tryz.prog 100 #[.agg #[.bool b, va], .agg #[.bool c, vb]] w fun e w' => e = .returned (.tuple #[.int .i64 (cmpZ x y), .int .i64 0]) ∧ Below w.heap.size w w' := by
  have hb0 : Below w.heap.size w ((w.alloc (.cells #[.bool b, va] 67)).alloc (.cells #[.bool c, vb] 67)) := ((Below.refl _ _).alloc (Nat.le_refl _) _).alloc (by simp) _
  have c1 := t101 x y b c va vb _ hb hc (hA.below hb0) (hB.below hb0) (by omega) (by omega)
  obtain ⟨pa, ca, rfl, -, -, -⟩ := hA.cells
  obtain ⟨pb, cb, rfl, -, -, -⟩ := hB.cells
  have C1 := Lib.hid c1
  have HB0 := Lib.hid hb0
  clear c1 hb0 hA hB hb hc
  generalize cmpZ x y = cv at *
  go_enter Tryz.func100, Tryz.ntmps100
  go_wp2_with fail
  refine C1.out.mono ?_
  rintro e w1 ⟨rfl, hb1⟩
  go_wp2_with fail
  go_ret2
  exact ⟨rfl, HB0.out.trans (hb1.mono HB0.out.size)⟩
/-- what an operator over two numbers returns -/
def RkR (s t : List UInt8) (none : Value) (R : Int → Int → Value) (w : World) (e : Ending) (w' : World) : Prop :=
  ((vldL s = false ∨ vldL t = false) ∧ e = .returned none ∧ Below w.heap.size w w') ∨
  (∃ x y, IsNum s x ∧ IsNum t y ∧ e = .returned (R x y) ∧ Below w.heap.size w w')
set_option maxRecDepth 100000 in
set_option maxHeartbeats 2000000 in
theorem r63_90 (s t : ByteArray) (w : World) :
    Calls Tryz.prog 63 #[.func (.func 56) #[] #[], .string s, .string t, .func (.func 90) #[] #[]] w (RkR s.data.toList t.data.toList (.tuple #[.string ⟨#[]⟩, .int .i64 1]) (fun x y => .tuple #[.string (toldS (x + y)), .int .i64 (toldE (x + y))]) w) := by
  go_enter Tryz.func63, Tryz.ntmps63
  go_wp2_with fail
  refine (t56 s w).mono ?_
  rintro e w1 (⟨hv1, rfl, hb1⟩ | ⟨x, v, hx, rfl, hn1, hb1⟩)
  · have HV1 := Lib.hid hv1
    have hB1 := hb1.alloc hb1.size (.cells #[.bool false, .slice none 0 0] 67)
    have HB1 := Lib.hid hB1
    clear hv1 hB1
    go_wp2_with fail
    refine (t56 t _).mono ?_
    rintro e w2 (⟨hv2, rfl, hb2⟩ | ⟨y, v2, hy, rfl, hn2, hb2⟩)
    · have HB2 := Lib.hid (HB1.out.trans (hb2.mono HB1.out.size))
      clear hv2 hb2
      go_wp2_with fail
      go_ret2
      exact .inl ⟨.inl HV1.out, rfl, HB2.out.alloc HB2.out.size _⟩
    · have HB2 := Lib.hid (HB1.out.trans (hb2.mono HB1.out.size))
      obtain ⟨p2, c2, rfl, -, -, -⟩ := hn2.cells
      clear hy hn2 hb2
      go_wp2_with fail
      go_ret2
      exact .inl ⟨.inl HV1.out, rfl, HB2.out.alloc HB2.out.size _⟩
  · have HX := Lib.hid hx
    obtain ⟨p1, c1, rfl, -, -, -⟩ := hn1.cells
    have hB1 := hb1.alloc hb1.size (.cells #[.bool (decide (x < 0)), .slice p1 (Lw x.natAbs) c1] 67)
    have HB1 := Lib.hid hB1
    have HK1 := Lib.hid (Blk.new w1 #[.bool (decide (x < 0)), .slice p1 (Lw x.natAbs) c1] 67)
    have HN1 := Lib.hid (hn1.below ((Below.refl _ _).alloc (Nat.le_refl _) (.cells #[.bool (decide (x < 0)), .slice p1 (Lw x.natAbs) c1] 67)))
    obtain ⟨b, hb⟩ : ∃ b : Bool, b = decide (x < 0) := ⟨_, rfl⟩
    rw [← hb] at HB1 HK1 HN1 ⊢
    have HBX := Lib.hid hb
    clear hx hn1 hB1 hb1 hb
    go_wp2_with fail
    refine (t56 t _).mono ?_
    rintro e w2 (⟨hv2, rfl, hb2⟩ | ⟨y, v2, hy, rfl, hn2, hb2⟩)
    · have HB2 := Lib.hid (HB1.out.trans (hb2.mono HB1.out.size))
      have HV2 := Lib.hid hv2
      clear hv2 hb2
      go_wp2_with fail
      go_ret2
      exact .inl ⟨.inr HV2.out, rfl, HB2.out.alloc HB2.out.size _⟩
    · have HY := Lib.hid hy
      obtain ⟨p2, c2, rfl, -, -, -⟩ := hn2.cells
      obtain ⟨c, hc⟩ : ∃ c : Bool, c = decide (y < 0) := ⟨_, rfl⟩
      rw [← hc]
      have HBY := Lib.hid hc
      have hk := HK1.out.below hb2 (by simp)
      have h1 := (hk.alloc (.cells #[.bool c, .slice p2 (Lw y.natAbs) c2] 67)).cell 0 rfl
      have h2 := (hk.alloc (.cells #[.bool c, .slice p2 (Lw y.natAbs) c2] 67)).cell 1 rfl
      have hB2 := HB1.out.trans (hb2.mono HB1.out.size)
      have hB3 := hB2.alloc hB2.size (.cells #[.bool c, .slice p2 (Lw y.natAbs) c2] 67)
      have c3 := t90 x y b c _ _ (w2.alloc (.cells #[.bool c, .slice p2 (Lw y.natAbs) c2] 67)) HBX.out HBY.out ((HN1.out.below hb2).below ((Below.refl _ _).alloc (Nat.le_refl _) _)) (hn2.below ((Below.refl _ _).alloc (Nat.le_refl _) _)) (Nat.le_trans (fits_Lw HX.out.2) (by omega)) (Nat.le_trans (fits_Lw HY.out.2) (by omega))
      have C3 := Lib.hid c3
      have HB3 := Lib.hid hB3
      clear hy hn2 hb2 hk hB2 hB3 c3 hc
      go_wp2_with fail
      refine C3.out.mono ?_
      rintro e w3 ⟨rfl, hb3⟩
      go_wp2_with fail
      go_ret2
      exact .inr ⟨x, y, HX.out, HY.out, rfl, HB3.out.trans (hb3.mono HB3.out.size)⟩
set_option maxRecDepth 100000 in
set_option maxHeartbeats 2000000 in
theorem r63_92 (s t : ByteArray) (w : World) :
    Calls Tryz.prog 63 #[.func (.func 56) #[] #[], .string s, .string t, .func (.func 92) #[] #[]] w (RkR s.data.toList t.data.toList (.tuple #[.string ⟨#[]⟩, .int .i64 1]) (fun x y => .tuple #[.string (toldS (x - y)), .int .i64 (toldE (x - y))]) w) := by
  go_enter Tryz.func63, Tryz.ntmps63
  go_wp2_with fail
  refine (t56 s w).mono ?_
  rintro e w1 (⟨hv1, rfl, hb1⟩ | ⟨x, v, hx, rfl, hn1, hb1⟩)
  · have HV1 := Lib.hid hv1
    have hB1 := hb1.alloc hb1.size (.cells #[.bool false, .slice none 0 0] 67)
    have HB1 := Lib.hid hB1
    clear hv1 hB1
    go_wp2_with fail
    refine (t56 t _).mono ?_
    rintro e w2 (⟨hv2, rfl, hb2⟩ | ⟨y, v2, hy, rfl, hn2, hb2⟩)
    · have HB2 := Lib.hid (HB1.out.trans (hb2.mono HB1.out.size))
      clear hv2 hb2
      go_wp2_with fail
      go_ret2
      exact .inl ⟨.inl HV1.out, rfl, HB2.out.alloc HB2.out.size _⟩
    · have HB2 := Lib.hid (HB1.out.trans (hb2.mono HB1.out.size))
      obtain ⟨p2, c2, rfl, -, -, -⟩ := hn2.cells
      clear hy hn2 hb2
      go_wp2_with fail
      go_ret2
      exact .inl ⟨.inl HV1.out, rfl, HB2.out.alloc HB2.out.size _⟩
  · have HX := Lib.hid hx
    obtain ⟨p1, c1, rfl, -, -, -⟩ := hn1.cells
    have hB1 := hb1.alloc hb1.size (.cells #[.bool (decide (x < 0)), .slice p1 (Lw x.natAbs) c1] 67)
    have HB1 := Lib.hid hB1
    have HK1 := Lib.hid (Blk.new w1 #[.bool (decide (x < 0)), .slice p1 (Lw x.natAbs) c1] 67)
    have HN1 := Lib.hid (hn1.below ((Below.refl _ _).alloc (Nat.le_refl _) (.cells #[.bool (decide (x < 0)), .slice p1 (Lw x.natAbs) c1] 67)))
    obtain ⟨b, hb⟩ : ∃ b : Bool, b = decide (x < 0) := ⟨_, rfl⟩
    rw [← hb] at HB1 HK1 HN1 ⊢
    have HBX := Lib.hid hb
    clear hx hn1 hB1 hb1 hb
    go_wp2_with fail
    refine (t56 t _).mono ?_
    rintro e w2 (⟨hv2, rfl, hb2⟩ | ⟨y, v2, hy, rfl, hn2, hb2⟩)
    · have HB2 := Lib.hid (HB1.out.trans (hb2.mono HB1.out.size))
      have HV2 := Lib.hid hv2
      clear hv2 hb2
      go_wp2_with fail
      go_ret2
      exact .inl ⟨.inr HV2.out, rfl, HB2.out.alloc HB2.out.size _⟩
    · have HY := Lib.hid hy
      obtain ⟨p2, c2, rfl, -, -, -⟩ := hn2.cells
      obtain ⟨c, hc⟩ : ∃ c : Bool, c = decide (y < 0) := ⟨_, rfl⟩
      rw [← hc]
      have HBY := Lib.hid hc
      have hk := HK1.out.below hb2 (by simp)
      have h1 := (hk.alloc (.cells #[.bool c, .slice p2 (Lw y.natAbs) c2] 67)).cell 0 rfl
      have h2 := (hk.alloc (.cells #[.bool c, .slice p2 (Lw y.natAbs) c2] 67)).cell 1 rfl
      have hB2 := HB1.out.trans (hb2.mono HB1.out.size)
      have hB3 := hB2.alloc hB2.size (.cells #[.bool c, .slice p2 (Lw y.natAbs) c2] 67)
      have c3 := t92 x y b c _ _ (w2.alloc (.cells #[.bool c, .slice p2 (Lw y.natAbs) c2] 67)) HBX.out HBY.out ((HN1.out.below hb2).below ((Below.refl _ _).alloc (Nat.le_refl _) _)) (hn2.below ((Below.refl _ _).alloc (Nat.le_refl _) _)) (Nat.le_trans (fits_Lw HX.out.2) (by omega)) (Nat.le_trans (fits_Lw HY.out.2) (by omega))
      have C3 := Lib.hid c3
      have HB3 := Lib.hid hB3
      clear hy hn2 hb2 hk hB2 hB3 c3 hc
      go_wp2_with fail
      refine C3.out.mono ?_
      rintro e w3 ⟨rfl, hb3⟩
      go_wp2_with fail
      go_ret2
      exact .inr ⟨x, y, HX.out, HY.out, rfl, HB3.out.trans (hb3.mono HB3.out.size)⟩
set_option maxRecDepth 100000 in
set_option maxHeartbeats 2000000 in
theorem r63_94 (s t : ByteArray) (w : World) :
    Calls Tryz.prog 63 #[.func (.func 56) #[] #[], .string s, .string t, .func (.func 94) #[] #[]] w (RkR s.data.toList t.data.toList (.tuple #[.string ⟨#[]⟩, .int .i64 1]) (fun x y => .tuple #[.string (toldS (x * y)), .int .i64 (toldE (x * y))]) w) := by
  go_enter Tryz.func63, Tryz.ntmps63
  go_wp2_with fail
  refine (t56 s w).mono ?_
  rintro e w1 (⟨hv1, rfl, hb1⟩ | ⟨x, v, hx, rfl, hn1, hb1⟩)
  · have HV1 := Lib.hid hv1
    have hB1 := hb1.alloc hb1.size (.cells #[.bool false, .slice none 0 0] 67)
    have HB1 := Lib.hid hB1
    clear hv1 hB1
    go_wp2_with fail
    refine (t56 t _).mono ?_
    rintro e w2 (⟨hv2, rfl, hb2⟩ | ⟨y, v2, hy, rfl, hn2, hb2⟩)
    · have HB2 := Lib.hid (HB1.out.trans (hb2.mono HB1.out.size))
      clear hv2 hb2
      go_wp2_with fail
      go_ret2
      exact .inl ⟨.inl HV1.out, rfl, HB2.out.alloc HB2.out.size _⟩
    · have HB2 := Lib.hid (HB1.out.trans (hb2.mono HB1.out.size))
      obtain ⟨p2, c2, rfl, -, -, -⟩ := hn2.cells
      clear hy hn2 hb2
      go_wp2_with fail
      go_ret2
      exact .inl ⟨.inl HV1.out, rfl, HB2.out.alloc HB2.out.size _⟩
  · have HX := Lib.hid hx
    obtain ⟨p1, c1, rfl, -, -, -⟩ := hn1.cells
    have hB1 := hb1.alloc hb1.size (.cells #[.bool (decide (x < 0)), .slice p1 (Lw x.natAbs) c1] 67)
    have HB1 := Lib.hid hB1
    have HK1 := Lib.hid (Blk.new w1 #[.bool (decide (x < 0)), .slice p1 (Lw x.natAbs) c1] 67)
    have HN1 := Lib.hid (hn1.below ((Below.refl _ _).alloc (Nat.le_refl _) (.cells #[.bool (decide (x < 0)), .slice p1 (Lw x.natAbs) c1] 67)))
    obtain ⟨b, hb⟩ : ∃ b : Bool, b = decide (x < 0) := ⟨_, rfl⟩
    rw [← hb] at HB1 HK1 HN1 ⊢
    have HBX := Lib.hid hb
    clear hx hn1 hB1 hb1 hb
    go_wp2_with fail
    refine (t56 t _).mono ?_
    rintro e w2 (⟨hv2, rfl, hb2⟩ | ⟨y, v2, hy, rfl, hn2, hb2⟩)
    · have HB2 := Lib.hid (HB1.out.trans (hb2.mono HB1.out.size))
      have HV2 := Lib.hid hv2
      clear hv2 hb2
      go_wp2_with fail
      go_ret2
      exact .inl ⟨.inr HV2.out, rfl, HB2.out.alloc HB2.out.size _⟩
    · have HY := Lib.hid hy
      obtain ⟨p2, c2, rfl, -, -, -⟩ := hn2.cells
      obtain ⟨c, hc⟩ : ∃ c : Bool, c = decide (y < 0) := ⟨_, rfl⟩
      rw [← hc]
      have HBY := Lib.hid hc
      have hk := HK1.out.below hb2 (by simp)
      have h1 := (hk.alloc (.cells #[.bool c, .slice p2 (Lw y.natAbs) c2] 67)).cell 0 rfl
      have h2 := (hk.alloc (.cells #[.bool c, .slice p2 (Lw y.natAbs) c2] 67)).cell 1 rfl
      have hB2 := HB1.out.trans (hb2.mono HB1.out.size)
      have hB3 := hB2.alloc hB2.size (.cells #[.bool c, .slice p2 (Lw y.natAbs) c2] 67)
      have c3 := t94 x y b c _ _ (w2.alloc (.cells #[.bool c, .slice p2 (Lw y.natAbs) c2] 67)) HBX.out HBY.out ((HN1.out.below hb2).below ((Below.refl _ _).alloc (Nat.le_refl _) _)) (hn2.below ((Below.refl _ _).alloc (Nat.le_refl _) _)) (Nat.le_trans (fits_Lw HX.out.2) (by omega)) (Nat.le_trans (fits_Lw HY.out.2) (by omega))
      have C3 := Lib.hid c3
      have HB3 := Lib.hid hB3
      clear hy hn2 hb2 hk hB2 hB3 c3 hc
      go_wp2_with fail
      refine C3.out.mono ?_
      rintro e w3 ⟨rfl, hb3⟩
      go_wp2_with fail
      go_ret2
      exact .inr ⟨x, y, HX.out, HY.out, rfl, HB3.out.trans (hb3.mono HB3.out.size)⟩
set_option maxRecDepth 100000 in
set_option maxHeartbeats 2000000 in
theorem r99_100 (s t : ByteArray) (w : World) :
    Calls Tryz.prog 99 #[.func (.func 56) #[] #[], .string s, .string t, .func (.func 100) #[] #[]] w (RkR s.data.toList t.data.toList (.tuple #[.int .i64 0, .int .i64 1]) (fun x y => .tuple #[.int .i64 (cmpZ x y), .int .i64 0]) w) := by
  go_enter Tryz.func99, Tryz.ntmps99
  go_wp2_with fail
  refine (t56 s w).mono ?_
  rintro e w1 (⟨hv1, rfl, hb1⟩ | ⟨x, v, hx, rfl, hn1, hb1⟩)
  · have HV1 := Lib.hid hv1
    have hB1 := hb1.alloc hb1.size (.cells #[.bool false, .slice none 0 0] 67)
    have HB1 := Lib.hid hB1
    clear hv1 hB1
    go_wp2_with fail
    refine (t56 t _).mono ?_
    rintro e w2 (⟨hv2, rfl, hb2⟩ | ⟨y, v2, hy, rfl, hn2, hb2⟩)
    · have HB2 := Lib.hid (HB1.out.trans (hb2.mono HB1.out.size))
      clear hv2 hb2
      go_wp2_with fail
      go_ret2
      exact .inl ⟨.inl HV1.out, rfl, HB2.out.alloc HB2.out.size _⟩
    · have HB2 := Lib.hid (HB1.out.trans (hb2.mono HB1.out.size))
      obtain ⟨p2, c2, rfl, -, -, -⟩ := hn2.cells
      clear hy hn2 hb2
      go_wp2_with fail
      go_ret2
      exact .inl ⟨.inl HV1.out, rfl, HB2.out.alloc HB2.out.size _⟩
  · have HX := Lib.hid hx
    obtain ⟨p1, c1, rfl, -, -, -⟩ := hn1.cells
    have hB1 := hb1.alloc hb1.size (.cells #[.bool (decide (x < 0)), .slice p1 (Lw x.natAbs) c1] 67)
    have HB1 := Lib.hid hB1
    have HK1 := Lib.hid (Blk.new w1 #[.bool (decide (x < 0)), .slice p1 (Lw x.natAbs) c1] 67)
    have HN1 := Lib.hid (hn1.below ((Below.refl _ _).alloc (Nat.le_refl _) (.cells #[.bool (decide (x < 0)), .slice p1 (Lw x.natAbs) c1] 67)))
    obtain ⟨b, hb⟩ : ∃ b : Bool, b = decide (x < 0) := ⟨_, rfl⟩
    rw [← hb] at HB1 HK1 HN1 ⊢
    have HBX := Lib.hid hb
    clear hx hn1 hB1 hb1 hb
    go_wp2_with fail
    refine (t56 t _).mono ?_
    rintro e w2 (⟨hv2, rfl, hb2⟩ | ⟨y, v2, hy, rfl, hn2, hb2⟩)
    · have HB2 := Lib.hid (HB1.out.trans (hb2.mono HB1.out.size))
      have HV2 := Lib.hid hv2
      clear hv2 hb2
      go_wp2_with fail
      go_ret2
      exact .inl ⟨.inr HV2.out, rfl, HB2.out.alloc HB2.out.size _⟩
    · have HY := Lib.hid hy
      obtain ⟨p2, c2, rfl, -, -, -⟩ := hn2.cells
      obtain ⟨c, hc⟩ : ∃ c : Bool, c = decide (y < 0) := ⟨_, rfl⟩
      rw [← hc]
      have HBY := Lib.hid hc
      have hk := HK1.out.below hb2 (by simp)
      have h1 := (hk.alloc (.cells #[.bool c, .slice p2 (Lw y.natAbs) c2] 67)).cell 0 rfl
      have h2 := (hk.alloc (.cells #[.bool c, .slice p2 (Lw y.natAbs) c2] 67)).cell 1 rfl
      have hB2 := HB1.out.trans (hb2.mono HB1.out.size)
      have hB3 := hB2.alloc hB2.size (.cells #[.bool c, .slice p2 (Lw y.natAbs) c2] 67)
      have c3 := t100 x y b c _ _ (w2.alloc (.cells #[.bool c, .slice p2 (Lw y.natAbs) c2] 67)) HBX.out HBY.out ((HN1.out.below hb2).below ((Below.refl _ _).alloc (Nat.le_refl _) _)) (hn2.below ((Below.refl _ _).alloc (Nat.le_refl _) _)) (Nat.le_trans (fits_Lw HX.out.2) (by omega)) (Nat.le_trans (fits_Lw HY.out.2) (by omega))
      have C3 := Lib.hid c3
      have HB3 := Lib.hid hB3
      clear hy hn2 hb2 hk hB2 hB3 c3 hc
      go_wp2_with fail
      refine C3.out.mono ?_
      rintro e w3 ⟨rfl, hb3⟩
      go_wp2_with fail
      go_ret2
      exact .inr ⟨x, y, HX.out, HY.out, rfl, HB3.out.trans (hb3.mono HB3.out.size)⟩
end Go.Proofs.YtifhiefdhhmdeaaGreatDoor
