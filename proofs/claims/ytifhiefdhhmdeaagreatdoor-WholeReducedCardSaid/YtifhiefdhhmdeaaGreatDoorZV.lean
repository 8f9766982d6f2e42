/- Contracts of a rational's text, the operators over rationals, Ratio, RatioAdd, RatioMul, RatioCompare. -/
import Derived.Test.YtifhiefdhhmdeaaGreatDoorZT
namespace Go.Proofs.YtifhiefdhhmdeaaGreatDoor
open Go Go.RowKit

theorem rat_join (x y : List UInt8) : ((⟨x.toArray⟩ : ByteArray) ++ ⟨#[47]⟩ ++ ⟨y.toArray⟩) = ⟨(x ++ 47 :: y).toArray⟩ := by
  apply ByteArray.ext
  simp
theorem numS_len {z : Int} (h : fits z) : (⟨(txtZ 10 z).toArray⟩ : ByteArray).size ≤ 402 := by
  show (txtZ 10 z).length ≤ 402
  have h1 := txt_length 10 z.natAbs (by omega)
  have h2 : (dgs 10 z.natAbs).length ≤ 400 := h
  unfold txtZ
  split
  · rw [List.length_cons, h1]; omega
  · rw [h1]; omega
set_option maxRecDepth 100000 in
set_option maxHeartbeats 4000000 in
theorem t83 (t : Int) (m : Nat) (b : Bool) (va ua : Value) (w : World) (hb : b = decide (t < 0)) (hA : Nt w va t.natAbs) (hA' : Nt w ua m) (hm : 0 < m) (hl : Lw t.natAbs ≤ 100000) (hl' : Lw m ≤ 100000) :
    Calls Tryz.prog 83 #[ratV b va false ua] w fun e w' => e = .returned (.tuple #[.string (ratS t m), .int .i64 (ratE t m)]) ∧ Below w.heap.size w w' := by
  obtain ⟨pa, ca, rfl, -, -, -⟩ := hA.cells
  obtain ⟨qa, da, rfl, -, -, -⟩ := hA'.cells
  have C1 := Lib.hid (t58 t b _ (w.alloc (.cells #[.bool b, .slice pa (Lw t.natAbs) ca, .bool false, .slice qa (Lw m) da] 98)) hb (hA.below (bSelf w _)) hl)
  have hm2 := nt_cast hA'
  have hl2 := lw_cast hl'
  obtain ⟨cv, hcv⟩ : ∃ cv : Int, cv = cmpZ (m : Int) 1 := ⟨_, rfl⟩
  have C2 : Hid (∀ (W : World) (v : Value), Below w.heap.size w W → Nt W v 1 → Calls Tryz.prog 101 #[.agg #[.bool false, .slice qa (Lw m) da], .agg #[.bool false, v]] W fun e w' => e = .returned (.int .i64 cv) ∧ Below W.heap.size W w') := fun W v h k => by
    have := t101 (m : Int) 1 false false _ v W (false_neg m) (by decide) (hm2.below h) k (by omega) (Nat.le_trans (Lw_small (by decide)) (by omega))
    rw [← hcv] at this
    exact this
  have C3 : Hid (∀ W : World, Below w.heap.size w W → Calls Tryz.prog 58 #[.agg #[.bool false, .slice qa (Lw m) da]] W (ToldR (m : Int) W)) := fun W h => t58 (m : Int) false _ W (false_neg m) (hm2.below h) hl2
  have HB0 := Lib.hid (bSelf w (.cells #[.bool b, .slice pa (Lw t.natAbs) ca, .bool false, .slice qa (Lw m) da] 98))
  have HK0 := Lib.hid (Blk.new w #[.bool b, .slice pa (Lw t.natAbs) ca, .bool false, .slice qa (Lw m) da] 98)
  have HM := Lib.hid hm
  have HCV := Lib.hid hcv
  clear hA hA' hm2 hl hl' hl2 hm hb hcv
  generalize Lw t.natAbs = lt at *
  generalize Lw m = lm at *
  by_cases hf : fits t
  · obtain ⟨tx, htx⟩ : ∃ tx : ByteArray, tx = ⟨(txtZ 10 t).toArray⟩ := ⟨_, rfl⟩
    have htl := numS_len hf
    rw [← htx] at htl
    have c1 := C1.out
    unfold ToldR toldS toldE at c1
    rw [if_pos hf, if_pos hf, ← htx] at c1
    have C1' := Lib.hid c1
    have HF := Lib.hid hf
    have HTX := Lib.hid htx
    clear c1 hf htx C1
    go_enter Tryz.func83, Tryz.ntmps83
    go_wp2_with fail
    refine C1'.out.mono ?_
    rintro e w1 ⟨rfl, hb1⟩
    have HB1 := Lib.hid (bThen HB0.out hb1)
    have HK1 := Lib.hid (HK0.out.below hb1 HK0.out.lt)
    clear hb1 C1' HB0 HK0
    go_upto_region 4 with fail
    have k0_0 := HK1.out.cell 2 rfl
    have k0_1 := HK1.out.cell 3 rfl
    have q0 : Below w.heap.size w w1.drew := HB1.out.drew
    have d0_0 : w1.drew.cell? ⟨w.heap.size, 2, none⟩ = some (.bool false) := k0_0
    have d0_1 : w1.drew.cell? ⟨w.heap.size, 3, none⟩ = some (.slice qa lm da) := k0_1
    go_region_held3 (fun w' => w'.cell? ⟨w.heap.size, 2, none⟩ = some (.bool false) ∧ w'.cell? ⟨w.heap.size, 3, none⟩ = some (.slice qa lm da))
      (first
        | (with_reducible exact ⟨d0_0, d0_1⟩)
        | (with_reducible exact ⟨k1_0, k1_1⟩)
        | (with_reducible exact ⟨k2_0, k2_1⟩)
        | fail "nokeep")
      (first
        | (go_at_call 123; (with_reducible refine (t123 _).mono ?_); rintro e w2 ⟨v2, rfl, hv2, hb2⟩; obtain ⟨p2, c2, rfl, -, -, -⟩ := hv2.cells; have q1 := bThen q0 hb2; have k1_0 := below_cell hb2 k0_0; have k1_1 := below_cell hb2 k0_1)
        | (go_at_call 101; (with_reducible refine (C2.out _ _ q1 hv2).mono ?_); rintro e w3 ⟨rfl, hb3⟩; have q2 := bThen q1 hb3; have k2_0 := below_cell hb3 k1_0; have k2_1 := below_cell hb3 k1_1)
        | fail "noarm")
    by_cases h1 : m = 1
    · subst h1
      have HC0 : cv = 0 := by rw [HCV.out]; decide
      have HRS : Hid (ratS t 1 = tx ∧ ratE t 1 = 0) := by
        have hok : ratOk t 1 := ⟨HF.out, .inl rfl⟩
        refine ⟨?_, by unfold ratE; rw [if_pos hok]⟩
        unfold ratS ratL
        rw [if_pos hok, if_pos rfl, HTX.out]
      subst HC0
      clear HCV
      go_wp2_with fail
      go_ret2
      exact ⟨by rw [HRS.out.1, HRS.out.2]; rfl, q2⟩
    · have HC1 : (cv == 0) = false := by
        rw [HCV.out]
        unfold cmpZ
        have := HM.out
        rw [if_neg (by omega), if_pos (by omega)]
        rfl
      have C3' := C3.out _ q2
      have HM1 := Lib.hid h1
      clear HCV h1 k0_0 k0_1 k1_0 k1_1
      by_cases hf2 : fits (m : Int)
      · obtain ⟨ty, hty⟩ : ∃ ty : ByteArray, ty = ⟨(txtZ 10 (m : Int)).toArray⟩ := ⟨_, rfl⟩
        have htl2 := numS_len hf2
        rw [← hty] at htl2
        unfold ToldR toldS toldE at C3'
        rw [if_pos hf2, if_pos hf2, ← hty] at C3'
        have HRS : Hid (ratS t m = tx ++ ⟨#[47]⟩ ++ ty ∧ ratE t m = 0) := by
          have hok : ratOk t m := ⟨HF.out, .inr hf2⟩
          refine ⟨?_, by unfold ratE; rw [if_pos hok]⟩
          unfold ratS ratL
          rw [if_pos hok, if_neg HM1.out, HTX.out, hty]
          exact (rat_join _ _).symm
        have C4 := Lib.hid C3'
        clear C3' hf2 hty
        go_wp2_with fail
        refine C4.out.mono ?_
        rintro e w4 ⟨rfl, hb4⟩
        have q3 := bThen q2 hb4
        clear hb4
        go_wp2_with fail
        go_ret2
        exact ⟨by rw [HRS.out.1, HRS.out.2]; rfl, q3⟩
      · unfold ToldR toldS toldE at C3'
        rw [if_neg hf2, if_neg hf2] at C3'
        have HRS : Hid (ratS t m = ⟨#[]⟩ ∧ ratE t m = 2) := by
          have hok : ¬ ratOk t m := fun h => h.2.elim HM1.out hf2
          exact ⟨by unfold ratS; rw [if_neg hok], by unfold ratE; rw [if_neg hok]⟩
        have C4 := Lib.hid C3'
        clear C3' hf2
        go_wp2_with fail
        refine C4.out.mono ?_
        rintro e w4 ⟨rfl, hb4⟩
        have q3 := bThen q2 hb4
        clear hb4
        go_wp2_with fail
        go_ret2
        exact ⟨by rw [HRS.out.1, HRS.out.2]; rfl, q3⟩
  · have c1 := C1.out
    unfold ToldR toldS toldE at c1
    rw [if_neg hf, if_neg hf] at c1
    have C1' := Lib.hid c1
    have HRS : Hid (ratS t m = ⟨#[]⟩ ∧ ratE t m = 2) := by
      have hok : ¬ ratOk t m := fun h => hf h.1
      exact ⟨by unfold ratS; rw [if_neg hok], by unfold ratE; rw [if_neg hok]⟩
    clear c1 hf C1
    go_enter Tryz.func83, Tryz.ntmps83
    go_wp2_with fail
    refine C1'.out.mono ?_
    rintro e w1 ⟨rfl, hb1⟩
    have HB1 := Lib.hid (bThen HB0.out hb1)
    clear hb1 C1'
    go_wp2_with fail
    go_ret2
    exact ⟨by rw [HRS.out.1, HRS.out.2]; rfl, HB1.out⟩
/-- a rational as the text that is told -/
def RsR (t : Int) (m : Nat) (w : World) (e : Ending) (w' : World) : Prop := e = .returned (.tuple #[.string (ratS t m), .int .i64 (ratE t m)]) ∧ Below w.heap.size w w'
theorem red_lw (x y : Int) (k : Nat) (hy : y ≠ 0) (hx : Lw x.natAbs ≤ k) (hl : Lw y.natAbs ≤ k) : Lw (redT x y).natAbs ≤ k ∧ Lw (redM x y) ≤ k ∧ 0 < redM x y := by
  obtain ⟨h1, -, -, h4, h5⟩ := red_facts x y hy
  exact ⟨Nat.le_trans (Lw_mono h4) hx, Nat.le_trans (Lw_mono h5) hl, h1⟩
set_option maxRecDepth 100000 in
set_option maxHeartbeats 4000000 in
theorem t107 (x y : Int) (m n : Nat) (b c : Bool) (va ua vb ub : Value) (w : World) (hb : b = decide (x < 0)) (hc : c = decide (y < 0)) (hA : Nt w va x.natAbs) (hA' : Nt w ua m) (hB : Nt w vb y.natAbs) (hB' : Nt w ub n) (hm : 0 < m) (hn : 0 < n) (hl : Lw x.natAbs ≤ 10000) (hlm : Lw m ≤ 10000) (hl' : Lw y.natAbs ≤ 10000) (hln : Lw n ≤ 10000) :
    Calls Tryz.prog 107 #[ratV b va false ua, ratV c vb false ub] w (RsR (redT (x * y) ((m : Int) * n)) (redM (x * y) ((m : Int) * n)) w) := by
  obtain ⟨HB0, -, -, -⟩ := bx98' w #[.bool b, va, .bool false, ua] #[.bool c, vb, .bool false, ub]
  have C1 := Lib.hid (t108 x y m n b c va ua vb ub _ hb hc (hA.below HB0) (hA'.below HB0) (hB.below HB0) (hB'.below HB0) hm hn hl hlm hl' hln)
  have hz2 : (m : Int) * n ≠ 0 := Int.ne_of_gt (Int.mul_pos (by omega) (by omega))
  obtain ⟨l1, l2, l3⟩ := red_lw (x * y) ((m : Int) * n) 20001 hz2 (Nat.le_trans (Lw_mulZ x y 10000 hl hl') (by omega)) (Nat.le_trans (Lw_mulZ _ _ 10000 (lw_cast hlm) (lw_cast hln)) (by omega))
  obtain ⟨pa, ca, rfl, -, -, -⟩ := hA.cells
  obtain ⟨pb, cb, rfl, -, -, -⟩ := hB.cells
  obtain ⟨qa, da, rfl, -, -, -⟩ := hA'.cells
  obtain ⟨qb, db, rfl, -, -, -⟩ := hB'.cells
  generalize redT (x * y) ((m : Int) * n) = T at *
  generalize redM (x * y) ((m : Int) * n) = M at *
  have C2 : Hid (∀ (W : World) (v u : Value), Nt W v T.natAbs → Nt W u M → Calls Tryz.prog 83 #[ratV (decide (T < 0)) v false u] W (RsR T M W)) := fun W v u h k => t83 T M _ v u W rfl h k l3 (Nat.le_trans l1 (by omega)) (Nat.le_trans l2 (by omega))
  obtain ⟨bt, hbt⟩ : ∃ b : Bool, b = decide (T < 0) := ⟨_, rfl⟩
  rw [← hbt] at C2
  have HB := Lib.hid HB0
  have C1' : Hid (Calls Tryz.prog 108 #[ratV b (.slice pa (Lw x.natAbs) ca) false (.slice qa (Lw m) da), ratV c (.slice pb (Lw y.natAbs) cb) false (.slice qb (Lw n) db)] ((w.alloc (.cells #[.bool b, .slice pa (Lw x.natAbs) ca, .bool false, .slice qa (Lw m) da] 98)).alloc (.cells #[.bool c, .slice pb (Lw y.natAbs) cb, .bool false, .slice qb (Lw n) db] 98)) (RatB bt T M ((w.alloc (.cells #[.bool b, .slice pa (Lw x.natAbs) ca, .bool false, .slice qa (Lw m) da] 98)).alloc (.cells #[.bool c, .slice pb (Lw y.natAbs) cb, .bool false, .slice qb (Lw n) db] 98)))) := C1.out.mono fun _ _ k => k.toB hbt
  clear C1 hbt HB0 hA hB hA' hB' hb hc hm hn hl hlm hl' hln hz2 l1 l2 l3
  go_enter Tryz.func107, Tryz.ntmps107
  go_wp2_with fail
  refine C1'.out.mono ?_
  rintro e w1 ⟨v, u, rfl, hv, hu, hb1⟩
  obtain ⟨p1, c1, rfl, -, -, -⟩ := hv.cells
  obtain ⟨p2, c2, rfl, -, -, -⟩ := hu.cells
  have C3 := Lib.hid (C2.out w1 _ _ hv hu)
  have hB1 := bThen HB.out hb1
  clear hb1 C1' C2 HB hv hu
  go_wp2_with fail
  refine C3.out.mono ?_
  rintro e w2 ⟨rfl, hb2⟩
  have hB2 := bThen hB1 hb2
  go_wp2_with fail
  go_ret2
  exact ⟨rfl, hB2⟩
set_option maxRecDepth 100000 in
set_option maxHeartbeats 4000000 in
theorem t112 (x y : Int) (m n : Nat) (b c : Bool) (va ua vb ub : Value) (w : World) (hb : b = decide (x < 0)) (hc : c = decide (y < 0)) (hA : Nt w va x.natAbs) (hA' : Nt w ua m) (hB : Nt w vb y.natAbs) (hB' : Nt w ub n) (hm : 0 < m) (hn : 0 < n) (hl : Lw x.natAbs ≤ 10000) (hlm : Lw m ≤ 10000) (hl' : Lw y.natAbs ≤ 10000) (hln : Lw n ≤ 10000) :
    Calls Tryz.prog 112 #[ratV b va false ua, ratV c vb false ub] w (RsR (redT (x * n + y * m) ((m : Int) * n)) (redM (x * n + y * m) ((m : Int) * n)) w) := by
  obtain ⟨HB0, -, -, -⟩ := bx98' w #[.bool b, va, .bool false, ua] #[.bool c, vb, .bool false, ub]
  have C1 := Lib.hid (t113 x y m n b c va ua vb ub _ hb hc (hA.below HB0) (hA'.below HB0) (hB.below HB0) (hB'.below HB0) hm hn hl hlm hl' hln)
  have hz2 : (m : Int) * n ≠ 0 := Int.ne_of_gt (Int.mul_pos (by omega) (by omega))
  obtain ⟨l1, l2, l3⟩ := red_lw (x * n + y * m) ((m : Int) * n) 20001 hz2 (Nat.le_trans (Lw_addZ _ _ 20000 (Lw_mulZ x n 10000 hl (lw_cast hln)) (Lw_mulZ y m 10000 hl' (lw_cast hlm))) (by omega)) (Nat.le_trans (Lw_mulZ _ _ 10000 (lw_cast hlm) (lw_cast hln)) (by omega))
  obtain ⟨pa, ca, rfl, -, -, -⟩ := hA.cells
  obtain ⟨pb, cb, rfl, -, -, -⟩ := hB.cells
  obtain ⟨qa, da, rfl, -, -, -⟩ := hA'.cells
  obtain ⟨qb, db, rfl, -, -, -⟩ := hB'.cells
  generalize redT (x * n + y * m) ((m : Int) * n) = T at *
  generalize redM (x * n + y * m) ((m : Int) * n) = M at *
  have C2 : Hid (∀ (W : World) (v u : Value), Nt W v T.natAbs → Nt W u M → Calls Tryz.prog 83 #[ratV (decide (T < 0)) v false u] W (RsR T M W)) := fun W v u h k => t83 T M _ v u W rfl h k l3 (Nat.le_trans l1 (by omega)) (Nat.le_trans l2 (by omega))
  obtain ⟨bt, hbt⟩ : ∃ b : Bool, b = decide (T < 0) := ⟨_, rfl⟩
  rw [← hbt] at C2
  have HB := Lib.hid HB0
  have C1' : Hid (Calls Tryz.prog 113 #[ratV b (.slice pa (Lw x.natAbs) ca) false (.slice qa (Lw m) da), ratV c (.slice pb (Lw y.natAbs) cb) false (.slice qb (Lw n) db)] ((w.alloc (.cells #[.bool b, .slice pa (Lw x.natAbs) ca, .bool false, .slice qa (Lw m) da] 98)).alloc (.cells #[.bool c, .slice pb (Lw y.natAbs) cb, .bool false, .slice qb (Lw n) db] 98)) (RatB bt T M ((w.alloc (.cells #[.bool b, .slice pa (Lw x.natAbs) ca, .bool false, .slice qa (Lw m) da] 98)).alloc (.cells #[.bool c, .slice pb (Lw y.natAbs) cb, .bool false, .slice qb (Lw n) db] 98)))) := C1.out.mono fun _ _ k => k.toB hbt
  clear C1 hbt HB0 hA hB hA' hB' hb hc hm hn hl hlm hl' hln hz2 l1 l2 l3
  go_enter Tryz.func112, Tryz.ntmps112
  go_wp2_with fail
  refine C1'.out.mono ?_
  rintro e w1 ⟨v, u, rfl, hv, hu, hb1⟩
  obtain ⟨p1, c1, rfl, -, -, -⟩ := hv.cells
  obtain ⟨p2, c2, rfl, -, -, -⟩ := hu.cells
  have C3 := Lib.hid (C2.out w1 _ _ hv hu)
  have hB1 := bThen HB.out hb1
  clear hb1 C1' C2 HB hv hu
  go_wp2_with fail
  refine C3.out.mono ?_
  rintro e w2 ⟨rfl, hb2⟩
  have hB2 := bThen hB1 hb2
  go_wp2_with fail
  go_ret2
  exact ⟨rfl, hB2⟩
set_option maxRecDepth 100000 in
set_option maxHeartbeats 4000000 in
theorem t110 (x y : Int) (m n : Nat) (b c : Bool) (va ua vb ub : Value) (w : World) (hb : b = decide (x < 0)) (hc : c = decide (y < 0)) (hA : Nt w va x.natAbs) (hA' : Nt w ua m) (hB : Nt w vb y.natAbs) (hB' : Nt w ub n) (hm : 0 < m) (hn : 0 < n) (hl : Lw x.natAbs ≤ 10000) (hlm : Lw m ≤ 10000) (hl' : Lw y.natAbs ≤ 10000) (hln : Lw n ≤ 10000) :
    Calls Tryz.prog 110 #[ratV b va false ua, ratV c vb false ub] w fun e w' => e = .returned (.tuple #[.int .i64 (cmpZ (x * n) (y * m)), .int .i64 0]) ∧ Below w.heap.size w w' := by
  obtain ⟨HB0, -, -, -⟩ := bx98' w #[.bool b, va, .bool false, ua] #[.bool c, vb, .bool false, ub]
  have C1 := Lib.hid (t111 x y m n b c va ua vb ub _ hb hc (hA.below HB0) (hA'.below HB0) (hB.below HB0) (hB'.below HB0) hm hn hl hlm hl' hln)
  obtain ⟨pa, ca, rfl, -, -, -⟩ := hA.cells
  obtain ⟨pb, cb, rfl, -, -, -⟩ := hB.cells
  obtain ⟨qa, da, rfl, -, -, -⟩ := hA'.cells
  obtain ⟨qb, db, rfl, -, -, -⟩ := hB'.cells
  generalize cmpZ (x * n) (y * m) = cv at *
  have HB := Lib.hid HB0
  clear HB0 hA hB hA' hB' hb hc hm hn hl hlm hl' hln
  go_enter Tryz.func110, Tryz.ntmps110
  go_wp2_with fail
  refine C1.out.mono ?_
  rintro e w1 ⟨rfl, hb1⟩
  have hB1 := bThen HB.out hb1
  go_wp2_with fail
  go_ret2
  exact ⟨rfl, hB1⟩
def ratioS (x y : Int) : ByteArray := if y = 0 then ⟨#[]⟩ else ratS (redT x y) (redM x y)
def ratioE (x y : Int) : Int := if y = 0 then 11 else ratE (redT x y) (redM x y)
set_option maxRecDepth 100000 in
set_option maxHeartbeats 4000000 in
theorem t81 (x y : Int) (b c : Bool) (va vb : Value) (w : World) (hb : b = decide (x < 0)) (hc : c = decide (y < 0)) (hA : Nt w va x.natAbs) (hB : Nt w vb y.natAbs) (hl : Lw x.natAbs ≤ 40000) (hl' : Lw y.natAbs ≤ 40000) :
    Calls Tryz.prog 81 #[.agg #[.bool b, va], .agg #[.bool c, vb]] w fun e w' => e = .returned (.tuple #[.string (ratioS x y), .int .i64 (ratioE x y)]) ∧ Below w.heap.size w w' := by
  unfold ratioS ratioE
  have hb0 : Below w.heap.size w ((w.alloc (.cells #[.bool b, va] 67)).alloc (.cells #[.bool c, vb] 67)) := ((Below.refl _ _).alloc (Nat.le_refl _) _).alloc (by simp) _
  have c0 := t65 c vb y.natAbs _ (hB.below hb0)
  obtain ⟨ka, kb⟩ : Blk ((w.alloc (.cells #[.bool b, va] 67)).alloc (.cells #[.bool c, vb] 67)) w.heap.size 67 [.bool b, va] ∧ Blk ((w.alloc (.cells #[.bool b, va] 67)).alloc (.cells #[.bool c, vb] 67)) (w.heap.size + 1) 67 [.bool c, vb] := by
    refine ⟨(Blk.new w #[.bool b, va] 67).alloc _, ?_⟩
    have := Blk.new (w.alloc (.cells #[.bool b, va] 67)) #[.bool c, vb] 67
    simpa using this
  have HA := Lib.hid hA
  have HB := Lib.hid hB
  obtain ⟨pa, ca, rfl, -, -, -⟩ := hA.cells
  obtain ⟨pb, cb, rfl, -, -, -⟩ := hB.cells
  have HB0 := Lib.hid hb0
  have HKA := Lib.hid ka
  have HKB := Lib.hid kb
  clear hA hB ka kb
  by_cases h0 : y = 0
  · rw [if_pos h0, if_pos h0]
    rw [show decide (y.natAbs = 0) = true by rw [h0]; rfl] at c0
    have C0 := Lib.hid c0
    clear c0 hb0 hb hc h0
    go_enter Tryz.func81, Tryz.ntmps81
    go_wp2_with fail
    refine C0.out.mono ?_
    rintro e w1 ⟨rfl, hb1⟩
    have hB1 := bThen HB0.out hb1
    go_wp2_with fail
    go_ret2
    exact ⟨rfl, hB1⟩
  · rw [if_neg h0, if_neg h0]
    rw [show decide (y.natAbs = 0) = false by simp; omega] at c0
    have C0 := Lib.hid c0
    obtain ⟨l1, l2, l3⟩ := red_lw x y 40000 h0 hl hl'
    have C1 : Hid (∀ W : World, Below w.heap.size w W → Calls Tryz.prog 82 #[.agg #[.bool b, .slice pa (Lw x.natAbs) ca], .agg #[.bool c, .slice pb (Lw y.natAbs) cb]] W (RatR (redT x y) (redM x y) W)) := fun W h => t82 x y b c _ _ W hb hc (HA.out.below h) (HB.out.below h) h0 (by omega) (by omega)
    generalize redT x y = T at *
    generalize redM x y = M at *
    have C2 : Hid (∀ (W : World) (v u : Value), Nt W v T.natAbs → Nt W u M → Calls Tryz.prog 83 #[ratV (decide (T < 0)) v false u] W (RsR T M W)) := fun W v u h k => t83 T M _ v u W rfl h k l3 (Nat.le_trans l1 (by omega)) (Nat.le_trans l2 (by omega))
    obtain ⟨bt, hbt⟩ : ∃ b : Bool, b = decide (T < 0) := ⟨_, rfl⟩
    rw [← hbt] at C2
    have C1' : Hid (∀ W : World, Below w.heap.size w W → Calls Tryz.prog 82 #[.agg #[.bool b, .slice pa (Lw x.natAbs) ca], .agg #[.bool c, .slice pb (Lw y.natAbs) cb]] W (RatB bt T M W)) := fun W h => (C1.out W h).mono fun _ _ k => k.toB hbt
    clear c0 hb0 hb hc h0 hl hl' l1 l2 l3 hbt C1
    go_enter Tryz.func81, Tryz.ntmps81
    go_wp2_with fail
    refine C0.out.mono ?_
    rintro e w1 ⟨rfl, hb1⟩
    have hB1 := bThen HB0.out hb1
    have j1 := HKA.out.below hb1 HKA.out.lt
    have j2 := HKB.out.below hb1 HKB.out.lt
    have r0 := j1.cell 0 rfl
    have r1 := j1.cell 1 rfl
    have r2 := j2.cell 0 rfl
    have r3 := j2.cell 1 rfl
    have C3 := Lib.hid (C1'.out w1 hB1)
    clear hb1 C0 C1' HB0 HKA HKB j1 j2 HA HB
    go_wp2_with fail
    refine C3.out.mono ?_
    rintro e w2 ⟨v, u, rfl, hv, hu, hb2⟩
    obtain ⟨p1, c1, rfl, -, -, -⟩ := hv.cells
    obtain ⟨p2, c2, rfl, -, -, -⟩ := hu.cells
    have C4 := Lib.hid (C2.out w2 _ _ hv hu)
    have hB2 := bThen hB1 hb2
    clear hb2 C2 C3 hv hu hB1 r0 r1 r2 r3
    go_wp2_with fail
    refine C4.out.mono ?_
    rintro e w3 ⟨rfl, hb3⟩
    have hB3 := bThen hB2 hb3
    go_wp2_with fail
    go_ret2
    exact ⟨rfl, hB3⟩
/-- what an operator over two rationals returns -/
def RkQ (s t : List UInt8) (none : Value) (R : Int → Nat → Int → Nat → Value) (w : World) (e : Ending) (w' : World) : Prop :=
  (((∀ x m, ¬ IsRat s x m) ∨ (∀ x m, ¬ IsRat t x m)) ∧ e = .returned none ∧ Below w.heap.size w w') ∨
  (∃ x m y n, IsRat s x m ∧ IsRat t y n ∧ e = .returned (R x m y n) ∧ Below w.heap.size w w')
set_option maxRecDepth 100000 in
set_option maxHeartbeats 4000000 in
theorem r105_107 (s t : ByteArray) (m0 : Int) (w : World) (hs : s.size < 4294967281) (ht : t.size < 4294967281) (hm0 : w.cell? ⟨0, 0, none⟩ = some (.int .i64 m0)) :
    Calls Tryz.prog 105 #[.func (.func 106) #[] #[], .string s, .string t, .func (.func 107) #[] #[]] w (RkQ s.data.toList t.data.toList (.tuple #[.string ⟨#[]⟩, .int .i64 1]) (fun x m y n => .tuple #[.string (ratS (redT (x * y) ((m : Int) * n)) (redM (x * y) ((m : Int) * n))), .int .i64 (ratE (redT (x * y) ((m : Int) * n)) (redM (x * y) ((m : Int) * n)))]) w) := by
  have D1 := Lib.hid (t106 s m0 w hs hm0)
  have D2 : Hid (∀ W : World, Below w.heap.size w W → Calls Tryz.prog 106 #[.string t] W (RrR t.data.toList W)) := fun W h => t106 t m0 W ht (below_cell h hm0)
  clear hs ht hm0
  go_enter Tryz.func105, Tryz.ntmps105
  go_wp2_with fail
  refine D1.out.mono ?_
  rintro e w1 (⟨hv1, rfl, hb1⟩ | ⟨x, m, v, u, hx, rfl, hv1, hu1, hb1⟩)
  · have HV1 := Lib.hid hv1
    have HB1 := Lib.hid (bAl hb1 (.cells #[.bool false, .slice none 0 0, .bool false, .slice none 0 0] 98))
    have D3 := Lib.hid (D2.out _ HB1.out)
    clear hv1 hb1 D1 D2
    go_wp2_with fail
    refine D3.out.mono ?_
    rintro e w2 (⟨hv2, rfl, hb2⟩ | ⟨y, n, v2, u2, hy, rfl, hv2, hu2, hb2⟩)
    · have hB2 := bThen HB1.out hb2
      clear hv2 hb2
      go_wp2_with fail
      go_ret2
      exact .inl ⟨.inl HV1.out, rfl, bAl hB2 _⟩
    · have hB2 := bThen HB1.out hb2
      obtain ⟨p2, c2, rfl, -, -, -⟩ := hv2.cells
      obtain ⟨q2, d2, rfl, -, -, -⟩ := hu2.cells
      clear hy hv2 hu2 hb2
      go_wp2_with fail
      go_ret2
      exact .inl ⟨.inl HV1.out, rfl, bAl hB2 _⟩
  · have HX := Lib.hid hx
    obtain ⟨p1, c1, rfl, -, -, -⟩ := hv1.cells
    obtain ⟨q1, d1, rfl, -, -, -⟩ := hu1.cells
    obtain ⟨b, hb⟩ : ∃ b : Bool, b = decide (x < 0) := ⟨_, rfl⟩
    rw [← hb]
    have HBX := Lib.hid hb
    have HB1 := Lib.hid (bAl hb1 (.cells #[.bool b, .slice p1 (Lw x.natAbs) c1, .bool false, .slice q1 (Lw m) d1] 98))
    have HK1 := Lib.hid (Blk.new w1 #[.bool b, .slice p1 (Lw x.natAbs) c1, .bool false, .slice q1 (Lw m) d1] 98)
    have HV1 := Lib.hid (hv1.below (bSelf w1 (.cells #[.bool b, .slice p1 (Lw x.natAbs) c1, .bool false, .slice q1 (Lw m) d1] 98)))
    have HU1 := Lib.hid (hu1.below (bSelf w1 (.cells #[.bool b, .slice p1 (Lw x.natAbs) c1, .bool false, .slice q1 (Lw m) d1] 98)))
    have D3 := Lib.hid (D2.out _ HB1.out)
    clear hx hv1 hu1 hb1 hb D1 D2
    go_wp2_with fail
    refine D3.out.mono ?_
    rintro e w2 (⟨hv2, rfl, hb2⟩ | ⟨y, n, v2, u2, hy, rfl, hv2, hu2, hb2⟩)
    · have hB2 := bThen HB1.out hb2
      have HV2 := Lib.hid hv2
      clear hv2 hb2
      go_wp2_with fail
      go_ret2
      exact .inl ⟨.inr HV2.out, rfl, bAl hB2 _⟩
    · have HY := Lib.hid hy
      obtain ⟨p2, c2, rfl, -, -, -⟩ := hv2.cells
      obtain ⟨q2, d2, rfl, -, -, -⟩ := hu2.cells
      obtain ⟨c, hc⟩ : ∃ c : Bool, c = decide (y < 0) := ⟨_, rfl⟩
      rw [← hc]
      have hk := HK1.out.below hb2 HK1.out.lt
      have hS := bSelf w2 (.cells #[.bool c, .slice p2 (Lw y.natAbs) c2, .bool false, .slice q2 (Lw n) d2] 98)
      have hk2 := hk.below hS hk.lt
      have h1 := hk2.cell 0 rfl
      have h2 := hk2.cell 1 rfl
      have h3 := hk2.cell 2 rfl
      have h4 := hk2.cell 3 rfl
      obtain ⟨fx, fm, pm⟩ := HX.out.sizes
      obtain ⟨fy, fn, pn⟩ := hy.sizes
      have c3 := t107 x y m n b c _ _ _ _ _ HBX.out hc ((HV1.out.below hb2).below hS) ((HU1.out.below hb2).below hS) (hv2.below hS) (hu2.below hS) pm pn (Nat.le_trans (fits_Lw fx) (by omega)) (Nat.le_trans (by have := fits_Lw fm; rw [Int.natAbs_natCast] at this; exact this) (show 400 ≤ 10000 by omega)) (Nat.le_trans (fits_Lw fy) (by omega)) (Nat.le_trans (by have := fits_Lw fn; rw [Int.natAbs_natCast] at this; exact this) (show 400 ≤ 10000 by omega))
      have C3 := Lib.hid c3
      have HB3 := Lib.hid (bAl (bThen HB1.out hb2) (.cells #[.bool c, .slice p2 (Lw y.natAbs) c2, .bool false, .slice q2 (Lw n) d2] 98))
      clear hy hv2 hu2 hb2 hk hk2 hS c3 hc fx fm fy fn pm pn
      go_wp2_with fail
      refine C3.out.mono ?_
      rintro e w3 ⟨rfl, hb3⟩
      go_wp2_with fail
      go_ret2
      exact .inr ⟨x, m, y, n, HX.out, HY.out, rfl, bThen HB3.out hb3⟩
set_option maxRecDepth 100000 in
set_option maxHeartbeats 4000000 in
theorem r105_112 (s t : ByteArray) (m0 : Int) (w : World) (hs : s.size < 4294967281) (ht : t.size < 4294967281) (hm0 : w.cell? ⟨0, 0, none⟩ = some (.int .i64 m0)) :
    Calls Tryz.prog 105 #[.func (.func 106) #[] #[], .string s, .string t, .func (.func 112) #[] #[]] w (RkQ s.data.toList t.data.toList (.tuple #[.string ⟨#[]⟩, .int .i64 1]) (fun x m y n => .tuple #[.string (ratS (redT (x * n + y * m) ((m : Int) * n)) (redM (x * n + y * m) ((m : Int) * n))), .int .i64 (ratE (redT (x * n + y * m) ((m : Int) * n)) (redM (x * n + y * m) ((m : Int) * n)))]) w) := by
  have D1 := Lib.hid (t106 s m0 w hs hm0)
  have D2 : Hid (∀ W : World, Below w.heap.size w W → Calls Tryz.prog 106 #[.string t] W (RrR t.data.toList W)) := fun W h => t106 t m0 W ht (below_cell h hm0)
  clear hs ht hm0
  go_enter Tryz.func105, Tryz.ntmps105
  go_wp2_with fail
  refine D1.out.mono ?_
  rintro e w1 (⟨hv1, rfl, hb1⟩ | ⟨x, m, v, u, hx, rfl, hv1, hu1, hb1⟩)
  · have HV1 := Lib.hid hv1
    have HB1 := Lib.hid (bAl hb1 (.cells #[.bool false, .slice none 0 0, .bool false, .slice none 0 0] 98))
    have D3 := Lib.hid (D2.out _ HB1.out)
    clear hv1 hb1 D1 D2
    go_wp2_with fail
    refine D3.out.mono ?_
    rintro e w2 (⟨hv2, rfl, hb2⟩ | ⟨y, n, v2, u2, hy, rfl, hv2, hu2, hb2⟩)
    · have hB2 := bThen HB1.out hb2
      clear hv2 hb2
      go_wp2_with fail
      go_ret2
      exact .inl ⟨.inl HV1.out, rfl, bAl hB2 _⟩
    · have hB2 := bThen HB1.out hb2
      obtain ⟨p2, c2, rfl, -, -, -⟩ := hv2.cells
      obtain ⟨q2, d2, rfl, -, -, -⟩ := hu2.cells
      clear hy hv2 hu2 hb2
      go_wp2_with fail
      go_ret2
      exact .inl ⟨.inl HV1.out, rfl, bAl hB2 _⟩
  · have HX := Lib.hid hx
    obtain ⟨p1, c1, rfl, -, -, -⟩ := hv1.cells
    obtain ⟨q1, d1, rfl, -, -, -⟩ := hu1.cells
    obtain ⟨b, hb⟩ : ∃ b : Bool, b = decide (x < 0) := ⟨_, rfl⟩
    rw [← hb]
    have HBX := Lib.hid hb
    have HB1 := Lib.hid (bAl hb1 (.cells #[.bool b, .slice p1 (Lw x.natAbs) c1, .bool false, .slice q1 (Lw m) d1] 98))
    have HK1 := Lib.hid (Blk.new w1 #[.bool b, .slice p1 (Lw x.natAbs) c1, .bool false, .slice q1 (Lw m) d1] 98)
    have HV1 := Lib.hid (hv1.below (bSelf w1 (.cells #[.bool b, .slice p1 (Lw x.natAbs) c1, .bool false, .slice q1 (Lw m) d1] 98)))
    have HU1 := Lib.hid (hu1.below (bSelf w1 (.cells #[.bool b, .slice p1 (Lw x.natAbs) c1, .bool false, .slice q1 (Lw m) d1] 98)))
    have D3 := Lib.hid (D2.out _ HB1.out)
    clear hx hv1 hu1 hb1 hb D1 D2
    go_wp2_with fail
    refine D3.out.mono ?_
    rintro e w2 (⟨hv2, rfl, hb2⟩ | ⟨y, n, v2, u2, hy, rfl, hv2, hu2, hb2⟩)
    · have hB2 := bThen HB1.out hb2
      have HV2 := Lib.hid hv2
      clear hv2 hb2
      go_wp2_with fail
      go_ret2
      exact .inl ⟨.inr HV2.out, rfl, bAl hB2 _⟩
    · have HY := Lib.hid hy
      obtain ⟨p2, c2, rfl, -, -, -⟩ := hv2.cells
      obtain ⟨q2, d2, rfl, -, -, -⟩ := hu2.cells
      obtain ⟨c, hc⟩ : ∃ c : Bool, c = decide (y < 0) := ⟨_, rfl⟩
      rw [← hc]
      have hk := HK1.out.below hb2 HK1.out.lt
      have hS := bSelf w2 (.cells #[.bool c, .slice p2 (Lw y.natAbs) c2, .bool false, .slice q2 (Lw n) d2] 98)
      have hk2 := hk.below hS hk.lt
      have h1 := hk2.cell 0 rfl
      have h2 := hk2.cell 1 rfl
      have h3 := hk2.cell 2 rfl
      have h4 := hk2.cell 3 rfl
      obtain ⟨fx, fm, pm⟩ := HX.out.sizes
      obtain ⟨fy, fn, pn⟩ := hy.sizes
      have c3 := t112 x y m n b c _ _ _ _ _ HBX.out hc ((HV1.out.below hb2).below hS) ((HU1.out.below hb2).below hS) (hv2.below hS) (hu2.below hS) pm pn (Nat.le_trans (fits_Lw fx) (by omega)) (Nat.le_trans (by have := fits_Lw fm; rw [Int.natAbs_natCast] at this; exact this) (show 400 ≤ 10000 by omega)) (Nat.le_trans (fits_Lw fy) (by omega)) (Nat.le_trans (by have := fits_Lw fn; rw [Int.natAbs_natCast] at this; exact this) (show 400 ≤ 10000 by omega))
      have C3 := Lib.hid c3
      have HB3 := Lib.hid (bAl (bThen HB1.out hb2) (.cells #[.bool c, .slice p2 (Lw y.natAbs) c2, .bool false, .slice q2 (Lw n) d2] 98))
      clear hy hv2 hu2 hb2 hk hk2 hS c3 hc fx fm fy fn pm pn
      go_wp2_with fail
      refine C3.out.mono ?_
      rintro e w3 ⟨rfl, hb3⟩
      go_wp2_with fail
      go_ret2
      exact .inr ⟨x, m, y, n, HX.out, HY.out, rfl, bThen HB3.out hb3⟩
set_option maxRecDepth 100000 in
set_option maxHeartbeats 4000000 in
theorem r109_110 (s t : ByteArray) (m0 : Int) (w : World) (hs : s.size < 4294967281) (ht : t.size < 4294967281) (hm0 : w.cell? ⟨0, 0, none⟩ = some (.int .i64 m0)) :
    Calls Tryz.prog 109 #[.func (.func 106) #[] #[], .string s, .string t, .func (.func 110) #[] #[]] w (RkQ s.data.toList t.data.toList (.tuple #[.int .i64 0, .int .i64 1]) (fun x m y n => .tuple #[.int .i64 (cmpZ (x * n) (y * m)), .int .i64 0]) w) := by
  have D1 := Lib.hid (t106 s m0 w hs hm0)
  have D2 : Hid (∀ W : World, Below w.heap.size w W → Calls Tryz.prog 106 #[.string t] W (RrR t.data.toList W)) := fun W h => t106 t m0 W ht (below_cell h hm0)
  clear hs ht hm0
  go_enter Tryz.func109, Tryz.ntmps109
  go_wp2_with fail
  refine D1.out.mono ?_
  rintro e w1 (⟨hv1, rfl, hb1⟩ | ⟨x, m, v, u, hx, rfl, hv1, hu1, hb1⟩)
  · have HV1 := Lib.hid hv1
    have HB1 := Lib.hid (bAl hb1 (.cells #[.bool false, .slice none 0 0, .bool false, .slice none 0 0] 98))
    have D3 := Lib.hid (D2.out _ HB1.out)
    clear hv1 hb1 D1 D2
    go_wp2_with fail
    refine D3.out.mono ?_
    rintro e w2 (⟨hv2, rfl, hb2⟩ | ⟨y, n, v2, u2, hy, rfl, hv2, hu2, hb2⟩)
    · have hB2 := bThen HB1.out hb2
      clear hv2 hb2
      go_wp2_with fail
      go_ret2
      exact .inl ⟨.inl HV1.out, rfl, bAl hB2 _⟩
    · have hB2 := bThen HB1.out hb2
      obtain ⟨p2, c2, rfl, -, -, -⟩ := hv2.cells
      obtain ⟨q2, d2, rfl, -, -, -⟩ := hu2.cells
      clear hy hv2 hu2 hb2
      go_wp2_with fail
      go_ret2
      exact .inl ⟨.inl HV1.out, rfl, bAl hB2 _⟩
  · have HX := Lib.hid hx
    obtain ⟨p1, c1, rfl, -, -, -⟩ := hv1.cells
    obtain ⟨q1, d1, rfl, -, -, -⟩ := hu1.cells
    obtain ⟨b, hb⟩ : ∃ b : Bool, b = decide (x < 0) := ⟨_, rfl⟩
    rw [← hb]
    have HBX := Lib.hid hb
    have HB1 := Lib.hid (bAl hb1 (.cells #[.bool b, .slice p1 (Lw x.natAbs) c1, .bool false, .slice q1 (Lw m) d1] 98))
    have HK1 := Lib.hid (Blk.new w1 #[.bool b, .slice p1 (Lw x.natAbs) c1, .bool false, .slice q1 (Lw m) d1] 98)
    have HV1 := Lib.hid (hv1.below (bSelf w1 (.cells #[.bool b, .slice p1 (Lw x.natAbs) c1, .bool false, .slice q1 (Lw m) d1] 98)))
    have HU1 := Lib.hid (hu1.below (bSelf w1 (.cells #[.bool b, .slice p1 (Lw x.natAbs) c1, .bool false, .slice q1 (Lw m) d1] 98)))
    have D3 := Lib.hid (D2.out _ HB1.out)
    clear hx hv1 hu1 hb1 hb D1 D2
    go_wp2_with fail
    refine D3.out.mono ?_
    rintro e w2 (⟨hv2, rfl, hb2⟩ | ⟨y, n, v2, u2, hy, rfl, hv2, hu2, hb2⟩)
    · have hB2 := bThen HB1.out hb2
      have HV2 := Lib.hid hv2
      clear hv2 hb2
      go_wp2_with fail
      go_ret2
      exact .inl ⟨.inr HV2.out, rfl, bAl hB2 _⟩
    · have HY := Lib.hid hy
      obtain ⟨p2, c2, rfl, -, -, -⟩ := hv2.cells
      obtain ⟨q2, d2, rfl, -, -, -⟩ := hu2.cells
      obtain ⟨c, hc⟩ : ∃ c : Bool, c = decide (y < 0) := ⟨_, rfl⟩
      rw [← hc]
      have hk := HK1.out.below hb2 HK1.out.lt
      have hS := bSelf w2 (.cells #[.bool c, .slice p2 (Lw y.natAbs) c2, .bool false, .slice q2 (Lw n) d2] 98)
      have hk2 := hk.below hS hk.lt
      have h1 := hk2.cell 0 rfl
      have h2 := hk2.cell 1 rfl
      have h3 := hk2.cell 2 rfl
      have h4 := hk2.cell 3 rfl
      obtain ⟨fx, fm, pm⟩ := HX.out.sizes
      obtain ⟨fy, fn, pn⟩ := hy.sizes
      have c3 := t110 x y m n b c _ _ _ _ _ HBX.out hc ((HV1.out.below hb2).below hS) ((HU1.out.below hb2).below hS) (hv2.below hS) (hu2.below hS) pm pn (Nat.le_trans (fits_Lw fx) (by omega)) (Nat.le_trans (by have := fits_Lw fm; rw [Int.natAbs_natCast] at this; exact this) (show 400 ≤ 10000 by omega)) (Nat.le_trans (fits_Lw fy) (by omega)) (Nat.le_trans (by have := fits_Lw fn; rw [Int.natAbs_natCast] at this; exact this) (show 400 ≤ 10000 by omega))
      have C3 := Lib.hid c3
      have HB3 := Lib.hid (bAl (bThen HB1.out hb2) (.cells #[.bool c, .slice p2 (Lw y.natAbs) c2, .bool false, .slice q2 (Lw n) d2] 98))
      clear hy hv2 hu2 hb2 hk hk2 hS c3 hc fx fm fy fn pm pn
      go_wp2_with fail
      refine C3.out.mono ?_
      rintro e w3 ⟨rfl, hb3⟩
      go_wp2_with fail
      go_ret2
      exact .inr ⟨x, m, y, n, HX.out, HY.out, rfl, bThen HB3.out hb3⟩
set_option maxRecDepth 100000 in
set_option maxHeartbeats 4000000 in
theorem t40 (s t : ByteArray) (m0 : Int) (w : World) (hs : s.size < 4294967281) (ht : t.size < 4294967281) (hm0 : w.cell? ⟨0, 0, none⟩ = some (.int .i64 m0)) :
    Calls Tryz.prog 40 #[.string s, .string t] w (RkQ s.data.toList t.data.toList (.tuple #[.string ⟨#[]⟩, .int .i64 1]) (fun x m y n => .tuple #[.string (ratS (redT (x * y) ((m : Int) * n)) (redM (x * y) ((m : Int) * n))), .int .i64 (ratE (redT (x * y) ((m : Int) * n)) (redM (x * y) ((m : Int) * n)))]) w) := by
  have D := Lib.hid (r105_107 s t m0 w hs ht hm0)
  clear hs ht hm0
  go_enter Tryz.func40, Tryz.ntmps40
  go_wp2_with fail
  refine D.out.mono ?_
  rintro e w1 (⟨hv, rfl, hb⟩ | ⟨x, m, y, n, hx, hy, rfl, hb⟩)
  · have HV := Lib.hid hv
    clear hv
    go_wp2_with fail
    go_ret2
    exact .inl ⟨HV.out, rfl, hb⟩
  · have HX := Lib.hid hx
    have HY := Lib.hid hy
    clear hx hy
    go_wp2_with fail
    go_ret2
    exact .inr ⟨x, m, y, n, HX.out, HY.out, rfl, hb⟩
set_option maxRecDepth 100000 in
set_option maxHeartbeats 4000000 in
theorem t42 (s t : ByteArray) (m0 : Int) (w : World) (hs : s.size < 4294967281) (ht : t.size < 4294967281) (hm0 : w.cell? ⟨0, 0, none⟩ = some (.int .i64 m0)) :
    Calls Tryz.prog 42 #[.string s, .string t] w (RkQ s.data.toList t.data.toList (.tuple #[.string ⟨#[]⟩, .int .i64 1]) (fun x m y n => .tuple #[.string (ratS (redT (x * n + y * m) ((m : Int) * n)) (redM (x * n + y * m) ((m : Int) * n))), .int .i64 (ratE (redT (x * n + y * m) ((m : Int) * n)) (redM (x * n + y * m) ((m : Int) * n)))]) w) := by
  have D := Lib.hid (r105_112 s t m0 w hs ht hm0)
  clear hs ht hm0
  go_enter Tryz.func42, Tryz.ntmps42
  go_wp2_with fail
  refine D.out.mono ?_
  rintro e w1 (⟨hv, rfl, hb⟩ | ⟨x, m, y, n, hx, hy, rfl, hb⟩)
  · have HV := Lib.hid hv
    clear hv
    go_wp2_with fail
    go_ret2
    exact .inl ⟨HV.out, rfl, hb⟩
  · have HX := Lib.hid hx
    have HY := Lib.hid hy
    clear hx hy
    go_wp2_with fail
    go_ret2
    exact .inr ⟨x, m, y, n, HX.out, HY.out, rfl, hb⟩
set_option maxRecDepth 100000 in
set_option maxHeartbeats 4000000 in
theorem t41 (s t : ByteArray) (m0 : Int) (w : World) (hs : s.size < 4294967281) (ht : t.size < 4294967281) (hm0 : w.cell? ⟨0, 0, none⟩ = some (.int .i64 m0)) :
    Calls Tryz.prog 41 #[.string s, .string t] w (RkQ s.data.toList t.data.toList (.tuple #[.int .i64 0, .int .i64 1]) (fun x m y n => .tuple #[.int .i64 (cmpZ (x * n) (y * m)), .int .i64 0]) w) := by
  have D := Lib.hid (r109_110 s t m0 w hs ht hm0)
  clear hs ht hm0
  go_enter Tryz.func41, Tryz.ntmps41
  go_wp2_with fail
  refine D.out.mono ?_
  rintro e w1 (⟨hv, rfl, hb⟩ | ⟨x, m, y, n, hx, hy, rfl, hb⟩)
  · have HV := Lib.hid hv
    clear hv
    go_wp2_with fail
    go_ret2
    exact .inl ⟨HV.out, rfl, hb⟩
  · have HX := Lib.hid hx
    have HY := Lib.hid hy
    clear hx hy
    go_wp2_with fail
    go_ret2
    exact .inr ⟨x, m, y, n, HX.out, HY.out, rfl, hb⟩
set_option maxRecDepth 100000 in
set_option maxHeartbeats 2000000 in
theorem r63_81 (s t : ByteArray) (w : World) :
    Calls Tryz.prog 63 #[.func (.func 56) #[] #[], .string s, .string t, .func (.func 81) #[] #[]] w (RkR s.data.toList t.data.toList (.tuple #[.string ⟨#[]⟩, .int .i64 1]) (fun x y => .tuple #[.string (ratioS x y), .int .i64 (ratioE x y)]) w) := by
  go_enter Tryz.func63, Tryz.ntmps63
  go_wp2_with fail
  refine (t56 s w).mono ?_
  rintro e w1 (⟨hv1, rfl, hb1⟩ | ⟨x, v, hx, rfl, hn1, hb1⟩)
  · have HV1 := Lib.hid hv1
    have hB1 := hb1.alloc hb1.size (.cells #[.bool false, .slice none 0 0] 67)
    have HB1 := Lib.hid hB1
    clear hv1 hB1
    go_wp2_with fail
    refine (t56 t _).mono ?_
    rintro e w2 (⟨hv2, rfl, hb2⟩ | ⟨y, v2, hy, rfl, hn2, hb2⟩)
    · have HB2 := Lib.hid (HB1.out.trans (hb2.mono HB1.out.size))
      clear hv2 hb2
      go_wp2_with fail
      go_ret2
      exact .inl ⟨.inl HV1.out, rfl, HB2.out.alloc HB2.out.size _⟩
    · have HB2 := Lib.hid (HB1.out.trans (hb2.mono HB1.out.size))
      obtain ⟨p2, c2, rfl, -, -, -⟩ := hn2.cells
      clear hy hn2 hb2
      go_wp2_with fail
      go_ret2
      exact .inl ⟨.inl HV1.out, rfl, HB2.out.alloc HB2.out.size _⟩
  · have HX := Lib.hid hx
    obtain ⟨p1, c1, rfl, -, -, -⟩ := hn1.cells
    have hB1 := hb1.alloc hb1.size (.cells #[.bool (decide (x < 0)), .slice p1 (Lw x.natAbs) c1] 67)
    have HB1 := Lib.hid hB1
    have HK1 := Lib.hid (Blk.new w1 #[.bool (decide (x < 0)), .slice p1 (Lw x.natAbs) c1] 67)
    have HN1 := Lib.hid (hn1.below ((Below.refl _ _).alloc (Nat.le_refl _) (.cells #[.bool (decide (x < 0)), .slice p1 (Lw x.natAbs) c1] 67)))
    obtain ⟨b, hb⟩ : ∃ b : Bool, b = decide (x < 0) := ⟨_, rfl⟩
    rw [← hb] at HB1 HK1 HN1 ⊢
    have HBX := Lib.hid hb
    clear hx hn1 hB1 hb1 hb
    go_wp2_with fail
    refine (t56 t _).mono ?_
    rintro e w2 (⟨hv2, rfl, hb2⟩ | ⟨y, v2, hy, rfl, hn2, hb2⟩)
    · have HB2 := Lib.hid (HB1.out.trans (hb2.mono HB1.out.size))
      have HV2 := Lib.hid hv2
      clear hv2 hb2
      go_wp2_with fail
      go_ret2
      exact .inl ⟨.inr HV2.out, rfl, HB2.out.alloc HB2.out.size _⟩
    · have HY := Lib.hid hy
      obtain ⟨p2, c2, rfl, -, -, -⟩ := hn2.cells
      obtain ⟨c, hc⟩ : ∃ c : Bool, c = decide (y < 0) := ⟨_, rfl⟩
      rw [← hc]
      have HBY := Lib.hid hc
      have hk := HK1.out.below hb2 (by simp)
      have h1 := (hk.alloc (.cells #[.bool c, .slice p2 (Lw y.natAbs) c2] 67)).cell 0 rfl
      have h2 := (hk.alloc (.cells #[.bool c, .slice p2 (Lw y.natAbs) c2] 67)).cell 1 rfl
      have hB2 := HB1.out.trans (hb2.mono HB1.out.size)
      have hB3 := hB2.alloc hB2.size (.cells #[.bool c, .slice p2 (Lw y.natAbs) c2] 67)
      have c3 := t81 x y b c _ _ (w2.alloc (.cells #[.bool c, .slice p2 (Lw y.natAbs) c2] 67)) HBX.out HBY.out ((HN1.out.below hb2).below ((Below.refl _ _).alloc (Nat.le_refl _) _)) (hn2.below ((Below.refl _ _).alloc (Nat.le_refl _) _)) (Nat.le_trans (fits_Lw HX.out.2) (by omega)) (Nat.le_trans (fits_Lw HY.out.2) (by omega))
      have C3 := Lib.hid c3
      have HB3 := Lib.hid hB3
      clear hy hn2 hb2 hk hB2 hB3 c3 hc
      go_wp2_with fail
      refine C3.out.mono ?_
      rintro e w3 ⟨rfl, hb3⟩
      go_wp2_with fail
      go_ret2
      exact .inr ⟨x, y, HX.out, HY.out, rfl, HB3.out.trans (hb3.mono HB3.out.size)⟩
set_option maxRecDepth 100000 in
set_option maxHeartbeats 4000000 in
theorem t30 (s t : ByteArray) (w : World) : Calls Tryz.prog 30 #[.string s, .string t] w (RkR s.data.toList t.data.toList (.tuple #[.string ⟨#[]⟩, .int .i64 1]) (fun x y => .tuple #[.string (ratioS x y), .int .i64 (ratioE x y)]) w) := by
  go_enter Tryz.func30, Tryz.ntmps30
  go_wp2_with fail
  refine (r63_81 s t w).mono ?_
  rintro e w1 (⟨hv, rfl, hb⟩ | ⟨x, y, hx, hy, rfl, hb⟩)
  · have HV := Lib.hid hv
    clear hv
    go_wp2_with fail
    go_ret2
    exact .inl ⟨HV.out, rfl, hb⟩
  · have HX := Lib.hid hx
    have HY := Lib.hid hy
    clear hx hy
    go_wp2_with fail
    go_ret2
    exact .inr ⟨x, y, HX.out, HY.out, rfl, hb⟩
end Go.Proofs.YtifhiefdhhmdeaaGreatDoor
