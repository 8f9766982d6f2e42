/- Contracts of the writer's follow. -/
import Derived.Test.YtmbnckmhngijdaaGreatDoorP
import Derived.Deep.RegionHeld3
namespace Go.Proofs.YtmbnckmhngijdaaGreatDoor
open Go Go.RowKit

theorem WrS.ge {B gw : Nat} {w : World} (hg : B ≤ gw) {k : Nat} (h : WrS B gw w k) : B ≤ k := by
  rcases h with rfl | ⟨h, _⟩
  · exact hg
  · exact h
theorem Wr.below {w w' : World} {B gw u : Nat} {iv bv : Value} {o : List UInt8} (h : Wr w B gw iv u bv o) (hb : Below w.heap.size w w') : Wr w' B gw iv u bv o := ⟨blkDown h.blk hb, ownsRow_below h.row hb, h.big⟩
theorem step_x {xs : List Itm} {d : Dir} {o : List UInt8} {u : Nat} (h : d.c = 120) : stepL xs d (o, u) = stOf (addL o (List.replicate d.n 0)) u := by
  unfold stepL; rw [if_pos h]; unfold stOf; cases addL o (List.replicate d.n 0) <;> rfl
theorem step_at {xs : List Itm} {d : Dir} {o : List UInt8} {u : Nat} (h : d.c = 64) : stepL xs d (o, u) = goL o d.n u := by
  unfold stepL; rw [if_neg (by rw [h]; decide), if_pos h]; rfl
theorem step_takes {xs : List Itm} {d : Dir} {o : List UInt8} {u : Nat} (h : d.c ≠ 120) (h2 : d.c ≠ 64) : stepL xs d (o, u) = takesL xs d (usesD d (xs.length - u)) (o, u) := by
  unfold stepL; rw [if_neg h, if_neg h2]
theorem takeL_used {xs : List Itm} {d : Dir} {st st' : St} (h : takeL xs d st = .ok st') : st'.2 = st.2 + 1 ∧ st'.2 ≤ xs.length := by
  unfold takeL at h
  cases hx : xs[st.2]? with
  | none => rw [hx] at h; cases h
  | some x =>
    have hl := (List.getElem?_eq_some_iff.1 hx).1
    rw [hx] at h
    dsimp only at h
    split at h
    · cases h
    · cases hi : itemL d x with
      | error e => rw [hi] at h; cases h
      | ok b =>
        rw [hi] at h
        dsimp only at h
        cases ha : addL st.1 b with
        | error e => rw [ha] at h; cases h
        | ok o => rw [ha] at h; cases h; exact ⟨rfl, hl⟩
def TakR (B gw : Nat) (iv : Value) (xs : List Itm) (d : Dir) (N : Nat) (R : Except Nat St) (W : World) (i : Value) (wr : World) : Prop :=
  ∃ (j u : Nat) (bv : Value) (o : List UInt8), j ≤ N ∧ i = .int .i64 j ∧ u ≤ xs.length ∧ Hid (Wr wr B gw iv u bv o) ∧ Hid (takesL xs d (N - j) (o, u) = R) ∧ Hid (Kp (WrS B gw W) W wr)
set_option maxRecDepth 100000 in
set_option maxHeartbeats 2000000 in
theorem t52 (B gw u : Nat) (iv bv : Value) (o : List UInt8) (xs : List Itm) (d : Dir) (w : World) (h : Wr w B gw iv u bv o) (hB : B ≤ gw) (hI : Its B w iv xs) (hx : ItsOk xs) (hd : d.Fine) (hu : u ≤ xs.length) :
    Calls Tryz.prog 52 #[.pointer (some ⟨gw, 0, none⟩), .agg #[.int .u8 d.c.toNat, .bool (numC d.c), .int .i64 (sizeC d.c), .bool d.great, .bool d.all, .int .i64 d.n]] w (WrR B gw iv (stepL xs d (o, u)) w) := by
  have hn := hd.n
  have hni : (d.n : Int) ≤ 1000 := by omega
  have hgw := h.blk.lt
  have hb0 := bSelf w (.cells #[.int .u8 d.c.toNat, .bool (numC d.c), .int .i64 (sizeC d.c), .bool d.great, .bool d.all, .int .i64 d.n] 81)
  have hk0 := Blk.new w #[.int .u8 d.c.toNat, .bool (numC d.c), .int .i64 (sizeC d.c), .bool d.great, .bool d.all, .int .i64 d.n] 81
  by_cases h120 : d.c = 120
  · have d1 := u8_eq (n := 120) (k := 120) rfl h120
    have HST : Hid (stepL xs d (o, u) = stOf (addL o (List.replicate d.n 0)) u) := step_x h120
    have HW := Lib.hid h
    clear h h120
    go_enter Tryz.func52, Tryz.ntmps52
    go_upto_region 2 with fail
    generalize w.alloc (.cells #[.int .u8 d.c.toNat, .bool (numC d.c), .int .i64 (sizeC d.c), .bool d.great, .bool d.all, .int .i64 d.n] 81) = W at *
    obtain ⟨d0, d1', d2', d3', d4, d5⟩ := hk0.six
    clear hk0
    go_wp2_with (at_make; refine mk8 _ rfl _ _ rfl _ _ d.n rfl rfl rfl rfl (by omega) ?_; intro w1 hb1 hbl1)
    have HB1 := Lib.hid (hb0.trans (hbl1.mono hb0.size))
    have C := t80 B gw u _ d.n d.n iv bv o (List.replicate d.n 0) w1 (HW.out.below HB1.out) (by have := HB1.out.size; omega) (by simp) hb1.out.rd (by omega)
    rw [← HST.out] at C
    have HC := Lib.hid C
    clear C hb0 hbl1 hb1
    go_wp2_with fail
    refine HC.out.mono ?_
    rintro e2 w2 ⟨hk2, hr2⟩
    have HK2 : Hid (Kp (WrS B gw w) w w2) := WrS.trans (Kp.of _ HB1.out) hk2
    clear hk2
    cases hres : stepL xs d (o, u) with
    | error y =>
      rw [hres] at hr2
      obtain ⟨rfl, hy⟩ := hr2
      have HR := Lib.hid hres
      clear hres
      go_wp2
      go_ret
      rw [HR.out]
      exact ⟨HK2.out, rfl, hy⟩
    | ok st =>
      rw [hres] at hr2
      obtain ⟨rfl, bv', hw2⟩ := hr2
      have HR := Lib.hid hres
      have HW2 := Lib.hid hw2
      clear hres hw2
      go_wp2
      go_ret
      rw [HR.out]
      exact ⟨HK2.out, rfl, bv', HW2.out⟩
  have d1 := u8_ne (n := 120) (k := 120) rfl h120
  by_cases h64 : d.c = 64
  · have d2 := u8_eq (n := 64) (k := 64) rfl h64
    have HST : Hid (stepL xs d (o, u) = goL o d.n u) := step_at h64
    have HW := Lib.hid h
    clear h h120 h64
    go_enter Tryz.func52, Tryz.ntmps52
    go_upto_region 4 with fail
    generalize w.alloc (.cells #[.int .u8 d.c.toNat, .bool (numC d.c), .int .i64 (sizeC d.c), .bool d.great, .bool d.all, .int .i64 d.n] 81) = W at *
    obtain ⟨d0, d1', d2', d3', d4, d5⟩ := hk0.six
    have HB1 := Lib.hid hb0
    have C := t81 B gw u d.n iv bv o W (HW.out.below hb0) (by have := hb0.size; omega) hn
    rw [← HST.out] at C
    have HC := Lib.hid C
    clear C hb0 hk0
    go_wp2_with fail
    refine HC.out.mono ?_
    rintro e2 w2 ⟨hk2, hr2⟩
    have HK2 : Hid (Kp (WrS B gw w) w w2) := WrS.trans (Kp.of _ HB1.out) hk2
    clear hk2
    cases hres : stepL xs d (o, u) with
    | error y =>
      rw [hres] at hr2
      obtain ⟨rfl, hy⟩ := hr2
      have HR := Lib.hid hres
      clear hres
      go_wp2
      go_ret
      rw [HR.out]
      exact ⟨HK2.out, rfl, hy⟩
    | ok st =>
      rw [hres] at hr2
      obtain ⟨rfl, bv', hw2⟩ := hr2
      have HR := Lib.hid hres
      have HW2 := Lib.hid hw2
      clear hres hw2
      go_wp2
      go_ret
      rw [HR.out]
      exact ⟨HK2.out, rfl, bv', HW2.out⟩
  have d2 := u8_ne (n := 64) (k := 64) rfl h64
  have HST : Hid (stepL xs d (o, u) = takesL xs d (usesD d (xs.length - u)) (o, u)) := step_takes h120 h64
  have HW := Lib.hid h
  obtain ⟨p, cap, rfl, hxl, hI3⟩ := id hI
  have HI := Lib.hid hI
  obtain ⟨h0, h1, h2⟩ := (h.below hb0).cells
  have H64 := Lib.hid h64
  have hk0d := hk0
  obtain ⟨d0, d1', d2', d3', d4, d5⟩ := hk0.six
  clear h h120 h64 hk0 hI hI3
  go_enter Tryz.func52, Tryz.ntmps52
  go_upto_region 5 with fail
  generalize w.alloc (.cells #[.int .u8 d.c.toNat, .bool (numC d.c), .int .i64 (sizeC d.c), .bool d.great, .bool d.all, .int .i64 d.n] 81) = W at *
  have hui : (u : Int) ≤ xs.length := by omega
  have hxi : (xs.length : Int) ≤ 9223372036854775807 := by omega
  have hsum : IntKind.i64.wrap ((xs.length : Int) - u) = (xs.length : Int) - u := IntWalk.i64_in _ (by omega)
  have q0 := (Below.refl W.heap.size W).drew
  have CU := fun w => t82 d.c (numC d.c) d.all d.great (sizeC d.c) d.n ((xs.length : Int) - u) w
  have HB0 := Lib.hid hb0
  have S0 : W.cell? ⟨gw, 0, none⟩ = some (.slice p xs.length cap) ∧ W.cell? ⟨gw, 1, none⟩ = some (.int .i64 u) ∧ W.cell? ⟨w.heap.size, 0, none⟩ = some (.int .u8 d.c.toNat) ∧ W.cell? ⟨w.heap.size, 1, none⟩ = some (.bool (numC d.c)) ∧ W.cell? ⟨w.heap.size, 2, none⟩ = some (.int .i64 (sizeC d.c)) ∧ W.cell? ⟨w.heap.size, 3, none⟩ = some (.bool d.great) ∧ W.cell? ⟨w.heap.size, 4, none⟩ = some (.bool d.all) ∧ W.cell? ⟨w.heap.size, 5, none⟩ = some (.int .i64 d.n) := ⟨h0, h1, d0, d1', d2', d3', d4, d5⟩
  have HS0 := Lib.hid S0
  clear S0 hb0
  go_region_held3 (fun w' => w'.cell? ⟨gw, 0, none⟩ = some (.slice p xs.length cap) ∧ w'.cell? ⟨gw, 1, none⟩ = some (.int .i64 u) ∧ w'.cell? ⟨w.heap.size, 0, none⟩ = some (.int .u8 d.c.toNat) ∧ w'.cell? ⟨w.heap.size, 1, none⟩ = some (.bool (numC d.c)) ∧ w'.cell? ⟨w.heap.size, 2, none⟩ = some (.int .i64 (sizeC d.c)) ∧ w'.cell? ⟨w.heap.size, 3, none⟩ = some (.bool d.great) ∧ w'.cell? ⟨w.heap.size, 4, none⟩ = some (.bool d.all) ∧ w'.cell? ⟨w.heap.size, 5, none⟩ = some (.int .i64 d.n))
    (first
      | exact HS0.out
      | exact HS1.out
      | fail "nokeep")
    (first
      | (go_at_call 82; (with_reducible refine (CU _).mono ?_); rintro e w1 ⟨rfl, hb1⟩; have HB1 := Lib.hid hb1; have HS1 := Lib.hid (show w1.cell? ⟨gw, 0, none⟩ = some (.slice p xs.length cap) ∧ w1.cell? ⟨gw, 1, none⟩ = some (.int .i64 u) ∧ w1.cell? ⟨w.heap.size, 0, none⟩ = some (.int .u8 d.c.toNat) ∧ w1.cell? ⟨w.heap.size, 1, none⟩ = some (.bool (numC d.c)) ∧ w1.cell? ⟨w.heap.size, 2, none⟩ = some (.int .i64 (sizeC d.c)) ∧ w1.cell? ⟨w.heap.size, 3, none⟩ = some (.bool d.great) ∧ w1.cell? ⟨w.heap.size, 4, none⟩ = some (.bool d.all) ∧ w1.cell? ⟨w.heap.size, 5, none⟩ = some (.int .i64 d.n) from ⟨below_cell hb1 HS0.out.1, below_cell hb1 HS0.out.2.1, below_cell hb1 HS0.out.2.2.1, below_cell hb1 HS0.out.2.2.2.1, below_cell hb1 HS0.out.2.2.2.2.1, below_cell hb1 HS0.out.2.2.2.2.2.1, below_cell hb1 HS0.out.2.2.2.2.2.2.1, below_cell hb1 HS0.out.2.2.2.2.2.2.2⟩); clear hb1)
      | fail "noarm")
  obtain ⟨N, hN⟩ : ∃ N, usesD d (xs.length - u) = N := ⟨_, rfl⟩
  have hUN : usesI (numC d.c) d.all d.n ((xs.length : Int) - u) = (N : Int) := by
    rw [← hN]
    unfold usesI usesD
    cases numC d.c <;> cases d.all <;> simp
    omega
  have hNb : (N : Int) ≤ 9223372036854775807 := by
    rw [← hN]; unfold usesD
    split
    · split <;> omega
    · omega
  rw [hUN]
  have HR0 : Hid (takesL xs d N (o, u) = stepL xs d (o, u)) := by show _ = _; rw [HST.out, hN]
  have HBd : Below W.heap.size W w1 := (Below.refl W.heap.size W).drew.trans (show Below W.heap.size W.drew w1 from HB1.out)
  have HBW : Hid (Below w.heap.size w w1) := bThen HB0.out HBd
  have HKD := Lib.hid (blkDown hk0d HBd)
  have HUL := Lib.hid hu
  have hg1 : w.heap.size < w1.heap.size := HKD.out.lt
  have hgw1 : gw < w.heap.size := hgw
  clear hN hUN hsum q0 CU HS0 HB0 HB1 h0 h1 h2 d0 d1' d2' d3' d4 d5 hk0d HST HS1 HBd
  go_wp2_with fail
  go_loopw [33] (fun i wr => TakR B gw (.slice p xs.length cap) xs d N (stepL xs d (o, u)) w1 i wr) (fun i _ => N - (intOf i).toNat)
  case atStart => exact ⟨0, u, bv, o, Nat.zero_le _, rfl, HUL.out, HW.out.below HBW.out, HR0, Kp.refl _ _⟩
  case round =>
    obtain ⟨j, u', bv', o', hj, rfl, hu', hw', htk, hkp⟩ := hrel
    by_cases hlt : j < N
    · have hlti : (j : Int) < N := by omega
      have kd := hkp.out.blk HKD.out (WrS.not HKD.out (by decide) (by omega))
      obtain ⟨d0, d1', d2', d3', d4, d5⟩ := kd.six
      have hbB : Below B w wr := (HBW.out.mono (by omega)).trans (hkp.out.below (fun g hg => WrS.ge hB hg) (by omega))
      have C := t83 B gw u' _ bv' o' xs d wr hw'.out (by have := hkp.out.size; omega) (by have := hkp.out.size; omega) (HI.out.below hbB) hx hd H64.out hu'
      have HC := Lib.hid C
      have hst : takesL xs d (N - j) (o', u') = match takeL xs d (o', u') with | .error e => .error e | .ok st' => takesL xs d (N - (j + 1)) st' := by
        rw [show N - j = (N - (j + 1)) + 1 by omega]; rfl
      have htk2 := htk.out
      rw [hst] at htk2
      have HTU := Lib.hid (fun st' h => takeL_used (xs := xs) (d := d) (st := (o', u')) (st' := st') h)
      clear C hst kd hbB
      go_wp2_with fail
      refine HC.out.mono ?_
      rintro e2 w2 ⟨hk2, hr2⟩
      have HK2 : Hid (Kp (WrS B gw w1) w1 w2) := WrS.trans hkp.out hk2
      clear hk2
      cases hres : takeL xs d (o', u') with
      | error y =>
        rw [hres] at hr2 htk2
        obtain ⟨rfl, hy⟩ := hr2
        have HR := Lib.hid htk2
        have hyy : ((y : Int) == 0) = false := by rw [beq_eq_false_iff_ne]; omega
        have hyn : ((y : Int) != 0) = true := by simp only [bne, hyy, Bool.not_false]
        have HY := Lib.hid hy
        clear hres htk2 hy
        go_wp2
        go_ret
        rw [← HR.out]
        exact ⟨WrS.trans (Kp.of _ HBW.out) HK2.out, rfl, HY.out⟩
      | ok st =>
        rw [hres] at hr2 htk2
        obtain ⟨rfl, bv2, hw2⟩ := hr2
        have HR := Lib.hid htk2
        have HW2 := Lib.hid hw2
        have hus := (HTU.out st hres).2
        clear hres htk2 hw2
        go_wp2
        go_roundw
        case rel => exact ⟨j + 1, st.2, bv2, st.1, by omega, by go_num, hus, HW2, HR, HK2⟩
        case measure => simp [intOf]; omega
    · obtain rfl : N = j := by omega
      have htk2 := htk.out
      rw [Nat.sub_self] at htk2
      have HR : Hid (stepL xs d (o, u) = .ok (o', u')) := htk2.symm
      clear htk2 hlt
      go_wp2
      go_ret
      refine WrR.good HR ?_ hw'.out
      exact WrS.trans (Kp.of _ HBW.out) hkp.out
end Go.Proofs.YtmbnckmhngijdaaGreatDoor
