/- The law ClockAdds: a step. -/
import Derived.Test.YtojkkgmfccchbaaRH
namespace Go.Proofs.Ytojkkgmfccchbaa
open Go Go.RowKit Go.Sort

theorem ad_back {x : Dt} {n : Int} (h : (adN x n).2 = 0) : -10000000 ≤ n ∧ n ≤ 10000000 ∧ adN (adN x n).1 (-n) = (x, 0) := by
  unfold adN at h
  by_cases h1 : x.ok = true ∧ inB n (-10000000) 10000000 = true
  · rw [if_pos h1] at h
    unfold inY at h
    by_cases h2 : inB (at_ (x.sec + n * 86400)).y (-2000) 6000 = true
    · have e : adN x n = (at_ (x.sec + n * 86400), 0) := by unfold adN inY; rw [if_pos h1, if_pos h2]
      have hn := inB_iff.1 h1.2
      refine ⟨hn.1, hn.2, ?_⟩
      rw [e]
      have h3 := at_ok _ h2
      have h4 : inB (-n) (-10000000) 10000000 = true := inB_t (by omega) (by omega)
      have h5 : (at_ (x.sec + n * 86400)).sec + -n * 86400 = x.sec := by rw [at_sec]; omega
      have f := (ok_facts h1.1).1
      unfold adN inY
      rw [if_pos ⟨h3, h4⟩, h5, ok_at h1.1, if_pos (inB_t f.1 f.2)]
    · rw [if_neg h2] at h
      cases h
  · rw [if_neg h1] at h
    cases h
set_option maxRecDepth 100000 in
set_option maxHeartbeats 4000000 in
theorem t21 (x : Dt) (n : Int) (w : World) : Calls Try.prog 21 #[x.v, .int .i64 n] w fun e w' => e = .returned (.bool true) ∧ Below w.heap.size w w' := by
  have C45 := Lib.hid (t45 x n)
  have C46 := Lib.hid (t46 x n)
  have C30 := Lib.hid (t30 x n)
  have C47 := Lib.hid (t47 x n)
  have C12 := Lib.hid (t12 x)
  have C12a := Lib.hid (t12 (amN x n).1)
  have C12b := Lib.hid (t12 (adN x n).1)
  by_cases he : (adN x n).2 = 0
  · obtain ⟨n1, n2, hbk⟩ := ad_back he
    have C30' := Lib.hid (t30 (adN x n).1 (-n))
    rw [hbk] at C30'
    clear hbk
    generalize amN x n = R1 at *
    generalize adN x n = R2 at *
    obtain ⟨⟨ay, am, ad, ah, ai, asx⟩, e1⟩ := R1
    obtain ⟨⟨by', bm, bd, bh, bi, bs⟩, e2⟩ := R2
    obtain ⟨y, m, d, h, i, s⟩ := x
    dsimp only at *
    subst he
    have hB0 : Below w.heap.size w w := Below.refl _ _
    go_enter Try.func21, Try.ntmps21
    go_wp2_with fail
    have hB1 := bAl hB0 (.cells #[.int .i64 y, .int .i64 m, .int .i64 d, .int .i64 h, .int .i64 i, .int .i64 s] 24)
    have H1 : Hid (Blk (w.alloc (.cells #[.int .i64 y, .int .i64 m, .int .i64 d, .int .i64 h, .int .i64 i, .int .i64 s] 24)) w.heap.size 24 [.int .i64 y, .int .i64 m, .int .i64 d, .int .i64 h, .int .i64 i, .int .i64 s]) := Blk.new w #[.int .i64 y, .int .i64 m, .int .i64 d, .int .i64 h, .int .i64 i, .int .i64 s] 24
    generalize w.alloc (.cells #[.int .i64 y, .int .i64 m, .int .i64 d, .int .i64 h, .int .i64 i, .int .i64 s] 24) = w1 at *
    clear hB0
    have qa := H1.out
    obtain ⟨qac0, qac1, qac2, qac3, qac4, qac5⟩ := cells6 (w1 := w1) (fun _ _ _ => rfl) qa
    have qal := qa.lt
    go_wp2_with fail
    clear qac0 qac1 qac2 qac3 qac4 qac5 qal qa
    refine (C45.out _).mono ?_
    rintro e w2 ⟨rfl, hb2⟩
    have hB2 := bThen hB1 hb2
    have H2 := Lib.hid (blkDown H1.out hb2)
    clear H1
    clear hb2 hB1
    have qa := H2.out
    obtain ⟨qac0, qac1, qac2, qac3, qac4, qac5⟩ := cells6 (w1 := w2) (fun _ _ _ => rfl) qa
    have qal := qa.lt
    go_wp2_with fail
    clear qac0 qac1 qac2 qac3 qac4 qac5 qal qa
    have hB3 := bAl hB2 (.cells #[.int .i64 ay, .int .i64 am, .int .i64 ad, .int .i64 ah, .int .i64 ai, .int .i64 asx] 24)
    have H3 := Lib.hid (H2.out.alloc (.cells #[.int .i64 ay, .int .i64 am, .int .i64 ad, .int .i64 ah, .int .i64 ai, .int .i64 asx] 24))
    clear H2
    have H4 : Hid (Blk (w2.alloc (.cells #[.int .i64 ay, .int .i64 am, .int .i64 ad, .int .i64 ah, .int .i64 ai, .int .i64 asx] 24)) w2.heap.size 24 [.int .i64 ay, .int .i64 am, .int .i64 ad, .int .i64 ah, .int .i64 ai, .int .i64 asx]) := Blk.new w2 #[.int .i64 ay, .int .i64 am, .int .i64 ad, .int .i64 ah, .int .i64 ai, .int .i64 asx] 24
    generalize w2.alloc (.cells #[.int .i64 ay, .int .i64 am, .int .i64 ad, .int .i64 ah, .int .i64 ai, .int .i64 asx] 24) = w3 at *
    clear hB2
    have qa := H3.out
    obtain ⟨qac0, qac1, qac2, qac3, qac4, qac5⟩ := cells6 (w1 := w3) (fun _ _ _ => rfl) qa
    have qal := qa.lt
    have qb := H4.out
    obtain ⟨qbc0, qbc1, qbc2, qbc3, qbc4, qbc5⟩ := cells6 (w1 := w3) (fun _ _ _ => rfl) qb
    have qbl := qb.lt
    go_wp2_with fail
    clear qac0 qac1 qac2 qac3 qac4 qac5 qal qa
    clear qbc0 qbc1 qbc2 qbc3 qbc4 qbc5 qbl qb
    refine (C12.out _).mono ?_
    rintro e w4 ⟨rfl, hb4⟩
    have hB4 := bThen hB3 hb4
    have H5 := Lib.hid (blkDown H3.out hb4)
    clear H3
    have H6 := Lib.hid (blkDown H4.out hb4)
    clear H4
    clear hb4 hB3
    have qa := H5.out
    obtain ⟨qac0, qac1, qac2, qac3, qac4, qac5⟩ := cells6 (w1 := w4) (fun _ _ _ => rfl) qa
    have qal := qa.lt
    have qb := H6.out
    obtain ⟨qbc0, qbc1, qbc2, qbc3, qbc4, qbc5⟩ := cells6 (w1 := w4) (fun _ _ _ => rfl) qb
    have qbl := qb.lt
    go_wp2_with fail
    clear qac0 qac1 qac2 qac3 qac4 qac5 qal qa
    clear qbc0 qbc1 qbc2 qbc3 qbc4 qbc5 qbl qb
    refine (C46.out _).mono ?_
    rintro e w5 ⟨rfl, hb5⟩
    have hB5 := bThen hB4 hb5
    have H7 := Lib.hid (blkDown H5.out hb5)
    clear H5
    have H8 := Lib.hid (blkDown H6.out hb5)
    clear H6
    clear hb5 hB4
    have qa := H7.out
    obtain ⟨qac0, qac1, qac2, qac3, qac4, qac5⟩ := cells6 (w1 := w5) (fun _ _ _ => rfl) qa
    have qal := qa.lt
    have qb := H8.out
    obtain ⟨qbc0, qbc1, qbc2, qbc3, qbc4, qbc5⟩ := cells6 (w1 := w5) (fun _ _ _ => rfl) qb
    have qbl := qb.lt
    go_wp2_with fail
    clear qac0 qac1 qac2 qac3 qac4 qac5 qal qa
    clear qbc0 qbc1 qbc2 qbc3 qbc4 qbc5 qbl qb
    have hB6 := bAl hB5 (.cells #[.int .i64 ay, .int .i64 am, .int .i64 ad, .int .i64 ah, .int .i64 ai, .int .i64 asx] 28)
    have H9 := Lib.hid (H7.out.alloc (.cells #[.int .i64 ay, .int .i64 am, .int .i64 ad, .int .i64 ah, .int .i64 ai, .int .i64 asx] 28))
    clear H7
    have H10 := Lib.hid (H8.out.alloc (.cells #[.int .i64 ay, .int .i64 am, .int .i64 ad, .int .i64 ah, .int .i64 ai, .int .i64 asx] 28))
    clear H8
    have H11 : Hid (Blk (w5.alloc (.cells #[.int .i64 ay, .int .i64 am, .int .i64 ad, .int .i64 ah, .int .i64 ai, .int .i64 asx] 28)) w5.heap.size 28 [.int .i64 ay, .int .i64 am, .int .i64 ad, .int .i64 ah, .int .i64 ai, .int .i64 asx]) := Blk.new w5 #[.int .i64 ay, .int .i64 am, .int .i64 ad, .int .i64 ah, .int .i64 ai, .int .i64 asx] 28
    generalize w5.alloc (.cells #[.int .i64 ay, .int .i64 am, .int .i64 ad, .int .i64 ah, .int .i64 ai, .int .i64 asx] 28) = w6 at *
    clear hB5
    have qa := H9.out
    obtain ⟨qac0, qac1, qac2, qac3, qac4, qac5⟩ := cells6 (w1 := w6) (fun _ _ _ => rfl) qa
    have qal := qa.lt
    have qb := H10.out
    obtain ⟨qbc0, qbc1, qbc2, qbc3, qbc4, qbc5⟩ := cells6 (w1 := w6) (fun _ _ _ => rfl) qb
    have qbl := qb.lt
    have qc := H11.out
    obtain ⟨qcc0, qcc1, qcc2, qcc3, qcc4, qcc5⟩ := cells6 (w1 := w6) (fun _ _ _ => rfl) qc
    have qcl := qc.lt
    go_wp2_with fail
    clear qac0 qac1 qac2 qac3 qac4 qac5 qal qa
    clear qbc0 qbc1 qbc2 qbc3 qbc4 qbc5 qbl qb
    clear qcc0 qcc1 qcc2 qcc3 qcc4 qcc5 qcl qc
    refine (C30.out _).mono ?_
    rintro e w7 ⟨rfl, hb7⟩
    have hB7 := bThen hB6 hb7
    have H12 := Lib.hid (blkDown H9.out hb7)
    clear H9
    have H13 := Lib.hid (blkDown H10.out hb7)
    clear H10
    have H14 := Lib.hid (blkDown H11.out hb7)
    clear H11
    clear hb7 hB6
    have qa := H12.out
    obtain ⟨qac0, qac1, qac2, qac3, qac4, qac5⟩ := cells6 (w1 := w7) (fun _ _ _ => rfl) qa
    have qal := qa.lt
    have qb := H13.out
    obtain ⟨qbc0, qbc1, qbc2, qbc3, qbc4, qbc5⟩ := cells6 (w1 := w7) (fun _ _ _ => rfl) qb
    have qbl := qb.lt
    have qc := H14.out
    obtain ⟨qcc0, qcc1, qcc2, qcc3, qcc4, qcc5⟩ := cells6 (w1 := w7) (fun _ _ _ => rfl) qc
    have qcl := qc.lt
    go_wp2_with fail
    clear qac0 qac1 qac2 qac3 qac4 qac5 qal qa
    clear qbc0 qbc1 qbc2 qbc3 qbc4 qbc5 qbl qb
    clear qcc0 qcc1 qcc2 qcc3 qcc4 qcc5 qcl qc
    have hB8 := bAl hB7 (.cells #[.int .i64 by', .int .i64 bm, .int .i64 bd, .int .i64 bh, .int .i64 bi, .int .i64 bs] 24)
    have H15 := Lib.hid (H12.out.alloc (.cells #[.int .i64 by', .int .i64 bm, .int .i64 bd, .int .i64 bh, .int .i64 bi, .int .i64 bs] 24))
    clear H12
    have H16 := Lib.hid (H13.out.alloc (.cells #[.int .i64 by', .int .i64 bm, .int .i64 bd, .int .i64 bh, .int .i64 bi, .int .i64 bs] 24))
    clear H13
    have H17 := Lib.hid (H14.out.alloc (.cells #[.int .i64 by', .int .i64 bm, .int .i64 bd, .int .i64 bh, .int .i64 bi, .int .i64 bs] 24))
    clear H14
    have H18 : Hid (Blk (w7.alloc (.cells #[.int .i64 by', .int .i64 bm, .int .i64 bd, .int .i64 bh, .int .i64 bi, .int .i64 bs] 24)) w7.heap.size 24 [.int .i64 by', .int .i64 bm, .int .i64 bd, .int .i64 bh, .int .i64 bi, .int .i64 bs]) := Blk.new w7 #[.int .i64 by', .int .i64 bm, .int .i64 bd, .int .i64 bh, .int .i64 bi, .int .i64 bs] 24
    generalize w7.alloc (.cells #[.int .i64 by', .int .i64 bm, .int .i64 bd, .int .i64 bh, .int .i64 bi, .int .i64 bs] 24) = w8 at *
    clear hB7
    have qa := H15.out
    obtain ⟨qac0, qac1, qac2, qac3, qac4, qac5⟩ := cells6 (w1 := w8) (fun _ _ _ => rfl) qa
    have qal := qa.lt
    have qb := H16.out
    obtain ⟨qbc0, qbc1, qbc2, qbc3, qbc4, qbc5⟩ := cells6 (w1 := w8) (fun _ _ _ => rfl) qb
    have qbl := qb.lt
    have qc := H17.out
    obtain ⟨qcc0, qcc1, qcc2, qcc3, qcc4, qcc5⟩ := cells6 (w1 := w8) (fun _ _ _ => rfl) qc
    have qcl := qc.lt
    have qd := H18.out
    obtain ⟨qdc0, qdc1, qdc2, qdc3, qdc4, qdc5⟩ := cells6 (w1 := w8) (fun _ _ _ => rfl) qd
    have qdl := qd.lt
    go_wp2_with fail
    clear qac0 qac1 qac2 qac3 qac4 qac5 qal qa
    clear qbc0 qbc1 qbc2 qbc3 qbc4 qbc5 qbl qb
    clear qcc0 qcc1 qcc2 qcc3 qcc4 qcc5 qcl qc
    clear qdc0 qdc1 qdc2 qdc3 qdc4 qdc5 qdl qd
    refine (C12.out _).mono ?_
    rintro e w9 ⟨rfl, hb9⟩
    have hB9 := bThen hB8 hb9
    have H19 := Lib.hid (blkDown H15.out hb9)
    clear H15
    have H20 := Lib.hid (blkDown H16.out hb9)
    clear H16
    have H21 := Lib.hid (blkDown H17.out hb9)
    clear H17
    have H22 := Lib.hid (blkDown H18.out hb9)
    clear H18
    clear hb9 hB8
    have qa := H19.out
    obtain ⟨qac0, qac1, qac2, qac3, qac4, qac5⟩ := cells6 (w1 := w9) (fun _ _ _ => rfl) qa
    have qal := qa.lt
    have qb := H20.out
    obtain ⟨qbc0, qbc1, qbc2, qbc3, qbc4, qbc5⟩ := cells6 (w1 := w9) (fun _ _ _ => rfl) qb
    have qbl := qb.lt
    have qc := H21.out
    obtain ⟨qcc0, qcc1, qcc2, qcc3, qcc4, qcc5⟩ := cells6 (w1 := w9) (fun _ _ _ => rfl) qc
    have qcl := qc.lt
    have qd := H22.out
    obtain ⟨qdc0, qdc1, qdc2, qdc3, qdc4, qdc5⟩ := cells6 (w1 := w9) (fun _ _ _ => rfl) qd
    have qdl := qd.lt
    go_wp2_with fail
    clear qac0 qac1 qac2 qac3 qac4 qac5 qal qa
    clear qbc0 qbc1 qbc2 qbc3 qbc4 qbc5 qbl qb
    clear qcc0 qcc1 qcc2 qcc3 qcc4 qcc5 qcl qc
    clear qdc0 qdc1 qdc2 qdc3 qdc4 qdc5 qdl qd
    refine (C47.out _).mono ?_
    rintro e w10 ⟨rfl, hb10⟩
    have hB10 := bThen hB9 hb10
    have H23 := Lib.hid (blkDown H19.out hb10)
    clear H19
    have H24 := Lib.hid (blkDown H20.out hb10)
    clear H20
    have H25 := Lib.hid (blkDown H21.out hb10)
    clear H21
    have H26 := Lib.hid (blkDown H22.out hb10)
    clear H22
    clear hb10 hB9
    have qa := H23.out
    obtain ⟨qac0, qac1, qac2, qac3, qac4, qac5⟩ := cells6 (w1 := w10) (fun _ _ _ => rfl) qa
    have qal := qa.lt
    have qb := H24.out
    obtain ⟨qbc0, qbc1, qbc2, qbc3, qbc4, qbc5⟩ := cells6 (w1 := w10) (fun _ _ _ => rfl) qb
    have qbl := qb.lt
    have qc := H25.out
    obtain ⟨qcc0, qcc1, qcc2, qcc3, qcc4, qcc5⟩ := cells6 (w1 := w10) (fun _ _ _ => rfl) qc
    have qcl := qc.lt
    have qd := H26.out
    obtain ⟨qdc0, qdc1, qdc2, qdc3, qdc4, qdc5⟩ := cells6 (w1 := w10) (fun _ _ _ => rfl) qd
    have qdl := qd.lt
    go_wp2_with fail
    clear qac0 qac1 qac2 qac3 qac4 qac5 qal qa
    clear qbc0 qbc1 qbc2 qbc3 qbc4 qbc5 qbl qb
    clear qcc0 qcc1 qcc2 qcc3 qcc4 qcc5 qcl qc
    clear qdc0 qdc1 qdc2 qdc3 qdc4 qdc5 qdl qd
    have hB11 := bAl hB10 (.cells #[.int .i64 by', .int .i64 bm, .int .i64 bd, .int .i64 bh, .int .i64 bi, .int .i64 bs] 28)
    have H27 := Lib.hid (H23.out.alloc (.cells #[.int .i64 by', .int .i64 bm, .int .i64 bd, .int .i64 bh, .int .i64 bi, .int .i64 bs] 28))
    clear H23
    have H28 := Lib.hid (H24.out.alloc (.cells #[.int .i64 by', .int .i64 bm, .int .i64 bd, .int .i64 bh, .int .i64 bi, .int .i64 bs] 28))
    clear H24
    have H29 := Lib.hid (H25.out.alloc (.cells #[.int .i64 by', .int .i64 bm, .int .i64 bd, .int .i64 bh, .int .i64 bi, .int .i64 bs] 28))
    clear H25
    have H30 := Lib.hid (H26.out.alloc (.cells #[.int .i64 by', .int .i64 bm, .int .i64 bd, .int .i64 bh, .int .i64 bi, .int .i64 bs] 28))
    clear H26
    have H31 : Hid (Blk (w10.alloc (.cells #[.int .i64 by', .int .i64 bm, .int .i64 bd, .int .i64 bh, .int .i64 bi, .int .i64 bs] 28)) w10.heap.size 28 [.int .i64 by', .int .i64 bm, .int .i64 bd, .int .i64 bh, .int .i64 bi, .int .i64 bs]) := Blk.new w10 #[.int .i64 by', .int .i64 bm, .int .i64 bd, .int .i64 bh, .int .i64 bi, .int .i64 bs] 28
    generalize w10.alloc (.cells #[.int .i64 by', .int .i64 bm, .int .i64 bd, .int .i64 bh, .int .i64 bi, .int .i64 bs] 28) = w11 at *
    clear hB10
    have qa := H27.out
    obtain ⟨qac0, qac1, qac2, qac3, qac4, qac5⟩ := cells6 (w1 := w11) (fun _ _ _ => rfl) qa
    have qal := qa.lt
    have qb := H28.out
    obtain ⟨qbc0, qbc1, qbc2, qbc3, qbc4, qbc5⟩ := cells6 (w1 := w11) (fun _ _ _ => rfl) qb
    have qbl := qb.lt
    have qc := H29.out
    obtain ⟨qcc0, qcc1, qcc2, qcc3, qcc4, qcc5⟩ := cells6 (w1 := w11) (fun _ _ _ => rfl) qc
    have qcl := qc.lt
    have qd := H30.out
    obtain ⟨qdc0, qdc1, qdc2, qdc3, qdc4, qdc5⟩ := cells6 (w1 := w11) (fun _ _ _ => rfl) qd
    have qdl := qd.lt
    have qe := H31.out
    obtain ⟨qec0, qec1, qec2, qec3, qec4, qec5⟩ := cells6 (w1 := w11) (fun _ _ _ => rfl) qe
    have qel := qe.lt
    have qbr0 := cell_regrown qbc0
    have qbr1 := cell_regrown qbc1
    have qbr2 := cell_regrown qbc2
    have qbr3 := cell_regrown qbc3
    have qbr4 := cell_regrown qbc4
    have qbr5 := cell_regrown qbc5
    have qcr0 := cell_regrown qcc0
    have qcr1 := cell_regrown qcc1
    have qcr2 := cell_regrown qcc2
    have qcr3 := cell_regrown qcc3
    have qcr4 := cell_regrown qcc4
    have qcr5 := cell_regrown qcc5
    have qdr0 := cell_regrown qdc0
    have qdr1 := cell_regrown qdc1
    have qdr2 := cell_regrown qdc2
    have qdr3 := cell_regrown qdc3
    have qdr4 := cell_regrown qdc4
    have qdr5 := cell_regrown qdc5
    have qer0 := cell_regrown qec0
    have qer1 := cell_regrown qec1
    have qer2 := cell_regrown qec2
    have qer3 := cell_regrown qec3
    have qer4 := cell_regrown qec4
    have qer5 := cell_regrown qec5
    clear qac0 qac1 qac2 qac3 qac4 qac5 qal qa
    clear qbc0 qbc1 qbc2 qbc3 qbc4 qbc5 qbl qb
    clear qcc0 qcc1 qcc2 qcc3 qcc4 qcc5 qcl qc
    clear qdc0 qdc1 qdc2 qdc3 qdc4 qdc5 qdl qd
    clear qec0 qec1 qec2 qec3 qec4 qec5 qel qe
    refine wp_region_quiet_below (by kernel_rfl) (by kernel_rfl) ?_
    repeat (quiet_step (first | ((go_at_call 12; (with_reducible exact Calls.regrown_of (C12a.out _))))| ((go_at_call 12; (with_reducible exact Calls.regrown_of (C12b.out _))))))
    refine wpQuiet_nil ?_
    intro _ hw'
    obtain ⟨⟨dq, osq⟩, hw''⟩ := hw'
    subst hw'' 
    clear qbr0 qbr1 qbr2 qbr3 qbr4 qbr5
    clear qcr0 qcr1 qcr2 qcr3 qcr4 qcr5
    clear qdr0 qdr1 qdr2 qdr3 qdr4 qdr5
    clear qer0 qer1 qer2 qer3 qer4 qer5
    have hbq := below_regrown w11 dq osq
    have hB12 := bThen hB11 hbq
    have H32 := Lib.hid (blkDown H27.out hbq)
    clear H27
    have H33 := Lib.hid (blkDown H28.out hbq)
    clear H28
    have H34 := Lib.hid (blkDown H29.out hbq)
    clear H29
    have H35 := Lib.hid (blkDown H30.out hbq)
    clear H30
    have H36 := Lib.hid (blkDown H31.out hbq)
    clear H31
    generalize grow (redrawn w11 dq) osq = w12 at *
    clear hbq hB11
    have qa := H32.out
    obtain ⟨qac0, qac1, qac2, qac3, qac4, qac5⟩ := cells6 (w1 := w12) (fun _ _ _ => rfl) qa
    have qal := qa.lt
    have qb := H33.out
    obtain ⟨qbc0, qbc1, qbc2, qbc3, qbc4, qbc5⟩ := cells6 (w1 := w12) (fun _ _ _ => rfl) qb
    have qbl := qb.lt
    have qc := H34.out
    obtain ⟨qcc0, qcc1, qcc2, qcc3, qcc4, qcc5⟩ := cells6 (w1 := w12) (fun _ _ _ => rfl) qc
    have qcl := qc.lt
    have qd := H35.out
    obtain ⟨qdc0, qdc1, qdc2, qdc3, qdc4, qdc5⟩ := cells6 (w1 := w12) (fun _ _ _ => rfl) qd
    have qdl := qd.lt
    have qe := H36.out
    obtain ⟨qec0, qec1, qec2, qec3, qec4, qec5⟩ := cells6 (w1 := w12) (fun _ _ _ => rfl) qe
    have qel := qe.lt
    go_wp2_with fail
    clear qac0 qac1 qac2 qac3 qac4 qac5 qal qa
    clear qbc0 qbc1 qbc2 qbc3 qbc4 qbc5 qbl qb
    clear qcc0 qcc1 qcc2 qcc3 qcc4 qcc5 qcl qc
    clear qdc0 qdc1 qdc2 qdc3 qdc4 qdc5 qdl qd
    clear qec0 qec1 qec2 qec3 qec4 qec5 qel qe
    refine (C30'.out _).mono ?_
    rintro e w13 ⟨rfl, hb13⟩
    have hB13 := bThen hB12 hb13
    have H37 := Lib.hid (blkDown H32.out hb13)
    clear H32
    have H38 := Lib.hid (blkDown H33.out hb13)
    clear H33
    have H39 := Lib.hid (blkDown H34.out hb13)
    clear H34
    have H40 := Lib.hid (blkDown H35.out hb13)
    clear H35
    have H41 := Lib.hid (blkDown H36.out hb13)
    clear H36
    clear hb13 hB12
    have qa := H37.out
    obtain ⟨qac0, qac1, qac2, qac3, qac4, qac5⟩ := cells6 (w1 := w13) (fun _ _ _ => rfl) qa
    have qal := qa.lt
    have qb := H38.out
    obtain ⟨qbc0, qbc1, qbc2, qbc3, qbc4, qbc5⟩ := cells6 (w1 := w13) (fun _ _ _ => rfl) qb
    have qbl := qb.lt
    have qc := H39.out
    obtain ⟨qcc0, qcc1, qcc2, qcc3, qcc4, qcc5⟩ := cells6 (w1 := w13) (fun _ _ _ => rfl) qc
    have qcl := qc.lt
    have qd := H40.out
    obtain ⟨qdc0, qdc1, qdc2, qdc3, qdc4, qdc5⟩ := cells6 (w1 := w13) (fun _ _ _ => rfl) qd
    have qdl := qd.lt
    have qe := H41.out
    obtain ⟨qec0, qec1, qec2, qec3, qec4, qec5⟩ := cells6 (w1 := w13) (fun _ _ _ => rfl) qe
    have qel := qe.lt
    go_wp2
    go_ret
    exact ⟨rfl, bAl hB13 _⟩
  · generalize amN x n = R1 at *
    generalize adN x n = R2 at *
    obtain ⟨⟨ay, am, ad, ah, ai, asx⟩, e1⟩ := R1
    obtain ⟨⟨by', bm, bd, bh, bi, bs⟩, e2⟩ := R2
    obtain ⟨y, m, d, h, i, s⟩ := x
    dsimp only at *
    have be : (e2 == 0) = false := by simpa using he
    clear he
    have hB0 : Below w.heap.size w w := Below.refl _ _
    go_enter Try.func21, Try.ntmps21
    go_wp2_with fail
    have hB1 := bAl hB0 (.cells #[.int .i64 y, .int .i64 m, .int .i64 d, .int .i64 h, .int .i64 i, .int .i64 s] 24)
    have H1 : Hid (Blk (w.alloc (.cells #[.int .i64 y, .int .i64 m, .int .i64 d, .int .i64 h, .int .i64 i, .int .i64 s] 24)) w.heap.size 24 [.int .i64 y, .int .i64 m, .int .i64 d, .int .i64 h, .int .i64 i, .int .i64 s]) := Blk.new w #[.int .i64 y, .int .i64 m, .int .i64 d, .int .i64 h, .int .i64 i, .int .i64 s] 24
    generalize w.alloc (.cells #[.int .i64 y, .int .i64 m, .int .i64 d, .int .i64 h, .int .i64 i, .int .i64 s] 24) = w1 at *
    clear hB0
    have qa := H1.out
    obtain ⟨qac0, qac1, qac2, qac3, qac4, qac5⟩ := cells6 (w1 := w1) (fun _ _ _ => rfl) qa
    have qal := qa.lt
    go_wp2_with fail
    clear qac0 qac1 qac2 qac3 qac4 qac5 qal qa
    refine (C45.out _).mono ?_
    rintro e w2 ⟨rfl, hb2⟩
    have hB2 := bThen hB1 hb2
    have H2 := Lib.hid (blkDown H1.out hb2)
    clear H1
    clear hb2 hB1
    have qa := H2.out
    obtain ⟨qac0, qac1, qac2, qac3, qac4, qac5⟩ := cells6 (w1 := w2) (fun _ _ _ => rfl) qa
    have qal := qa.lt
    go_wp2_with fail
    clear qac0 qac1 qac2 qac3 qac4 qac5 qal qa
    have hB3 := bAl hB2 (.cells #[.int .i64 ay, .int .i64 am, .int .i64 ad, .int .i64 ah, .int .i64 ai, .int .i64 asx] 24)
    have H3 := Lib.hid (H2.out.alloc (.cells #[.int .i64 ay, .int .i64 am, .int .i64 ad, .int .i64 ah, .int .i64 ai, .int .i64 asx] 24))
    clear H2
    have H4 : Hid (Blk (w2.alloc (.cells #[.int .i64 ay, .int .i64 am, .int .i64 ad, .int .i64 ah, .int .i64 ai, .int .i64 asx] 24)) w2.heap.size 24 [.int .i64 ay, .int .i64 am, .int .i64 ad, .int .i64 ah, .int .i64 ai, .int .i64 asx]) := Blk.new w2 #[.int .i64 ay, .int .i64 am, .int .i64 ad, .int .i64 ah, .int .i64 ai, .int .i64 asx] 24
    generalize w2.alloc (.cells #[.int .i64 ay, .int .i64 am, .int .i64 ad, .int .i64 ah, .int .i64 ai, .int .i64 asx] 24) = w3 at *
    clear hB2
    have qa := H3.out
    obtain ⟨qac0, qac1, qac2, qac3, qac4, qac5⟩ := cells6 (w1 := w3) (fun _ _ _ => rfl) qa
    have qal := qa.lt
    have qb := H4.out
    obtain ⟨qbc0, qbc1, qbc2, qbc3, qbc4, qbc5⟩ := cells6 (w1 := w3) (fun _ _ _ => rfl) qb
    have qbl := qb.lt
    go_wp2_with fail
    clear qac0 qac1 qac2 qac3 qac4 qac5 qal qa
    clear qbc0 qbc1 qbc2 qbc3 qbc4 qbc5 qbl qb
    refine (C12.out _).mono ?_
    rintro e w4 ⟨rfl, hb4⟩
    have hB4 := bThen hB3 hb4
    have H5 := Lib.hid (blkDown H3.out hb4)
    clear H3
    have H6 := Lib.hid (blkDown H4.out hb4)
    clear H4
    clear hb4 hB3
    have qa := H5.out
    obtain ⟨qac0, qac1, qac2, qac3, qac4, qac5⟩ := cells6 (w1 := w4) (fun _ _ _ => rfl) qa
    have qal := qa.lt
    have qb := H6.out
    obtain ⟨qbc0, qbc1, qbc2, qbc3, qbc4, qbc5⟩ := cells6 (w1 := w4) (fun _ _ _ => rfl) qb
    have qbl := qb.lt
    go_wp2_with fail
    clear qac0 qac1 qac2 qac3 qac4 qac5 qal qa
    clear qbc0 qbc1 qbc2 qbc3 qbc4 qbc5 qbl qb
    refine (C46.out _).mono ?_
    rintro e w5 ⟨rfl, hb5⟩
    have hB5 := bThen hB4 hb5
    have H7 := Lib.hid (blkDown H5.out hb5)
    clear H5
    have H8 := Lib.hid (blkDown H6.out hb5)
    clear H6
    clear hb5 hB4
    have qa := H7.out
    obtain ⟨qac0, qac1, qac2, qac3, qac4, qac5⟩ := cells6 (w1 := w5) (fun _ _ _ => rfl) qa
    have qal := qa.lt
    have qb := H8.out
    obtain ⟨qbc0, qbc1, qbc2, qbc3, qbc4, qbc5⟩ := cells6 (w1 := w5) (fun _ _ _ => rfl) qb
    have qbl := qb.lt
    go_wp2_with fail
    clear qac0 qac1 qac2 qac3 qac4 qac5 qal qa
    clear qbc0 qbc1 qbc2 qbc3 qbc4 qbc5 qbl qb
    have hB6 := bAl hB5 (.cells #[.int .i64 ay, .int .i64 am, .int .i64 ad, .int .i64 ah, .int .i64 ai, .int .i64 asx] 28)
    have H9 := Lib.hid (H7.out.alloc (.cells #[.int .i64 ay, .int .i64 am, .int .i64 ad, .int .i64 ah, .int .i64 ai, .int .i64 asx] 28))
    clear H7
    have H10 := Lib.hid (H8.out.alloc (.cells #[.int .i64 ay, .int .i64 am, .int .i64 ad, .int .i64 ah, .int .i64 ai, .int .i64 asx] 28))
    clear H8
    have H11 : Hid (Blk (w5.alloc (.cells #[.int .i64 ay, .int .i64 am, .int .i64 ad, .int .i64 ah, .int .i64 ai, .int .i64 asx] 28)) w5.heap.size 28 [.int .i64 ay, .int .i64 am, .int .i64 ad, .int .i64 ah, .int .i64 ai, .int .i64 asx]) := Blk.new w5 #[.int .i64 ay, .int .i64 am, .int .i64 ad, .int .i64 ah, .int .i64 ai, .int .i64 asx] 28
    generalize w5.alloc (.cells #[.int .i64 ay, .int .i64 am, .int .i64 ad, .int .i64 ah, .int .i64 ai, .int .i64 asx] 28) = w6 at *
    clear hB5
    have qa := H9.out
    obtain ⟨qac0, qac1, qac2, qac3, qac4, qac5⟩ := cells6 (w1 := w6) (fun _ _ _ => rfl) qa
    have qal := qa.lt
    have qb := H10.out
    obtain ⟨qbc0, qbc1, qbc2, qbc3, qbc4, qbc5⟩ := cells6 (w1 := w6) (fun _ _ _ => rfl) qb
    have qbl := qb.lt
    have qc := H11.out
    obtain ⟨qcc0, qcc1, qcc2, qcc3, qcc4, qcc5⟩ := cells6 (w1 := w6) (fun _ _ _ => rfl) qc
    have qcl := qc.lt
    go_wp2_with fail
    clear qac0 qac1 qac2 qac3 qac4 qac5 qal qa
    clear qbc0 qbc1 qbc2 qbc3 qbc4 qbc5 qbl qb
    clear qcc0 qcc1 qcc2 qcc3 qcc4 qcc5 qcl qc
    refine (C30.out _).mono ?_
    rintro e w7 ⟨rfl, hb7⟩
    have hB7 := bThen hB6 hb7
    have H12 := Lib.hid (blkDown H9.out hb7)
    clear H9
    have H13 := Lib.hid (blkDown H10.out hb7)
    clear H10
    have H14 := Lib.hid (blkDown H11.out hb7)
    clear H11
    clear hb7 hB6
    have qa := H12.out
    obtain ⟨qac0, qac1, qac2, qac3, qac4, qac5⟩ := cells6 (w1 := w7) (fun _ _ _ => rfl) qa
    have qal := qa.lt
    have qb := H13.out
    obtain ⟨qbc0, qbc1, qbc2, qbc3, qbc4, qbc5⟩ := cells6 (w1 := w7) (fun _ _ _ => rfl) qb
    have qbl := qb.lt
    have qc := H14.out
    obtain ⟨qcc0, qcc1, qcc2, qcc3, qcc4, qcc5⟩ := cells6 (w1 := w7) (fun _ _ _ => rfl) qc
    have qcl := qc.lt
    go_wp2_with fail
    clear qac0 qac1 qac2 qac3 qac4 qac5 qal qa
    clear qbc0 qbc1 qbc2 qbc3 qbc4 qbc5 qbl qb
    clear qcc0 qcc1 qcc2 qcc3 qcc4 qcc5 qcl qc
    have hB8 := bAl hB7 (.cells #[.int .i64 by', .int .i64 bm, .int .i64 bd, .int .i64 bh, .int .i64 bi, .int .i64 bs] 24)
    have H15 := Lib.hid (H12.out.alloc (.cells #[.int .i64 by', .int .i64 bm, .int .i64 bd, .int .i64 bh, .int .i64 bi, .int .i64 bs] 24))
    clear H12
    have H16 := Lib.hid (H13.out.alloc (.cells #[.int .i64 by', .int .i64 bm, .int .i64 bd, .int .i64 bh, .int .i64 bi, .int .i64 bs] 24))
    clear H13
    have H17 := Lib.hid (H14.out.alloc (.cells #[.int .i64 by', .int .i64 bm, .int .i64 bd, .int .i64 bh, .int .i64 bi, .int .i64 bs] 24))
    clear H14
    have H18 : Hid (Blk (w7.alloc (.cells #[.int .i64 by', .int .i64 bm, .int .i64 bd, .int .i64 bh, .int .i64 bi, .int .i64 bs] 24)) w7.heap.size 24 [.int .i64 by', .int .i64 bm, .int .i64 bd, .int .i64 bh, .int .i64 bi, .int .i64 bs]) := Blk.new w7 #[.int .i64 by', .int .i64 bm, .int .i64 bd, .int .i64 bh, .int .i64 bi, .int .i64 bs] 24
    generalize w7.alloc (.cells #[.int .i64 by', .int .i64 bm, .int .i64 bd, .int .i64 bh, .int .i64 bi, .int .i64 bs] 24) = w8 at *
    clear hB7
    have qa := H15.out
    obtain ⟨qac0, qac1, qac2, qac3, qac4, qac5⟩ := cells6 (w1 := w8) (fun _ _ _ => rfl) qa
    have qal := qa.lt
    have qb := H16.out
    obtain ⟨qbc0, qbc1, qbc2, qbc3, qbc4, qbc5⟩ := cells6 (w1 := w8) (fun _ _ _ => rfl) qb
    have qbl := qb.lt
    have qc := H17.out
    obtain ⟨qcc0, qcc1, qcc2, qcc3, qcc4, qcc5⟩ := cells6 (w1 := w8) (fun _ _ _ => rfl) qc
    have qcl := qc.lt
    have qd := H18.out
    obtain ⟨qdc0, qdc1, qdc2, qdc3, qdc4, qdc5⟩ := cells6 (w1 := w8) (fun _ _ _ => rfl) qd
    have qdl := qd.lt
    go_wp2_with fail
    clear qac0 qac1 qac2 qac3 qac4 qac5 qal qa
    clear qbc0 qbc1 qbc2 qbc3 qbc4 qbc5 qbl qb
    clear qcc0 qcc1 qcc2 qcc3 qcc4 qcc5 qcl qc
    clear qdc0 qdc1 qdc2 qdc3 qdc4 qdc5 qdl qd
    refine (C12.out _).mono ?_
    rintro e w9 ⟨rfl, hb9⟩
    have hB9 := bThen hB8 hb9
    have H19 := Lib.hid (blkDown H15.out hb9)
    clear H15
    have H20 := Lib.hid (blkDown H16.out hb9)
    clear H16
    have H21 := Lib.hid (blkDown H17.out hb9)
    clear H17
    have H22 := Lib.hid (blkDown H18.out hb9)
    clear H18
    clear hb9 hB8
    have qa := H19.out
    obtain ⟨qac0, qac1, qac2, qac3, qac4, qac5⟩ := cells6 (w1 := w9) (fun _ _ _ => rfl) qa
    have qal := qa.lt
    have qb := H20.out
    obtain ⟨qbc0, qbc1, qbc2, qbc3, qbc4, qbc5⟩ := cells6 (w1 := w9) (fun _ _ _ => rfl) qb
    have qbl := qb.lt
    have qc := H21.out
    obtain ⟨qcc0, qcc1, qcc2, qcc3, qcc4, qcc5⟩ := cells6 (w1 := w9) (fun _ _ _ => rfl) qc
    have qcl := qc.lt
    have qd := H22.out
    obtain ⟨qdc0, qdc1, qdc2, qdc3, qdc4, qdc5⟩ := cells6 (w1 := w9) (fun _ _ _ => rfl) qd
    have qdl := qd.lt
    go_wp2_with fail
    clear qac0 qac1 qac2 qac3 qac4 qac5 qal qa
    clear qbc0 qbc1 qbc2 qbc3 qbc4 qbc5 qbl qb
    clear qcc0 qcc1 qcc2 qcc3 qcc4 qcc5 qcl qc
    clear qdc0 qdc1 qdc2 qdc3 qdc4 qdc5 qdl qd
    refine (C47.out _).mono ?_
    rintro e w10 ⟨rfl, hb10⟩
    have hB10 := bThen hB9 hb10
    have H23 := Lib.hid (blkDown H19.out hb10)
    clear H19
    have H24 := Lib.hid (blkDown H20.out hb10)
    clear H20
    have H25 := Lib.hid (blkDown H21.out hb10)
    clear H21
    have H26 := Lib.hid (blkDown H22.out hb10)
    clear H22
    clear hb10 hB9
    have qa := H23.out
    obtain ⟨qac0, qac1, qac2, qac3, qac4, qac5⟩ := cells6 (w1 := w10) (fun _ _ _ => rfl) qa
    have qal := qa.lt
    have qb := H24.out
    obtain ⟨qbc0, qbc1, qbc2, qbc3, qbc4, qbc5⟩ := cells6 (w1 := w10) (fun _ _ _ => rfl) qb
    have qbl := qb.lt
    have qc := H25.out
    obtain ⟨qcc0, qcc1, qcc2, qcc3, qcc4, qcc5⟩ := cells6 (w1 := w10) (fun _ _ _ => rfl) qc
    have qcl := qc.lt
    have qd := H26.out
    obtain ⟨qdc0, qdc1, qdc2, qdc3, qdc4, qdc5⟩ := cells6 (w1 := w10) (fun _ _ _ => rfl) qd
    have qdl := qd.lt
    go_wp2_with fail
    clear qac0 qac1 qac2 qac3 qac4 qac5 qal qa
    clear qbc0 qbc1 qbc2 qbc3 qbc4 qbc5 qbl qb
    clear qcc0 qcc1 qcc2 qcc3 qcc4 qcc5 qcl qc
    clear qdc0 qdc1 qdc2 qdc3 qdc4 qdc5 qdl qd
    have hB11 := bAl hB10 (.cells #[.int .i64 by', .int .i64 bm, .int .i64 bd, .int .i64 bh, .int .i64 bi, .int .i64 bs] 28)
    have H27 := Lib.hid (H23.out.alloc (.cells #[.int .i64 by', .int .i64 bm, .int .i64 bd, .int .i64 bh, .int .i64 bi, .int .i64 bs] 28))
    clear H23
    have H28 := Lib.hid (H24.out.alloc (.cells #[.int .i64 by', .int .i64 bm, .int .i64 bd, .int .i64 bh, .int .i64 bi, .int .i64 bs] 28))
    clear H24
    have H29 := Lib.hid (H25.out.alloc (.cells #[.int .i64 by', .int .i64 bm, .int .i64 bd, .int .i64 bh, .int .i64 bi, .int .i64 bs] 28))
    clear H25
    have H30 := Lib.hid (H26.out.alloc (.cells #[.int .i64 by', .int .i64 bm, .int .i64 bd, .int .i64 bh, .int .i64 bi, .int .i64 bs] 28))
    clear H26
    have H31 : Hid (Blk (w10.alloc (.cells #[.int .i64 by', .int .i64 bm, .int .i64 bd, .int .i64 bh, .int .i64 bi, .int .i64 bs] 28)) w10.heap.size 28 [.int .i64 by', .int .i64 bm, .int .i64 bd, .int .i64 bh, .int .i64 bi, .int .i64 bs]) := Blk.new w10 #[.int .i64 by', .int .i64 bm, .int .i64 bd, .int .i64 bh, .int .i64 bi, .int .i64 bs] 28
    generalize w10.alloc (.cells #[.int .i64 by', .int .i64 bm, .int .i64 bd, .int .i64 bh, .int .i64 bi, .int .i64 bs] 28) = w11 at *
    clear hB10
    have qa := H27.out
    obtain ⟨qac0, qac1, qac2, qac3, qac4, qac5⟩ := cells6 (w1 := w11) (fun _ _ _ => rfl) qa
    have qal := qa.lt
    have qb := H28.out
    obtain ⟨qbc0, qbc1, qbc2, qbc3, qbc4, qbc5⟩ := cells6 (w1 := w11) (fun _ _ _ => rfl) qb
    have qbl := qb.lt
    have qc := H29.out
    obtain ⟨qcc0, qcc1, qcc2, qcc3, qcc4, qcc5⟩ := cells6 (w1 := w11) (fun _ _ _ => rfl) qc
    have qcl := qc.lt
    have qd := H30.out
    obtain ⟨qdc0, qdc1, qdc2, qdc3, qdc4, qdc5⟩ := cells6 (w1 := w11) (fun _ _ _ => rfl) qd
    have qdl := qd.lt
    have qe := H31.out
    obtain ⟨qec0, qec1, qec2, qec3, qec4, qec5⟩ := cells6 (w1 := w11) (fun _ _ _ => rfl) qe
    have qel := qe.lt
    have qbr0 := cell_regrown qbc0
    have qbr1 := cell_regrown qbc1
    have qbr2 := cell_regrown qbc2
    have qbr3 := cell_regrown qbc3
    have qbr4 := cell_regrown qbc4
    have qbr5 := cell_regrown qbc5
    have qcr0 := cell_regrown qcc0
    have qcr1 := cell_regrown qcc1
    have qcr2 := cell_regrown qcc2
    have qcr3 := cell_regrown qcc3
    have qcr4 := cell_regrown qcc4
    have qcr5 := cell_regrown qcc5
    have qdr0 := cell_regrown qdc0
    have qdr1 := cell_regrown qdc1
    have qdr2 := cell_regrown qdc2
    have qdr3 := cell_regrown qdc3
    have qdr4 := cell_regrown qdc4
    have qdr5 := cell_regrown qdc5
    have qer0 := cell_regrown qec0
    have qer1 := cell_regrown qec1
    have qer2 := cell_regrown qec2
    have qer3 := cell_regrown qec3
    have qer4 := cell_regrown qec4
    have qer5 := cell_regrown qec5
    clear qac0 qac1 qac2 qac3 qac4 qac5 qal qa
    clear qbc0 qbc1 qbc2 qbc3 qbc4 qbc5 qbl qb
    clear qcc0 qcc1 qcc2 qcc3 qcc4 qcc5 qcl qc
    clear qdc0 qdc1 qdc2 qdc3 qdc4 qdc5 qdl qd
    clear qec0 qec1 qec2 qec3 qec4 qec5 qel qe
    refine wp_region_quiet_below (by kernel_rfl) (by kernel_rfl) ?_
    repeat (quiet_step (first | ((go_at_call 12; (with_reducible exact Calls.regrown_of (C12a.out _))))| ((go_at_call 12; (with_reducible exact Calls.regrown_of (C12b.out _))))))
    refine wpQuiet_nil ?_
    intro _ hw'
    obtain ⟨⟨dq, osq⟩, hw''⟩ := hw'
    subst hw'' 
    clear qbr0 qbr1 qbr2 qbr3 qbr4 qbr5
    clear qcr0 qcr1 qcr2 qcr3 qcr4 qcr5
    clear qdr0 qdr1 qdr2 qdr3 qdr4 qdr5
    clear qer0 qer1 qer2 qer3 qer4 qer5
    have hbq := below_regrown w11 dq osq
    have hB12 := bThen hB11 hbq
    have H32 := Lib.hid (blkDown H27.out hbq)
    clear H27
    have H33 := Lib.hid (blkDown H28.out hbq)
    clear H28
    have H34 := Lib.hid (blkDown H29.out hbq)
    clear H29
    have H35 := Lib.hid (blkDown H30.out hbq)
    clear H30
    have H36 := Lib.hid (blkDown H31.out hbq)
    clear H31
    generalize grow (redrawn w11 dq) osq = w12 at *
    clear hbq hB11
    have qa := H32.out
    obtain ⟨qac0, qac1, qac2, qac3, qac4, qac5⟩ := cells6 (w1 := w12) (fun _ _ _ => rfl) qa
    have qal := qa.lt
    have qb := H33.out
    obtain ⟨qbc0, qbc1, qbc2, qbc3, qbc4, qbc5⟩ := cells6 (w1 := w12) (fun _ _ _ => rfl) qb
    have qbl := qb.lt
    have qc := H34.out
    obtain ⟨qcc0, qcc1, qcc2, qcc3, qcc4, qcc5⟩ := cells6 (w1 := w12) (fun _ _ _ => rfl) qc
    have qcl := qc.lt
    have qd := H35.out
    obtain ⟨qdc0, qdc1, qdc2, qdc3, qdc4, qdc5⟩ := cells6 (w1 := w12) (fun _ _ _ => rfl) qd
    have qdl := qd.lt
    have qe := H36.out
    obtain ⟨qec0, qec1, qec2, qec3, qec4, qec5⟩ := cells6 (w1 := w12) (fun _ _ _ => rfl) qe
    have qel := qe.lt
    go_wp2
    go_ret
    exact ⟨rfl, hB12⟩
end Go.Proofs.Ytojkkgmfccchbaa
