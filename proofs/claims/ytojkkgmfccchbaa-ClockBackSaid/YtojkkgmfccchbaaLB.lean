/- The law ClockBetween: two dates. -/
import Derived.Test.YtojkkgmfccchbaaRH
namespace Go.Proofs.Ytojkkgmfccchbaa
open Go Go.RowKit Go.Sort

theorem set6 {w : World} {g : Nat} {t : TypeId} {o0 o1 o2 o3 o4 o5 v0 v1 v2 v3 v4 v5 : Value} (h : Blk w g t [o0, o1, o2, o3, o4, o5]) :
    Blk ((((((w.setCell ⟨g, 0, none⟩ v0).setCell ⟨g, 1, none⟩ v1).setCell ⟨g, 2, none⟩ v2).setCell ⟨g, 3, none⟩ v3).setCell ⟨g, 4, none⟩ v4).setCell ⟨g, 5, none⟩ v5) g t [v0, v1, v2, v3, v4, v5] :=
  (((((h.set 0 v0).set 1 v1).set 2 v2).set 3 v3).set 4 v4).set 5 v5
theorem other6 {w : World} {g g' : Nat} {t : TypeId} {cs : List Value} (h : Blk w g t cs) (hne : g ≠ g') (v0 v1 v2 v3 v4 v5 : Value) :
    Blk ((((((w.setCell ⟨g', 0, none⟩ v0).setCell ⟨g', 1, none⟩ v1).setCell ⟨g', 2, none⟩ v2).setCell ⟨g', 3, none⟩ v3).setCell ⟨g', 4, none⟩ v4).setCell ⟨g', 5, none⟩ v5) g t cs :=
  (((((h.setOther _ v0 hne).setOther _ v1 hne).setOther _ v2 hne).setOther _ v3 hne).setOther _ v4 hne).setOther _ v5 hne
theorem below6 {w X : World} {B g : Nat} (h : Below B w X) (hg : B ≤ g) (v0 v1 v2 v3 v4 v5 : Value) :
    Below B w ((((((X.setCell ⟨g, 0, none⟩ v0).setCell ⟨g, 1, none⟩ v1).setCell ⟨g, 2, none⟩ v2).setCell ⟨g, 3, none⟩ v3).setCell ⟨g, 4, none⟩ v4).setCell ⟨g, 5, none⟩ v5) :=
  bSet (bSet (bSet (bSet (bSet (bSet h g 0 hg v0) g 1 hg v1) g 2 hg v2) g 3 hg v3) g 4 hg v4) g 5 hg v5
/-- what Between and the two ways of adding tell -/
theorem bt_law {a b : Dt} (he : (beN a b).e = 0) : ∃ (N c : Int) (X Y : Dt), beN a b = ⟨N / 12, N % 12, c, 0⟩ ∧ 0 ≤ N ∧ N ≤ 100000 ∧ 0 ≤ c ∧ c ≤ 31 ∧ amN a N = (X, 0) ∧ adN X c = (Y, 0) ∧ ((momN Y).2 = 0 → (momN b).2 = 0 → (momN Y).1 ≤ (momN b).1 ∧ (momN b).1 - (momN Y).1 < 86400) ∧ -100000000000 ≤ (momN Y).1 ∧ (momN Y).1 ≤ 100000000000 ∧ -100000000000 ≤ (momN b).1 ∧ (momN b).1 ≤ 100000000000 := by
  by_cases h : a.ok = true ∧ b.ok = true ∧ a.sec ≤ b.sec
  · obtain ⟨f1, f2, f3, f4, f5, f6, _⟩ := bm_facts h.1 h.2.1 h.2.2
    have hX : inB (lat_ a (bmN a b)).y (-2000) 6000 = true := inB_t f5 f6
    have hXok := lat_okk h.1 hX
    have hc0 : 0 ≤ (b.sec - (lat_ a (bmN a b)).sec) / 86400 := Int.ediv_nonneg (by omega) (by decide)
    have hY : inB (at_ ((lat_ a (bmN a b)).sec + (b.sec - (lat_ a (bmN a b)).sec) / 86400 * 86400)).y (-2000) 6000 = true := by
      have n1 := ok_num hXok
      have n2 := ok_num h.2.1
      have s1 := sec_num (lat_ a (bmN a b))
      have s2 := sec_num b
      have g1 := (ok_facts hXok).2.2.2
      have g2 := (ok_facts h.2.1).2.2.2
      generalize (lat_ a (bmN a b)).sec = L at *
      generalize b.sec = B at *
      refine inB_iff.2 (yr_in ?_ ?_)
      · rw [show dby (-2000) = -730485 by decide]; unfold dayOf; omega
      · rw [show dby 6001 = 2191821 by decide]; unfold dayOf; omega
    refine ⟨bmN a b, (b.sec - (lat_ a (bmN a b)).sec) / 86400, lat_ a (bmN a b), at_ ((lat_ a (bmN a b)).sec + (b.sec - (lat_ a (bmN a b)).sec) / 86400 * 86400), ?_, f1, f2, hc0, f4, ?_, ?_, ?_, ?_⟩
    · unfold beN; rw [if_pos h]
    · unfold amN inY; rw [if_pos ⟨h.1, inB_t (by omega) (by omega)⟩, if_pos hX]
    · unfold adN inY; rw [if_pos ⟨hXok, inB_t (by omega) (by omega)⟩, if_pos hY]
    · have e2 : momN b = if isMo b.sec = true then (b.sec, 0) else (0, 5) := by unfold momN; rw [if_pos h.2.1]
      have e1 : momN (at_ ((lat_ a (bmN a b)).sec + (b.sec - (lat_ a (bmN a b)).sec) / 86400 * 86400)) = if isMo ((lat_ a (bmN a b)).sec + (b.sec - (lat_ a (bmN a b)).sec) / 86400 * 86400) = true then ((lat_ a (bmN a b)).sec + (b.sec - (lat_ a (bmN a b)).sec) / 86400 * 86400, 0) else (0, 5) := by
        unfold momN; rw [if_pos (at_ok _ hY), at_sec]
      rw [e1, e2]
      intro h1 h2
      by_cases g1 : isMo ((lat_ a (bmN a b)).sec + (b.sec - (lat_ a (bmN a b)).sec) / 86400 * 86400) = true
      · by_cases g2 : isMo b.sec = true
        · rw [if_pos g1, if_pos g2]
          show _ ≤ b.sec ∧ b.sec - _ < 86400
          constructor
          · show (lat_ a (bmN a b)).sec + (b.sec - (lat_ a (bmN a b)).sec) / 86400 * 86400 ≤ b.sec
            omega
          · show b.sec - ((lat_ a (bmN a b)).sec + (b.sec - (lat_ a (bmN a b)).sec) / 86400 * 86400) < 86400
            omega
        · rw [if_neg g2] at h2; cases h2
      · rw [if_neg g1] at h1; cases h1
    · have key : ∀ x : Dt, -100000000000 ≤ (momN x).1 ∧ (momN x).1 ≤ 100000000000 := by
        intro x
        unfold momN
        split
        · split
          · rename_i g
            exact inB_iff.1 g
          · exact ⟨by decide, by decide⟩
        · exact ⟨by decide, by decide⟩
      exact ⟨(key _).1, (key _).2, (key _).1, (key _).2⟩
  · exfalso
    unfold beN at he
    rw [if_neg h] at he
    cases he
set_option maxRecDepth 100000 in
set_option maxHeartbeats 8000000 in
theorem t22 (a b : Dt) (w : World) : Calls Try.prog 22 #[a.v, b.v] w fun e w' => e = .returned (.bool true) ∧ Below w.heap.size w w' := by
  have C48 := Lib.hid (t48 a b)
  have C49 := Lib.hid (t49 a b)
  have C12a := Lib.hid (t12 a)
  have C12b := Lib.hid (t12 b)
  by_cases he : (beN a b).e = 0
  · obtain ⟨N, c, X, Y, hbe, n1, n2, c1, c2, hX, hY, hm, m1, m2, m3, m4⟩ := bt_law he
    have c45 := t45 a N
    have c30 := t30 X c
    rw [hX] at c45
    rw [hY] at c30
    have c48 := C48.out
    have c49 := C49.out
    rw [hbe] at c48 c49
    clear C48 C49 hX hY hbe he
    have C48 := Lib.hid c48
    have C49 := Lib.hid c49
    have C45 := Lib.hid c45
    have C30 := Lib.hid c30
    have C30' := Lib.hid (t30 Y 1)
    have C12y := Lib.hid (t12 Y)
    have C50y := Lib.hid (t50 Y)
    have C50b := Lib.hid (t50 b)
    clear c48 c49 c45 c30
    have HN : Hid (12 * (N / 12) + N % 12 = N) := by show _ = _; omega
    have d1 : 0 ≤ N / 12 := by omega
    have d2 : N / 12 ≤ 100000 := by omega
    have d3 : 0 ≤ N % 12 := by omega
    have d4 : N % 12 ≤ 11 := by omega
    generalize N / 12 = N1 at *
    generalize N % 12 = N2 at *
    generalize momN Y = P at *
    generalize momN b = Q at *
    generalize adN Y 1 = R at *
    obtain ⟨p1, p2⟩ := P
    obtain ⟨q1, q2⟩ := Q
    obtain ⟨⟨ry, rm, rd, rh, ri, rs⟩, er⟩ := R
    obtain ⟨y, m, d, h, i, s⟩ := a
    obtain ⟨y', m', d', h', i', s'⟩ := b
    obtain ⟨xy, xm, xd, xh, xi, xs⟩ := X
    obtain ⟨zy, zm, zd, zh, zi, zs⟩ := Y
    dsimp only at *
    by_cases hp : p2 = 0
    · by_cases hq : q2 = 0
      · by_cases hr : er = 0
        · obtain ⟨l1, l2⟩ := hm hp hq
          subst hp hq hr
          clear hm
          have hB0 : Below w.heap.size w w := Below.refl _ _
          go_enter Try.func22, Try.ntmps22
          go_wp2_with fail
          have hB1 : Below w.heap.size w ((w.alloc (.cells #[.int .i64 y, .int .i64 m, .int .i64 d, .int .i64 h, .int .i64 i, .int .i64 s] 24)).alloc (.cells #[.int .i64 y', .int .i64 m', .int .i64 d', .int .i64 h', .int .i64 i', .int .i64 s'] 24)) := bAl (bSelf w _) _
          have H1 : Hid (Blk ((w.alloc (.cells #[.int .i64 y, .int .i64 m, .int .i64 d, .int .i64 h, .int .i64 i, .int .i64 s] 24)).alloc (.cells #[.int .i64 y', .int .i64 m', .int .i64 d', .int .i64 h', .int .i64 i', .int .i64 s'] 24)) w.heap.size 24 [.int .i64 y, .int .i64 m, .int .i64 d, .int .i64 h, .int .i64 i, .int .i64 s]) := (Blk.new w _ _).alloc _
          have H2 : Hid (Blk ((w.alloc (.cells #[.int .i64 y, .int .i64 m, .int .i64 d, .int .i64 h, .int .i64 i, .int .i64 s] 24)).alloc (.cells #[.int .i64 y', .int .i64 m', .int .i64 d', .int .i64 h', .int .i64 i', .int .i64 s'] 24)) (w.heap.size + 1) 24 [.int .i64 y', .int .i64 m', .int .i64 d', .int .i64 h', .int .i64 i', .int .i64 s']) := newAt _ _ _ _ _ (by simp) rfl
          generalize (w.alloc (.cells #[.int .i64 y, .int .i64 m, .int .i64 d, .int .i64 h, .int .i64 i, .int .i64 s] 24)).alloc (.cells #[.int .i64 y', .int .i64 m', .int .i64 d', .int .i64 h', .int .i64 i', .int .i64 s'] 24) = w1 at *
          clear hB0
          go_wp2_with fail
          refine (C48.out _).mono ?_
          rintro e w2 ⟨rfl, hb2⟩
          have hB2 := bThen hB1 hb2
          have H3 := Lib.hid (blkDown H1.out hb2)
          clear H1
          have H4 := Lib.hid (blkDown H2.out hb2)
          clear H2
          clear hb2 hB1
          have qa := H3.out
          obtain ⟨qac0, qac1, qac2, qac3, qac4, qac5⟩ := cells6 (w1 := w2) (fun _ _ _ => rfl) qa
          have qal := qa.lt
          have qb := H4.out
          obtain ⟨qbc0, qbc1, qbc2, qbc3, qbc4, qbc5⟩ := cells6 (w1 := w2) (fun _ _ _ => rfl) qb
          have qbl := qb.lt
          go_wp2_with fail
          have qa := H3.out
          obtain ⟨qac0, qac1, qac2, qac3, qac4, qac5⟩ := cells6 (w1 := w2) (fun _ _ _ => rfl) qa
          have qal := qa.lt
          have qb := H4.out
          obtain ⟨qbc0, qbc1, qbc2, qbc3, qbc4, qbc5⟩ := cells6 (w1 := w2) (fun _ _ _ => rfl) qb
          have qbl := qb.lt
          have qar0 := cell_regrown qac0
          have qar1 := cell_regrown qac1
          have qar2 := cell_regrown qac2
          have qar3 := cell_regrown qac3
          have qar4 := cell_regrown qac4
          have qar5 := cell_regrown qac5
          have qbr0 := cell_regrown qbc0
          have qbr1 := cell_regrown qbc1
          have qbr2 := cell_regrown qbc2
          have qbr3 := cell_regrown qbc3
          have qbr4 := cell_regrown qbc4
          have qbr5 := cell_regrown qbc5
          clear qac0 qac1 qac2 qac3 qac4 qac5 qal qa
          clear qbc0 qbc1 qbc2 qbc3 qbc4 qbc5 qbl qb
          refine wp_region_quiet_below (by kernel_rfl) (by kernel_rfl) ?_
          repeat (quiet_step (first | ((go_at_call 12; (with_reducible exact Calls.regrown_of (C12a.out _))))| ((go_at_call 12; (with_reducible exact Calls.regrown_of (C12b.out _))))| ((go_at_call 49; (with_reducible exact Calls.regrown_of (C49.out _))))))
          refine wpQuiet_nil ?_
          intro _ hw'
          obtain ⟨⟨dq, osq⟩, hw''⟩ := hw'
          subst hw'' 
          clear qar0 qar1 qar2 qar3 qar4 qar5
          clear qbr0 qbr1 qbr2 qbr3 qbr4 qbr5
          have hbq := below_regrown w2 dq osq
          have hB3 := bThen hB2 hbq
          have H5 := Lib.hid (blkDown H3.out hbq)
          clear H3
          have H6 := Lib.hid (blkDown H4.out hbq)
          clear H4
          generalize grow (redrawn w2 dq) osq = w3 at *
          clear hbq hB2
          have qa := H5.out
          obtain ⟨qac0, qac1, qac2, qac3, qac4, qac5⟩ := cells6 (w1 := w3) (fun _ _ _ => rfl) qa
          have qal := qa.lt
          have qb := H6.out
          obtain ⟨qbc0, qbc1, qbc2, qbc3, qbc4, qbc5⟩ := cells6 (w1 := w3) (fun _ _ _ => rfl) qb
          have qbl := qb.lt
          have hN := HN.out
          go_wp2_with fail
          clear hN
          go_wp2_with fail
          clear qac0 qac1 qac2 qac3 qac4 qac5 qal qa
          clear qbc0 qbc1 qbc2 qbc3 qbc4 qbc5 qbl qb
          refine (C45.out _).mono ?_
          rintro e w4 ⟨rfl, hb4⟩
          have hB4 := bThen hB3 hb4
          have H7 := Lib.hid (blkDown H5.out hb4)
          clear H5
          have H8 := Lib.hid (blkDown H6.out hb4)
          clear H6
          clear hb4 hB3
          have qa := H7.out
          obtain ⟨qac0, qac1, qac2, qac3, qac4, qac5⟩ := cells6 (w1 := w4) (fun _ _ _ => rfl) qa
          have qal := qa.lt
          have qb := H8.out
          obtain ⟨qbc0, qbc1, qbc2, qbc3, qbc4, qbc5⟩ := cells6 (w1 := w4) (fun _ _ _ => rfl) qb
          have qbl := qb.lt
          have sa := qal
          have sb := qbl
          go_wp2_with fail
          clear qac0 qac1 qac2 qac3 qac4 qac5 qal qa
          clear qbc0 qbc1 qbc2 qbc3 qbc4 qbc5 qbl qb
          have hB5 := bAl hB4 (.cells #[.int .i64 xy, .int .i64 xm, .int .i64 xd, .int .i64 xh, .int .i64 xi, .int .i64 xs] 24)
          have H9 := Lib.hid (H7.out.alloc (.cells #[.int .i64 xy, .int .i64 xm, .int .i64 xd, .int .i64 xh, .int .i64 xi, .int .i64 xs] 24))
          clear H7
          have H10 := Lib.hid (H8.out.alloc (.cells #[.int .i64 xy, .int .i64 xm, .int .i64 xd, .int .i64 xh, .int .i64 xi, .int .i64 xs] 24))
          clear H8
          have H11 : Hid (Blk (w4.alloc (.cells #[.int .i64 xy, .int .i64 xm, .int .i64 xd, .int .i64 xh, .int .i64 xi, .int .i64 xs] 24)) w4.heap.size 24 [.int .i64 xy, .int .i64 xm, .int .i64 xd, .int .i64 xh, .int .i64 xi, .int .i64 xs]) := Blk.new w4 #[.int .i64 xy, .int .i64 xm, .int .i64 xd, .int .i64 xh, .int .i64 xi, .int .i64 xs] 24
          generalize w4.alloc (.cells #[.int .i64 xy, .int .i64 xm, .int .i64 xd, .int .i64 xh, .int .i64 xi, .int .i64 xs] 24) = w5 at *
          clear hB4
          go_wp2_with fail
          refine (C30.out _).mono ?_
          rintro e w6 ⟨rfl, hb6⟩
          have hB6 := bThen hB5 hb6
          have H12 := Lib.hid (blkDown H9.out hb6)
          clear H9
          have H13 := Lib.hid (blkDown H10.out hb6)
          clear H10
          have H14 := Lib.hid (blkDown H11.out hb6)
          clear H11
          clear hb6 hB5
          have qa := H12.out
          obtain ⟨qac0, qac1, qac2, qac3, qac4, qac5⟩ := cells6 (w1 := w6) (fun _ _ _ => rfl) qa
          have qal := qa.lt
          have qb := H13.out
          obtain ⟨qbc0, qbc1, qbc2, qbc3, qbc4, qbc5⟩ := cells6 (w1 := w6) (fun _ _ _ => rfl) qb
          have qbl := qb.lt
          have qc := H14.out
          obtain ⟨qcc0, qcc1, qcc2, qcc3, qcc4, qcc5⟩ := cells6 (w1 := w6) (fun _ _ _ => rfl) qc
          have qcl := qc.lt
          have qf0 := H14.out.free 0
          have qf1 := H14.out.free 1
          have qf2 := H14.out.free 2
          have qf3 := H14.out.free 3
          have qf4 := H14.out.free 4
          have qf5 := H14.out.free 5
          have ha1 := qal
          have ha2 := qbl
          have ha3 := qcl
          go_wp2_with fail
          clear qac0 qac1 qac2 qac3 qac4 qac5 qal qa
          clear qbc0 qbc1 qbc2 qbc3 qbc4 qbc5 qbl qb
          clear qcc0 qcc1 qcc2 qcc3 qcc4 qcc5 qcl qc
          clear qf0 qf1 qf2 qf3 qf4 qf5
          have hB7 := below6 (g := w4.heap.size) hB6 (by omega) (.int .i64 zy) (.int .i64 zm) (.int .i64 zd) (.int .i64 zh) (.int .i64 zi) (.int .i64 zs)
          have H15 := Lib.hid (other6 H12.out (g' := w4.heap.size) (by omega) (.int .i64 zy) (.int .i64 zm) (.int .i64 zd) (.int .i64 zh) (.int .i64 zi) (.int .i64 zs))
          clear H12
          have H16 := Lib.hid (other6 H13.out (g' := w4.heap.size) (by omega) (.int .i64 zy) (.int .i64 zm) (.int .i64 zd) (.int .i64 zh) (.int .i64 zi) (.int .i64 zs))
          clear H13
          have H17 : Hid (Blk (((((((w6.setCell ⟨w4.heap.size, 0, none⟩ (.int .i64 zy)).setCell ⟨w4.heap.size, 1, none⟩ (.int .i64 zm)).setCell ⟨w4.heap.size, 2, none⟩ (.int .i64 zd)).setCell ⟨w4.heap.size, 3, none⟩ (.int .i64 zh)).setCell ⟨w4.heap.size, 4, none⟩ (.int .i64 zi)).setCell ⟨w4.heap.size, 5, none⟩ (.int .i64 zs))) w4.heap.size 24 [.int .i64 zy, .int .i64 zm, .int .i64 zd, .int .i64 zh, .int .i64 zi, .int .i64 zs]) := set6 H14.out
          clear H14
          generalize ((((((w6.setCell ⟨w4.heap.size, 0, none⟩ (.int .i64 zy)).setCell ⟨w4.heap.size, 1, none⟩ (.int .i64 zm)).setCell ⟨w4.heap.size, 2, none⟩ (.int .i64 zd)).setCell ⟨w4.heap.size, 3, none⟩ (.int .i64 zh)).setCell ⟨w4.heap.size, 4, none⟩ (.int .i64 zi)).setCell ⟨w4.heap.size, 5, none⟩ (.int .i64 zs)) = w7 at *
          clear hB6 ha1 ha2 ha3
          go_wp2_with fail
          refine (C30'.out _).mono ?_
          rintro e w8 ⟨rfl, hb8⟩
          have hB8 := bThen hB7 hb8
          have H18 := Lib.hid (blkDown H15.out hb8)
          clear H15
          have H19 := Lib.hid (blkDown H16.out hb8)
          clear H16
          have H20 := Lib.hid (blkDown H17.out hb8)
          clear H17
          clear hb8 hB7
          have qa := H18.out
          obtain ⟨qac0, qac1, qac2, qac3, qac4, qac5⟩ := cells6 (w1 := w8) (fun _ _ _ => rfl) qa
          have qal := qa.lt
          have qb := H19.out
          obtain ⟨qbc0, qbc1, qbc2, qbc3, qbc4, qbc5⟩ := cells6 (w1 := w8) (fun _ _ _ => rfl) qb
          have qbl := qb.lt
          have qc := H20.out
          obtain ⟨qcc0, qcc1, qcc2, qcc3, qcc4, qcc5⟩ := cells6 (w1 := w8) (fun _ _ _ => rfl) qc
          have qcl := qc.lt
          go_wp2_with fail
          clear qac0 qac1 qac2 qac3 qac4 qac5 qal qa
          clear qbc0 qbc1 qbc2 qbc3 qbc4 qbc5 qbl qb
          clear qcc0 qcc1 qcc2 qcc3 qcc4 qcc5 qcl qc
          have hB9 := bAl hB8 (.cells #[.int .i64 ry, .int .i64 rm, .int .i64 rd, .int .i64 rh, .int .i64 ri, .int .i64 rs] 24)
          have H21 := Lib.hid (H18.out.alloc (.cells #[.int .i64 ry, .int .i64 rm, .int .i64 rd, .int .i64 rh, .int .i64 ri, .int .i64 rs] 24))
          clear H18
          have H22 := Lib.hid (H19.out.alloc (.cells #[.int .i64 ry, .int .i64 rm, .int .i64 rd, .int .i64 rh, .int .i64 ri, .int .i64 rs] 24))
          clear H19
          have H23 := Lib.hid (H20.out.alloc (.cells #[.int .i64 ry, .int .i64 rm, .int .i64 rd, .int .i64 rh, .int .i64 ri, .int .i64 rs] 24))
          clear H20
          have H24 : Hid (Blk (w8.alloc (.cells #[.int .i64 ry, .int .i64 rm, .int .i64 rd, .int .i64 rh, .int .i64 ri, .int .i64 rs] 24)) w8.heap.size 24 [.int .i64 ry, .int .i64 rm, .int .i64 rd, .int .i64 rh, .int .i64 ri, .int .i64 rs]) := Blk.new w8 #[.int .i64 ry, .int .i64 rm, .int .i64 rd, .int .i64 rh, .int .i64 ri, .int .i64 rs] 24
          generalize w8.alloc (.cells #[.int .i64 ry, .int .i64 rm, .int .i64 rd, .int .i64 rh, .int .i64 ri, .int .i64 rs] 24) = w9 at *
          clear hB8
          have qa := H21.out
          obtain ⟨qac0, qac1, qac2, qac3, qac4, qac5⟩ := cells6 (w1 := w9) (fun _ _ _ => rfl) qa
          have qal := qa.lt
          have qb := H22.out
          obtain ⟨qbc0, qbc1, qbc2, qbc3, qbc4, qbc5⟩ := cells6 (w1 := w9) (fun _ _ _ => rfl) qb
          have qbl := qb.lt
          have qc := H23.out
          obtain ⟨qcc0, qcc1, qcc2, qcc3, qcc4, qcc5⟩ := cells6 (w1 := w9) (fun _ _ _ => rfl) qc
          have qcl := qc.lt
          have qd := H24.out
          obtain ⟨qdc0, qdc1, qdc2, qdc3, qdc4, qdc5⟩ := cells6 (w1 := w9) (fun _ _ _ => rfl) qd
          have qdl := qd.lt
          go_wp2_with fail
          clear qac0 qac1 qac2 qac3 qac4 qac5 qal qa
          clear qbc0 qbc1 qbc2 qbc3 qbc4 qbc5 qbl qb
          clear qcc0 qcc1 qcc2 qcc3 qcc4 qcc5 qcl qc
          clear qdc0 qdc1 qdc2 qdc3 qdc4 qdc5 qdl qd
          refine (C12y.out _).mono ?_
          rintro e w10 ⟨rfl, hb10⟩
          have hB10 := bThen hB9 hb10
          have H25 := Lib.hid (blkDown H21.out hb10)
          clear H21
          have H26 := Lib.hid (blkDown H22.out hb10)
          clear H22
          have H27 := Lib.hid (blkDown H23.out hb10)
          clear H23
          have H28 := Lib.hid (blkDown H24.out hb10)
          clear H24
          clear hb10 hB9
          have qa := H25.out
          obtain ⟨qac0, qac1, qac2, qac3, qac4, qac5⟩ := cells6 (w1 := w10) (fun _ _ _ => rfl) qa
          have qal := qa.lt
          have qb := H26.out
          obtain ⟨qbc0, qbc1, qbc2, qbc3, qbc4, qbc5⟩ := cells6 (w1 := w10) (fun _ _ _ => rfl) qb
          have qbl := qb.lt
          have qc := H27.out
          obtain ⟨qcc0, qcc1, qcc2, qcc3, qcc4, qcc5⟩ := cells6 (w1 := w10) (fun _ _ _ => rfl) qc
          have qcl := qc.lt
          have qd := H28.out
          obtain ⟨qdc0, qdc1, qdc2, qdc3, qdc4, qdc5⟩ := cells6 (w1 := w10) (fun _ _ _ => rfl) qd
          have qdl := qd.lt
          go_wp2_with fail
          clear qac0 qac1 qac2 qac3 qac4 qac5 qal qa
          clear qbc0 qbc1 qbc2 qbc3 qbc4 qbc5 qbl qb
          clear qcc0 qcc1 qcc2 qcc3 qcc4 qcc5 qcl qc
          clear qdc0 qdc1 qdc2 qdc3 qdc4 qdc5 qdl qd
          refine (C50y.out _).mono ?_
          rintro e w11 ⟨rfl, hb11⟩
          have hB11 := bThen hB10 hb11
          have H29 := Lib.hid (blkDown H25.out hb11)
          clear H25
          have H30 := Lib.hid (blkDown H26.out hb11)
          clear H26
          have H31 := Lib.hid (blkDown H27.out hb11)
          clear H27
          have H32 := Lib.hid (blkDown H28.out hb11)
          clear H28
          clear hb11 hB10
          have qa := H29.out
          obtain ⟨qac0, qac1, qac2, qac3, qac4, qac5⟩ := cells6 (w1 := w11) (fun _ _ _ => rfl) qa
          have qal := qa.lt
          have qb := H30.out
          obtain ⟨qbc0, qbc1, qbc2, qbc3, qbc4, qbc5⟩ := cells6 (w1 := w11) (fun _ _ _ => rfl) qb
          have qbl := qb.lt
          have qc := H31.out
          obtain ⟨qcc0, qcc1, qcc2, qcc3, qcc4, qcc5⟩ := cells6 (w1 := w11) (fun _ _ _ => rfl) qc
          have qcl := qc.lt
          have qd := H32.out
          obtain ⟨qdc0, qdc1, qdc2, qdc3, qdc4, qdc5⟩ := cells6 (w1 := w11) (fun _ _ _ => rfl) qd
          have qdl := qd.lt
          go_wp2_with fail
          clear qac0 qac1 qac2 qac3 qac4 qac5 qal qa
          clear qbc0 qbc1 qbc2 qbc3 qbc4 qbc5 qbl qb
          clear qcc0 qcc1 qcc2 qcc3 qcc4 qcc5 qcl qc
          clear qdc0 qdc1 qdc2 qdc3 qdc4 qdc5 qdl qd
          refine (C12b.out _).mono ?_
          rintro e w12 ⟨rfl, hb12⟩
          have hB12 := bThen hB11 hb12
          have H33 := Lib.hid (blkDown H29.out hb12)
          clear H29
          have H34 := Lib.hid (blkDown H30.out hb12)
          clear H30
          have H35 := Lib.hid (blkDown H31.out hb12)
          clear H31
          have H36 := Lib.hid (blkDown H32.out hb12)
          clear H32
          clear hb12 hB11
          have qa := H33.out
          obtain ⟨qac0, qac1, qac2, qac3, qac4, qac5⟩ := cells6 (w1 := w12) (fun _ _ _ => rfl) qa
          have qal := qa.lt
          have qb := H34.out
          obtain ⟨qbc0, qbc1, qbc2, qbc3, qbc4, qbc5⟩ := cells6 (w1 := w12) (fun _ _ _ => rfl) qb
          have qbl := qb.lt
          have qc := H35.out
          obtain ⟨qcc0, qcc1, qcc2, qcc3, qcc4, qcc5⟩ := cells6 (w1 := w12) (fun _ _ _ => rfl) qc
          have qcl := qc.lt
          have qd := H36.out
          obtain ⟨qdc0, qdc1, qdc2, qdc3, qdc4, qdc5⟩ := cells6 (w1 := w12) (fun _ _ _ => rfl) qd
          have qdl := qd.lt
          go_wp2_with fail
          clear qac0 qac1 qac2 qac3 qac4 qac5 qal qa
          clear qbc0 qbc1 qbc2 qbc3 qbc4 qbc5 qbl qb
          clear qcc0 qcc1 qcc2 qcc3 qcc4 qcc5 qcl qc
          clear qdc0 qdc1 qdc2 qdc3 qdc4 qdc5 qdl qd
          refine (C50b.out _).mono ?_
          rintro e w13 ⟨rfl, hb13⟩
          have hB13 := bThen hB12 hb13
          have H37 := Lib.hid (blkDown H33.out hb13)
          clear H33
          have H38 := Lib.hid (blkDown H34.out hb13)
          clear H34
          have H39 := Lib.hid (blkDown H35.out hb13)
          clear H35
          have H40 := Lib.hid (blkDown H36.out hb13)
          clear H36
          clear hb13 hB12
          have qa := H37.out
          obtain ⟨qac0, qac1, qac2, qac3, qac4, qac5⟩ := cells6 (w1 := w13) (fun _ _ _ => rfl) qa
          have qal := qa.lt
          have qb := H38.out
          obtain ⟨qbc0, qbc1, qbc2, qbc3, qbc4, qbc5⟩ := cells6 (w1 := w13) (fun _ _ _ => rfl) qb
          have qbl := qb.lt
          have qc := H39.out
          obtain ⟨qcc0, qcc1, qcc2, qcc3, qcc4, qcc5⟩ := cells6 (w1 := w13) (fun _ _ _ => rfl) qc
          have qcl := qc.lt
          have qd := H40.out
          obtain ⟨qdc0, qdc1, qdc2, qdc3, qdc4, qdc5⟩ := cells6 (w1 := w13) (fun _ _ _ => rfl) qd
          have qdl := qd.lt
          go_wp2
          go_ret
          exact ⟨rfl, hB13⟩
        · have br : (er != 0) = true := by simpa using hr
          subst hp hq
          clear hr hm
          have hB0 : Below w.heap.size w w := Below.refl _ _
          go_enter Try.func22, Try.ntmps22
          go_wp2_with fail
          have hB1 : Below w.heap.size w ((w.alloc (.cells #[.int .i64 y, .int .i64 m, .int .i64 d, .int .i64 h, .int .i64 i, .int .i64 s] 24)).alloc (.cells #[.int .i64 y', .int .i64 m', .int .i64 d', .int .i64 h', .int .i64 i', .int .i64 s'] 24)) := bAl (bSelf w _) _
          have H1 : Hid (Blk ((w.alloc (.cells #[.int .i64 y, .int .i64 m, .int .i64 d, .int .i64 h, .int .i64 i, .int .i64 s] 24)).alloc (.cells #[.int .i64 y', .int .i64 m', .int .i64 d', .int .i64 h', .int .i64 i', .int .i64 s'] 24)) w.heap.size 24 [.int .i64 y, .int .i64 m, .int .i64 d, .int .i64 h, .int .i64 i, .int .i64 s]) := (Blk.new w _ _).alloc _
          have H2 : Hid (Blk ((w.alloc (.cells #[.int .i64 y, .int .i64 m, .int .i64 d, .int .i64 h, .int .i64 i, .int .i64 s] 24)).alloc (.cells #[.int .i64 y', .int .i64 m', .int .i64 d', .int .i64 h', .int .i64 i', .int .i64 s'] 24)) (w.heap.size + 1) 24 [.int .i64 y', .int .i64 m', .int .i64 d', .int .i64 h', .int .i64 i', .int .i64 s']) := newAt _ _ _ _ _ (by simp) rfl
          generalize (w.alloc (.cells #[.int .i64 y, .int .i64 m, .int .i64 d, .int .i64 h, .int .i64 i, .int .i64 s] 24)).alloc (.cells #[.int .i64 y', .int .i64 m', .int .i64 d', .int .i64 h', .int .i64 i', .int .i64 s'] 24) = w1 at *
          clear hB0
          go_wp2_with fail
          refine (C48.out _).mono ?_
          rintro e w2 ⟨rfl, hb2⟩
          have hB2 := bThen hB1 hb2
          have H3 := Lib.hid (blkDown H1.out hb2)
          clear H1
          have H4 := Lib.hid (blkDown H2.out hb2)
          clear H2
          clear hb2 hB1
          have qa := H3.out
          obtain ⟨qac0, qac1, qac2, qac3, qac4, qac5⟩ := cells6 (w1 := w2) (fun _ _ _ => rfl) qa
          have qal := qa.lt
          have qb := H4.out
          obtain ⟨qbc0, qbc1, qbc2, qbc3, qbc4, qbc5⟩ := cells6 (w1 := w2) (fun _ _ _ => rfl) qb
          have qbl := qb.lt
          go_wp2_with fail
          have qa := H3.out
          obtain ⟨qac0, qac1, qac2, qac3, qac4, qac5⟩ := cells6 (w1 := w2) (fun _ _ _ => rfl) qa
          have qal := qa.lt
          have qb := H4.out
          obtain ⟨qbc0, qbc1, qbc2, qbc3, qbc4, qbc5⟩ := cells6 (w1 := w2) (fun _ _ _ => rfl) qb
          have qbl := qb.lt
          have qar0 := cell_regrown qac0
          have qar1 := cell_regrown qac1
          have qar2 := cell_regrown qac2
          have qar3 := cell_regrown qac3
          have qar4 := cell_regrown qac4
          have qar5 := cell_regrown qac5
          have qbr0 := cell_regrown qbc0
          have qbr1 := cell_regrown qbc1
          have qbr2 := cell_regrown qbc2
          have qbr3 := cell_regrown qbc3
          have qbr4 := cell_regrown qbc4
          have qbr5 := cell_regrown qbc5
          clear qac0 qac1 qac2 qac3 qac4 qac5 qal qa
          clear qbc0 qbc1 qbc2 qbc3 qbc4 qbc5 qbl qb
          refine wp_region_quiet_below (by kernel_rfl) (by kernel_rfl) ?_
          repeat (quiet_step (first | ((go_at_call 12; (with_reducible exact Calls.regrown_of (C12a.out _))))| ((go_at_call 12; (with_reducible exact Calls.regrown_of (C12b.out _))))| ((go_at_call 49; (with_reducible exact Calls.regrown_of (C49.out _))))))
          refine wpQuiet_nil ?_
          intro _ hw'
          obtain ⟨⟨dq, osq⟩, hw''⟩ := hw'
          subst hw'' 
          clear qar0 qar1 qar2 qar3 qar4 qar5
          clear qbr0 qbr1 qbr2 qbr3 qbr4 qbr5
          have hbq := below_regrown w2 dq osq
          have hB3 := bThen hB2 hbq
          have H5 := Lib.hid (blkDown H3.out hbq)
          clear H3
          have H6 := Lib.hid (blkDown H4.out hbq)
          clear H4
          generalize grow (redrawn w2 dq) osq = w3 at *
          clear hbq hB2
          have qa := H5.out
          obtain ⟨qac0, qac1, qac2, qac3, qac4, qac5⟩ := cells6 (w1 := w3) (fun _ _ _ => rfl) qa
          have qal := qa.lt
          have qb := H6.out
          obtain ⟨qbc0, qbc1, qbc2, qbc3, qbc4, qbc5⟩ := cells6 (w1 := w3) (fun _ _ _ => rfl) qb
          have qbl := qb.lt
          have hN := HN.out
          go_wp2_with fail
          clear hN
          go_wp2_with fail
          clear qac0 qac1 qac2 qac3 qac4 qac5 qal qa
          clear qbc0 qbc1 qbc2 qbc3 qbc4 qbc5 qbl qb
          refine (C45.out _).mono ?_
          rintro e w4 ⟨rfl, hb4⟩
          have hB4 := bThen hB3 hb4
          have H7 := Lib.hid (blkDown H5.out hb4)
          clear H5
          have H8 := Lib.hid (blkDown H6.out hb4)
          clear H6
          clear hb4 hB3
          have qa := H7.out
          obtain ⟨qac0, qac1, qac2, qac3, qac4, qac5⟩ := cells6 (w1 := w4) (fun _ _ _ => rfl) qa
          have qal := qa.lt
          have qb := H8.out
          obtain ⟨qbc0, qbc1, qbc2, qbc3, qbc4, qbc5⟩ := cells6 (w1 := w4) (fun _ _ _ => rfl) qb
          have qbl := qb.lt
          have sa := qal
          have sb := qbl
          go_wp2_with fail
          clear qac0 qac1 qac2 qac3 qac4 qac5 qal qa
          clear qbc0 qbc1 qbc2 qbc3 qbc4 qbc5 qbl qb
          have hB5 := bAl hB4 (.cells #[.int .i64 xy, .int .i64 xm, .int .i64 xd, .int .i64 xh, .int .i64 xi, .int .i64 xs] 24)
          have H9 := Lib.hid (H7.out.alloc (.cells #[.int .i64 xy, .int .i64 xm, .int .i64 xd, .int .i64 xh, .int .i64 xi, .int .i64 xs] 24))
          clear H7
          have H10 := Lib.hid (H8.out.alloc (.cells #[.int .i64 xy, .int .i64 xm, .int .i64 xd, .int .i64 xh, .int .i64 xi, .int .i64 xs] 24))
          clear H8
          have H11 : Hid (Blk (w4.alloc (.cells #[.int .i64 xy, .int .i64 xm, .int .i64 xd, .int .i64 xh, .int .i64 xi, .int .i64 xs] 24)) w4.heap.size 24 [.int .i64 xy, .int .i64 xm, .int .i64 xd, .int .i64 xh, .int .i64 xi, .int .i64 xs]) := Blk.new w4 #[.int .i64 xy, .int .i64 xm, .int .i64 xd, .int .i64 xh, .int .i64 xi, .int .i64 xs] 24
          generalize w4.alloc (.cells #[.int .i64 xy, .int .i64 xm, .int .i64 xd, .int .i64 xh, .int .i64 xi, .int .i64 xs] 24) = w5 at *
          clear hB4
          go_wp2_with fail
          refine (C30.out _).mono ?_
          rintro e w6 ⟨rfl, hb6⟩
          have hB6 := bThen hB5 hb6
          have H12 := Lib.hid (blkDown H9.out hb6)
          clear H9
          have H13 := Lib.hid (blkDown H10.out hb6)
          clear H10
          have H14 := Lib.hid (blkDown H11.out hb6)
          clear H11
          clear hb6 hB5
          have qa := H12.out
          obtain ⟨qac0, qac1, qac2, qac3, qac4, qac5⟩ := cells6 (w1 := w6) (fun _ _ _ => rfl) qa
          have qal := qa.lt
          have qb := H13.out
          obtain ⟨qbc0, qbc1, qbc2, qbc3, qbc4, qbc5⟩ := cells6 (w1 := w6) (fun _ _ _ => rfl) qb
          have qbl := qb.lt
          have qc := H14.out
          obtain ⟨qcc0, qcc1, qcc2, qcc3, qcc4, qcc5⟩ := cells6 (w1 := w6) (fun _ _ _ => rfl) qc
          have qcl := qc.lt
          have qf0 := H14.out.free 0
          have qf1 := H14.out.free 1
          have qf2 := H14.out.free 2
          have qf3 := H14.out.free 3
          have qf4 := H14.out.free 4
          have qf5 := H14.out.free 5
          have ha1 := qal
          have ha2 := qbl
          have ha3 := qcl
          go_wp2_with fail
          clear qac0 qac1 qac2 qac3 qac4 qac5 qal qa
          clear qbc0 qbc1 qbc2 qbc3 qbc4 qbc5 qbl qb
          clear qcc0 qcc1 qcc2 qcc3 qcc4 qcc5 qcl qc
          clear qf0 qf1 qf2 qf3 qf4 qf5
          have hB7 := below6 (g := w4.heap.size) hB6 (by omega) (.int .i64 zy) (.int .i64 zm) (.int .i64 zd) (.int .i64 zh) (.int .i64 zi) (.int .i64 zs)
          have H15 := Lib.hid (other6 H12.out (g' := w4.heap.size) (by omega) (.int .i64 zy) (.int .i64 zm) (.int .i64 zd) (.int .i64 zh) (.int .i64 zi) (.int .i64 zs))
          clear H12
          have H16 := Lib.hid (other6 H13.out (g' := w4.heap.size) (by omega) (.int .i64 zy) (.int .i64 zm) (.int .i64 zd) (.int .i64 zh) (.int .i64 zi) (.int .i64 zs))
          clear H13
          have H17 : Hid (Blk (((((((w6.setCell ⟨w4.heap.size, 0, none⟩ (.int .i64 zy)).setCell ⟨w4.heap.size, 1, none⟩ (.int .i64 zm)).setCell ⟨w4.heap.size, 2, none⟩ (.int .i64 zd)).setCell ⟨w4.heap.size, 3, none⟩ (.int .i64 zh)).setCell ⟨w4.heap.size, 4, none⟩ (.int .i64 zi)).setCell ⟨w4.heap.size, 5, none⟩ (.int .i64 zs))) w4.heap.size 24 [.int .i64 zy, .int .i64 zm, .int .i64 zd, .int .i64 zh, .int .i64 zi, .int .i64 zs]) := set6 H14.out
          clear H14
          generalize ((((((w6.setCell ⟨w4.heap.size, 0, none⟩ (.int .i64 zy)).setCell ⟨w4.heap.size, 1, none⟩ (.int .i64 zm)).setCell ⟨w4.heap.size, 2, none⟩ (.int .i64 zd)).setCell ⟨w4.heap.size, 3, none⟩ (.int .i64 zh)).setCell ⟨w4.heap.size, 4, none⟩ (.int .i64 zi)).setCell ⟨w4.heap.size, 5, none⟩ (.int .i64 zs)) = w7 at *
          clear hB6 ha1 ha2 ha3
          go_wp2_with fail
          refine (C30'.out _).mono ?_
          rintro e w8 ⟨rfl, hb8⟩
          have hB8 := bThen hB7 hb8
          have H18 := Lib.hid (blkDown H15.out hb8)
          clear H15
          have H19 := Lib.hid (blkDown H16.out hb8)
          clear H16
          have H20 := Lib.hid (blkDown H17.out hb8)
          clear H17
          clear hb8 hB7
          have qa := H18.out
          obtain ⟨qac0, qac1, qac2, qac3, qac4, qac5⟩ := cells6 (w1 := w8) (fun _ _ _ => rfl) qa
          have qal := qa.lt
          have qb := H19.out
          obtain ⟨qbc0, qbc1, qbc2, qbc3, qbc4, qbc5⟩ := cells6 (w1 := w8) (fun _ _ _ => rfl) qb
          have qbl := qb.lt
          have qc := H20.out
          obtain ⟨qcc0, qcc1, qcc2, qcc3, qcc4, qcc5⟩ := cells6 (w1 := w8) (fun _ _ _ => rfl) qc
          have qcl := qc.lt
          go_wp2_with fail
          clear qac0 qac1 qac2 qac3 qac4 qac5 qal qa
          clear qbc0 qbc1 qbc2 qbc3 qbc4 qbc5 qbl qb
          clear qcc0 qcc1 qcc2 qcc3 qcc4 qcc5 qcl qc
          have hB9 := bAl hB8 (.cells #[.int .i64 ry, .int .i64 rm, .int .i64 rd, .int .i64 rh, .int .i64 ri, .int .i64 rs] 24)
          have H21 := Lib.hid (H18.out.alloc (.cells #[.int .i64 ry, .int .i64 rm, .int .i64 rd, .int .i64 rh, .int .i64 ri, .int .i64 rs] 24))
          clear H18
          have H22 := Lib.hid (H19.out.alloc (.cells #[.int .i64 ry, .int .i64 rm, .int .i64 rd, .int .i64 rh, .int .i64 ri, .int .i64 rs] 24))
          clear H19
          have H23 := Lib.hid (H20.out.alloc (.cells #[.int .i64 ry, .int .i64 rm, .int .i64 rd, .int .i64 rh, .int .i64 ri, .int .i64 rs] 24))
          clear H20
          have H24 : Hid (Blk (w8.alloc (.cells #[.int .i64 ry, .int .i64 rm, .int .i64 rd, .int .i64 rh, .int .i64 ri, .int .i64 rs] 24)) w8.heap.size 24 [.int .i64 ry, .int .i64 rm, .int .i64 rd, .int .i64 rh, .int .i64 ri, .int .i64 rs]) := Blk.new w8 #[.int .i64 ry, .int .i64 rm, .int .i64 rd, .int .i64 rh, .int .i64 ri, .int .i64 rs] 24
          generalize w8.alloc (.cells #[.int .i64 ry, .int .i64 rm, .int .i64 rd, .int .i64 rh, .int .i64 ri, .int .i64 rs] 24) = w9 at *
          clear hB8
          have qa := H21.out
          obtain ⟨qac0, qac1, qac2, qac3, qac4, qac5⟩ := cells6 (w1 := w9) (fun _ _ _ => rfl) qa
          have qal := qa.lt
          have qb := H22.out
          obtain ⟨qbc0, qbc1, qbc2, qbc3, qbc4, qbc5⟩ := cells6 (w1 := w9) (fun _ _ _ => rfl) qb
          have qbl := qb.lt
          have qc := H23.out
          obtain ⟨qcc0, qcc1, qcc2, qcc3, qcc4, qcc5⟩ := cells6 (w1 := w9) (fun _ _ _ => rfl) qc
          have qcl := qc.lt
          have qd := H24.out
          obtain ⟨qdc0, qdc1, qdc2, qdc3, qdc4, qdc5⟩ := cells6 (w1 := w9) (fun _ _ _ => rfl) qd
          have qdl := qd.lt
          go_wp2_with fail
          clear qac0 qac1 qac2 qac3 qac4 qac5 qal qa
          clear qbc0 qbc1 qbc2 qbc3 qbc4 qbc5 qbl qb
          clear qcc0 qcc1 qcc2 qcc3 qcc4 qcc5 qcl qc
          clear qdc0 qdc1 qdc2 qdc3 qdc4 qdc5 qdl qd
          refine (C12y.out _).mono ?_
          rintro e w10 ⟨rfl, hb10⟩
          have hB10 := bThen hB9 hb10
          have H25 := Lib.hid (blkDown H21.out hb10)
          clear H21
          have H26 := Lib.hid (blkDown H22.out hb10)
          clear H22
          have H27 := Lib.hid (blkDown H23.out hb10)
          clear H23
          have H28 := Lib.hid (blkDown H24.out hb10)
          clear H24
          clear hb10 hB9
          have qa := H25.out
          obtain ⟨qac0, qac1, qac2, qac3, qac4, qac5⟩ := cells6 (w1 := w10) (fun _ _ _ => rfl) qa
          have qal := qa.lt
          have qb := H26.out
          obtain ⟨qbc0, qbc1, qbc2, qbc3, qbc4, qbc5⟩ := cells6 (w1 := w10) (fun _ _ _ => rfl) qb
          have qbl := qb.lt
          have qc := H27.out
          obtain ⟨qcc0, qcc1, qcc2, qcc3, qcc4, qcc5⟩ := cells6 (w1 := w10) (fun _ _ _ => rfl) qc
          have qcl := qc.lt
          have qd := H28.out
          obtain ⟨qdc0, qdc1, qdc2, qdc3, qdc4, qdc5⟩ := cells6 (w1 := w10) (fun _ _ _ => rfl) qd
          have qdl := qd.lt
          go_wp2_with fail
          clear qac0 qac1 qac2 qac3 qac4 qac5 qal qa
          clear qbc0 qbc1 qbc2 qbc3 qbc4 qbc5 qbl qb
          clear qcc0 qcc1 qcc2 qcc3 qcc4 qcc5 qcl qc
          clear qdc0 qdc1 qdc2 qdc3 qdc4 qdc5 qdl qd
          refine (C50y.out _).mono ?_
          rintro e w11 ⟨rfl, hb11⟩
          have hB11 := bThen hB10 hb11
          have H29 := Lib.hid (blkDown H25.out hb11)
          clear H25
          have H30 := Lib.hid (blkDown H26.out hb11)
          clear H26
          have H31 := Lib.hid (blkDown H27.out hb11)
          clear H27
          have H32 := Lib.hid (blkDown H28.out hb11)
          clear H28
          clear hb11 hB10
          have qa := H29.out
          obtain ⟨qac0, qac1, qac2, qac3, qac4, qac5⟩ := cells6 (w1 := w11) (fun _ _ _ => rfl) qa
          have qal := qa.lt
          have qb := H30.out
          obtain ⟨qbc0, qbc1, qbc2, qbc3, qbc4, qbc5⟩ := cells6 (w1 := w11) (fun _ _ _ => rfl) qb
          have qbl := qb.lt
          have qc := H31.out
          obtain ⟨qcc0, qcc1, qcc2, qcc3, qcc4, qcc5⟩ := cells6 (w1 := w11) (fun _ _ _ => rfl) qc
          have qcl := qc.lt
          have qd := H32.out
          obtain ⟨qdc0, qdc1, qdc2, qdc3, qdc4, qdc5⟩ := cells6 (w1 := w11) (fun _ _ _ => rfl) qd
          have qdl := qd.lt
          go_wp2_with fail
          clear qac0 qac1 qac2 qac3 qac4 qac5 qal qa
          clear qbc0 qbc1 qbc2 qbc3 qbc4 qbc5 qbl qb
          clear qcc0 qcc1 qcc2 qcc3 qcc4 qcc5 qcl qc
          clear qdc0 qdc1 qdc2 qdc3 qdc4 qdc5 qdl qd
          refine (C12b.out _).mono ?_
          rintro e w12 ⟨rfl, hb12⟩
          have hB12 := bThen hB11 hb12
          have H33 := Lib.hid (blkDown H29.out hb12)
          clear H29
          have H34 := Lib.hid (blkDown H30.out hb12)
          clear H30
          have H35 := Lib.hid (blkDown H31.out hb12)
          clear H31
          have H36 := Lib.hid (blkDown H32.out hb12)
          clear H32
          clear hb12 hB11
          have qa := H33.out
          obtain ⟨qac0, qac1, qac2, qac3, qac4, qac5⟩ := cells6 (w1 := w12) (fun _ _ _ => rfl) qa
          have qal := qa.lt
          have qb := H34.out
          obtain ⟨qbc0, qbc1, qbc2, qbc3, qbc4, qbc5⟩ := cells6 (w1 := w12) (fun _ _ _ => rfl) qb
          have qbl := qb.lt
          have qc := H35.out
          obtain ⟨qcc0, qcc1, qcc2, qcc3, qcc4, qcc5⟩ := cells6 (w1 := w12) (fun _ _ _ => rfl) qc
          have qcl := qc.lt
          have qd := H36.out
          obtain ⟨qdc0, qdc1, qdc2, qdc3, qdc4, qdc5⟩ := cells6 (w1 := w12) (fun _ _ _ => rfl) qd
          have qdl := qd.lt
          go_wp2_with fail
          clear qac0 qac1 qac2 qac3 qac4 qac5 qal qa
          clear qbc0 qbc1 qbc2 qbc3 qbc4 qbc5 qbl qb
          clear qcc0 qcc1 qcc2 qcc3 qcc4 qcc5 qcl qc
          clear qdc0 qdc1 qdc2 qdc3 qdc4 qdc5 qdl qd
          refine (C50b.out _).mono ?_
          rintro e w13 ⟨rfl, hb13⟩
          have hB13 := bThen hB12 hb13
          have H37 := Lib.hid (blkDown H33.out hb13)
          clear H33
          have H38 := Lib.hid (blkDown H34.out hb13)
          clear H34
          have H39 := Lib.hid (blkDown H35.out hb13)
          clear H35
          have H40 := Lib.hid (blkDown H36.out hb13)
          clear H36
          clear hb13 hB12
          have qa := H37.out
          obtain ⟨qac0, qac1, qac2, qac3, qac4, qac5⟩ := cells6 (w1 := w13) (fun _ _ _ => rfl) qa
          have qal := qa.lt
          have qb := H38.out
          obtain ⟨qbc0, qbc1, qbc2, qbc3, qbc4, qbc5⟩ := cells6 (w1 := w13) (fun _ _ _ => rfl) qb
          have qbl := qb.lt
          have qc := H39.out
          obtain ⟨qcc0, qcc1, qcc2, qcc3, qcc4, qcc5⟩ := cells6 (w1 := w13) (fun _ _ _ => rfl) qc
          have qcl := qc.lt
          have qd := H40.out
          obtain ⟨qdc0, qdc1, qdc2, qdc3, qdc4, qdc5⟩ := cells6 (w1 := w13) (fun _ _ _ => rfl) qd
          have qdl := qd.lt
          go_wp2
          go_ret
          exact ⟨rfl, hB13⟩
      · have bq : (q2 != 0) = true := by simpa using hq
        subst hp
        clear hq hm
        have hB0 : Below w.heap.size w w := Below.refl _ _
        go_enter Try.func22, Try.ntmps22
        go_wp2_with fail
        have hB1 : Below w.heap.size w ((w.alloc (.cells #[.int .i64 y, .int .i64 m, .int .i64 d, .int .i64 h, .int .i64 i, .int .i64 s] 24)).alloc (.cells #[.int .i64 y', .int .i64 m', .int .i64 d', .int .i64 h', .int .i64 i', .int .i64 s'] 24)) := bAl (bSelf w _) _
        have H1 : Hid (Blk ((w.alloc (.cells #[.int .i64 y, .int .i64 m, .int .i64 d, .int .i64 h, .int .i64 i, .int .i64 s] 24)).alloc (.cells #[.int .i64 y', .int .i64 m', .int .i64 d', .int .i64 h', .int .i64 i', .int .i64 s'] 24)) w.heap.size 24 [.int .i64 y, .int .i64 m, .int .i64 d, .int .i64 h, .int .i64 i, .int .i64 s]) := (Blk.new w _ _).alloc _
        have H2 : Hid (Blk ((w.alloc (.cells #[.int .i64 y, .int .i64 m, .int .i64 d, .int .i64 h, .int .i64 i, .int .i64 s] 24)).alloc (.cells #[.int .i64 y', .int .i64 m', .int .i64 d', .int .i64 h', .int .i64 i', .int .i64 s'] 24)) (w.heap.size + 1) 24 [.int .i64 y', .int .i64 m', .int .i64 d', .int .i64 h', .int .i64 i', .int .i64 s']) := newAt _ _ _ _ _ (by simp) rfl
        generalize (w.alloc (.cells #[.int .i64 y, .int .i64 m, .int .i64 d, .int .i64 h, .int .i64 i, .int .i64 s] 24)).alloc (.cells #[.int .i64 y', .int .i64 m', .int .i64 d', .int .i64 h', .int .i64 i', .int .i64 s'] 24) = w1 at *
        clear hB0
        go_wp2_with fail
        refine (C48.out _).mono ?_
        rintro e w2 ⟨rfl, hb2⟩
        have hB2 := bThen hB1 hb2
        have H3 := Lib.hid (blkDown H1.out hb2)
        clear H1
        have H4 := Lib.hid (blkDown H2.out hb2)
        clear H2
        clear hb2 hB1
        have qa := H3.out
        obtain ⟨qac0, qac1, qac2, qac3, qac4, qac5⟩ := cells6 (w1 := w2) (fun _ _ _ => rfl) qa
        have qal := qa.lt
        have qb := H4.out
        obtain ⟨qbc0, qbc1, qbc2, qbc3, qbc4, qbc5⟩ := cells6 (w1 := w2) (fun _ _ _ => rfl) qb
        have qbl := qb.lt
        go_wp2_with fail
        have qa := H3.out
        obtain ⟨qac0, qac1, qac2, qac3, qac4, qac5⟩ := cells6 (w1 := w2) (fun _ _ _ => rfl) qa
        have qal := qa.lt
        have qb := H4.out
        obtain ⟨qbc0, qbc1, qbc2, qbc3, qbc4, qbc5⟩ := cells6 (w1 := w2) (fun _ _ _ => rfl) qb
        have qbl := qb.lt
        have qar0 := cell_regrown qac0
        have qar1 := cell_regrown qac1
        have qar2 := cell_regrown qac2
        have qar3 := cell_regrown qac3
        have qar4 := cell_regrown qac4
        have qar5 := cell_regrown qac5
        have qbr0 := cell_regrown qbc0
        have qbr1 := cell_regrown qbc1
        have qbr2 := cell_regrown qbc2
        have qbr3 := cell_regrown qbc3
        have qbr4 := cell_regrown qbc4
        have qbr5 := cell_regrown qbc5
        clear qac0 qac1 qac2 qac3 qac4 qac5 qal qa
        clear qbc0 qbc1 qbc2 qbc3 qbc4 qbc5 qbl qb
        refine wp_region_quiet_below (by kernel_rfl) (by kernel_rfl) ?_
        repeat (quiet_step (first | ((go_at_call 12; (with_reducible exact Calls.regrown_of (C12a.out _))))| ((go_at_call 12; (with_reducible exact Calls.regrown_of (C12b.out _))))| ((go_at_call 49; (with_reducible exact Calls.regrown_of (C49.out _))))))
        refine wpQuiet_nil ?_
        intro _ hw'
        obtain ⟨⟨dq, osq⟩, hw''⟩ := hw'
        subst hw'' 
        clear qar0 qar1 qar2 qar3 qar4 qar5
        clear qbr0 qbr1 qbr2 qbr3 qbr4 qbr5
        have hbq := below_regrown w2 dq osq
        have hB3 := bThen hB2 hbq
        have H5 := Lib.hid (blkDown H3.out hbq)
        clear H3
        have H6 := Lib.hid (blkDown H4.out hbq)
        clear H4
        generalize grow (redrawn w2 dq) osq = w3 at *
        clear hbq hB2
        have qa := H5.out
        obtain ⟨qac0, qac1, qac2, qac3, qac4, qac5⟩ := cells6 (w1 := w3) (fun _ _ _ => rfl) qa
        have qal := qa.lt
        have qb := H6.out
        obtain ⟨qbc0, qbc1, qbc2, qbc3, qbc4, qbc5⟩ := cells6 (w1 := w3) (fun _ _ _ => rfl) qb
        have qbl := qb.lt
        have hN := HN.out
        go_wp2_with fail
        clear hN
        go_wp2_with fail
        clear qac0 qac1 qac2 qac3 qac4 qac5 qal qa
        clear qbc0 qbc1 qbc2 qbc3 qbc4 qbc5 qbl qb
        refine (C45.out _).mono ?_
        rintro e w4 ⟨rfl, hb4⟩
        have hB4 := bThen hB3 hb4
        have H7 := Lib.hid (blkDown H5.out hb4)
        clear H5
        have H8 := Lib.hid (blkDown H6.out hb4)
        clear H6
        clear hb4 hB3
        have qa := H7.out
        obtain ⟨qac0, qac1, qac2, qac3, qac4, qac5⟩ := cells6 (w1 := w4) (fun _ _ _ => rfl) qa
        have qal := qa.lt
        have qb := H8.out
        obtain ⟨qbc0, qbc1, qbc2, qbc3, qbc4, qbc5⟩ := cells6 (w1 := w4) (fun _ _ _ => rfl) qb
        have qbl := qb.lt
        have sa := qal
        have sb := qbl
        go_wp2_with fail
        clear qac0 qac1 qac2 qac3 qac4 qac5 qal qa
        clear qbc0 qbc1 qbc2 qbc3 qbc4 qbc5 qbl qb
        have hB5 := bAl hB4 (.cells #[.int .i64 xy, .int .i64 xm, .int .i64 xd, .int .i64 xh, .int .i64 xi, .int .i64 xs] 24)
        have H9 := Lib.hid (H7.out.alloc (.cells #[.int .i64 xy, .int .i64 xm, .int .i64 xd, .int .i64 xh, .int .i64 xi, .int .i64 xs] 24))
        clear H7
        have H10 := Lib.hid (H8.out.alloc (.cells #[.int .i64 xy, .int .i64 xm, .int .i64 xd, .int .i64 xh, .int .i64 xi, .int .i64 xs] 24))
        clear H8
        have H11 : Hid (Blk (w4.alloc (.cells #[.int .i64 xy, .int .i64 xm, .int .i64 xd, .int .i64 xh, .int .i64 xi, .int .i64 xs] 24)) w4.heap.size 24 [.int .i64 xy, .int .i64 xm, .int .i64 xd, .int .i64 xh, .int .i64 xi, .int .i64 xs]) := Blk.new w4 #[.int .i64 xy, .int .i64 xm, .int .i64 xd, .int .i64 xh, .int .i64 xi, .int .i64 xs] 24
        generalize w4.alloc (.cells #[.int .i64 xy, .int .i64 xm, .int .i64 xd, .int .i64 xh, .int .i64 xi, .int .i64 xs] 24) = w5 at *
        clear hB4
        go_wp2_with fail
        refine (C30.out _).mono ?_
        rintro e w6 ⟨rfl, hb6⟩
        have hB6 := bThen hB5 hb6
        have H12 := Lib.hid (blkDown H9.out hb6)
        clear H9
        have H13 := Lib.hid (blkDown H10.out hb6)
        clear H10
        have H14 := Lib.hid (blkDown H11.out hb6)
        clear H11
        clear hb6 hB5
        have qa := H12.out
        obtain ⟨qac0, qac1, qac2, qac3, qac4, qac5⟩ := cells6 (w1 := w6) (fun _ _ _ => rfl) qa
        have qal := qa.lt
        have qb := H13.out
        obtain ⟨qbc0, qbc1, qbc2, qbc3, qbc4, qbc5⟩ := cells6 (w1 := w6) (fun _ _ _ => rfl) qb
        have qbl := qb.lt
        have qc := H14.out
        obtain ⟨qcc0, qcc1, qcc2, qcc3, qcc4, qcc5⟩ := cells6 (w1 := w6) (fun _ _ _ => rfl) qc
        have qcl := qc.lt
        have qf0 := H14.out.free 0
        have qf1 := H14.out.free 1
        have qf2 := H14.out.free 2
        have qf3 := H14.out.free 3
        have qf4 := H14.out.free 4
        have qf5 := H14.out.free 5
        have ha1 := qal
        have ha2 := qbl
        have ha3 := qcl
        go_wp2_with fail
        clear qac0 qac1 qac2 qac3 qac4 qac5 qal qa
        clear qbc0 qbc1 qbc2 qbc3 qbc4 qbc5 qbl qb
        clear qcc0 qcc1 qcc2 qcc3 qcc4 qcc5 qcl qc
        clear qf0 qf1 qf2 qf3 qf4 qf5
        have hB7 := below6 (g := w4.heap.size) hB6 (by omega) (.int .i64 zy) (.int .i64 zm) (.int .i64 zd) (.int .i64 zh) (.int .i64 zi) (.int .i64 zs)
        have H15 := Lib.hid (other6 H12.out (g' := w4.heap.size) (by omega) (.int .i64 zy) (.int .i64 zm) (.int .i64 zd) (.int .i64 zh) (.int .i64 zi) (.int .i64 zs))
        clear H12
        have H16 := Lib.hid (other6 H13.out (g' := w4.heap.size) (by omega) (.int .i64 zy) (.int .i64 zm) (.int .i64 zd) (.int .i64 zh) (.int .i64 zi) (.int .i64 zs))
        clear H13
        have H17 : Hid (Blk (((((((w6.setCell ⟨w4.heap.size, 0, none⟩ (.int .i64 zy)).setCell ⟨w4.heap.size, 1, none⟩ (.int .i64 zm)).setCell ⟨w4.heap.size, 2, none⟩ (.int .i64 zd)).setCell ⟨w4.heap.size, 3, none⟩ (.int .i64 zh)).setCell ⟨w4.heap.size, 4, none⟩ (.int .i64 zi)).setCell ⟨w4.heap.size, 5, none⟩ (.int .i64 zs))) w4.heap.size 24 [.int .i64 zy, .int .i64 zm, .int .i64 zd, .int .i64 zh, .int .i64 zi, .int .i64 zs]) := set6 H14.out
        clear H14
        generalize ((((((w6.setCell ⟨w4.heap.size, 0, none⟩ (.int .i64 zy)).setCell ⟨w4.heap.size, 1, none⟩ (.int .i64 zm)).setCell ⟨w4.heap.size, 2, none⟩ (.int .i64 zd)).setCell ⟨w4.heap.size, 3, none⟩ (.int .i64 zh)).setCell ⟨w4.heap.size, 4, none⟩ (.int .i64 zi)).setCell ⟨w4.heap.size, 5, none⟩ (.int .i64 zs)) = w7 at *
        clear hB6 ha1 ha2 ha3
        go_wp2_with fail
        refine (C30'.out _).mono ?_
        rintro e w8 ⟨rfl, hb8⟩
        have hB8 := bThen hB7 hb8
        have H18 := Lib.hid (blkDown H15.out hb8)
        clear H15
        have H19 := Lib.hid (blkDown H16.out hb8)
        clear H16
        have H20 := Lib.hid (blkDown H17.out hb8)
        clear H17
        clear hb8 hB7
        have qa := H18.out
        obtain ⟨qac0, qac1, qac2, qac3, qac4, qac5⟩ := cells6 (w1 := w8) (fun _ _ _ => rfl) qa
        have qal := qa.lt
        have qb := H19.out
        obtain ⟨qbc0, qbc1, qbc2, qbc3, qbc4, qbc5⟩ := cells6 (w1 := w8) (fun _ _ _ => rfl) qb
        have qbl := qb.lt
        have qc := H20.out
        obtain ⟨qcc0, qcc1, qcc2, qcc3, qcc4, qcc5⟩ := cells6 (w1 := w8) (fun _ _ _ => rfl) qc
        have qcl := qc.lt
        go_wp2_with fail
        clear qac0 qac1 qac2 qac3 qac4 qac5 qal qa
        clear qbc0 qbc1 qbc2 qbc3 qbc4 qbc5 qbl qb
        clear qcc0 qcc1 qcc2 qcc3 qcc4 qcc5 qcl qc
        have hB9 := bAl hB8 (.cells #[.int .i64 ry, .int .i64 rm, .int .i64 rd, .int .i64 rh, .int .i64 ri, .int .i64 rs] 24)
        have H21 := Lib.hid (H18.out.alloc (.cells #[.int .i64 ry, .int .i64 rm, .int .i64 rd, .int .i64 rh, .int .i64 ri, .int .i64 rs] 24))
        clear H18
        have H22 := Lib.hid (H19.out.alloc (.cells #[.int .i64 ry, .int .i64 rm, .int .i64 rd, .int .i64 rh, .int .i64 ri, .int .i64 rs] 24))
        clear H19
        have H23 := Lib.hid (H20.out.alloc (.cells #[.int .i64 ry, .int .i64 rm, .int .i64 rd, .int .i64 rh, .int .i64 ri, .int .i64 rs] 24))
        clear H20
        have H24 : Hid (Blk (w8.alloc (.cells #[.int .i64 ry, .int .i64 rm, .int .i64 rd, .int .i64 rh, .int .i64 ri, .int .i64 rs] 24)) w8.heap.size 24 [.int .i64 ry, .int .i64 rm, .int .i64 rd, .int .i64 rh, .int .i64 ri, .int .i64 rs]) := Blk.new w8 #[.int .i64 ry, .int .i64 rm, .int .i64 rd, .int .i64 rh, .int .i64 ri, .int .i64 rs] 24
        generalize w8.alloc (.cells #[.int .i64 ry, .int .i64 rm, .int .i64 rd, .int .i64 rh, .int .i64 ri, .int .i64 rs] 24) = w9 at *
        clear hB8
        have qa := H21.out
        obtain ⟨qac0, qac1, qac2, qac3, qac4, qac5⟩ := cells6 (w1 := w9) (fun _ _ _ => rfl) qa
        have qal := qa.lt
        have qb := H22.out
        obtain ⟨qbc0, qbc1, qbc2, qbc3, qbc4, qbc5⟩ := cells6 (w1 := w9) (fun _ _ _ => rfl) qb
        have qbl := qb.lt
        have qc := H23.out
        obtain ⟨qcc0, qcc1, qcc2, qcc3, qcc4, qcc5⟩ := cells6 (w1 := w9) (fun _ _ _ => rfl) qc
        have qcl := qc.lt
        have qd := H24.out
        obtain ⟨qdc0, qdc1, qdc2, qdc3, qdc4, qdc5⟩ := cells6 (w1 := w9) (fun _ _ _ => rfl) qd
        have qdl := qd.lt
        go_wp2_with fail
        clear qac0 qac1 qac2 qac3 qac4 qac5 qal qa
        clear qbc0 qbc1 qbc2 qbc3 qbc4 qbc5 qbl qb
        clear qcc0 qcc1 qcc2 qcc3 qcc4 qcc5 qcl qc
        clear qdc0 qdc1 qdc2 qdc3 qdc4 qdc5 qdl qd
        refine (C12y.out _).mono ?_
        rintro e w10 ⟨rfl, hb10⟩
        have hB10 := bThen hB9 hb10
        have H25 := Lib.hid (blkDown H21.out hb10)
        clear H21
        have H26 := Lib.hid (blkDown H22.out hb10)
        clear H22
        have H27 := Lib.hid (blkDown H23.out hb10)
        clear H23
        have H28 := Lib.hid (blkDown H24.out hb10)
        clear H24
        clear hb10 hB9
        have qa := H25.out
        obtain ⟨qac0, qac1, qac2, qac3, qac4, qac5⟩ := cells6 (w1 := w10) (fun _ _ _ => rfl) qa
        have qal := qa.lt
        have qb := H26.out
        obtain ⟨qbc0, qbc1, qbc2, qbc3, qbc4, qbc5⟩ := cells6 (w1 := w10) (fun _ _ _ => rfl) qb
        have qbl := qb.lt
        have qc := H27.out
        obtain ⟨qcc0, qcc1, qcc2, qcc3, qcc4, qcc5⟩ := cells6 (w1 := w10) (fun _ _ _ => rfl) qc
        have qcl := qc.lt
        have qd := H28.out
        obtain ⟨qdc0, qdc1, qdc2, qdc3, qdc4, qdc5⟩ := cells6 (w1 := w10) (fun _ _ _ => rfl) qd
        have qdl := qd.lt
        go_wp2_with fail
        clear qac0 qac1 qac2 qac3 qac4 qac5 qal qa
        clear qbc0 qbc1 qbc2 qbc3 qbc4 qbc5 qbl qb
        clear qcc0 qcc1 qcc2 qcc3 qcc4 qcc5 qcl qc
        clear qdc0 qdc1 qdc2 qdc3 qdc4 qdc5 qdl qd
        refine (C50y.out _).mono ?_
        rintro e w11 ⟨rfl, hb11⟩
        have hB11 := bThen hB10 hb11
        have H29 := Lib.hid (blkDown H25.out hb11)
        clear H25
        have H30 := Lib.hid (blkDown H26.out hb11)
        clear H26
        have H31 := Lib.hid (blkDown H27.out hb11)
        clear H27
        have H32 := Lib.hid (blkDown H28.out hb11)
        clear H28
        clear hb11 hB10
        have qa := H29.out
        obtain ⟨qac0, qac1, qac2, qac3, qac4, qac5⟩ := cells6 (w1 := w11) (fun _ _ _ => rfl) qa
        have qal := qa.lt
        have qb := H30.out
        obtain ⟨qbc0, qbc1, qbc2, qbc3, qbc4, qbc5⟩ := cells6 (w1 := w11) (fun _ _ _ => rfl) qb
        have qbl := qb.lt
        have qc := H31.out
        obtain ⟨qcc0, qcc1, qcc2, qcc3, qcc4, qcc5⟩ := cells6 (w1 := w11) (fun _ _ _ => rfl) qc
        have qcl := qc.lt
        have qd := H32.out
        obtain ⟨qdc0, qdc1, qdc2, qdc3, qdc4, qdc5⟩ := cells6 (w1 := w11) (fun _ _ _ => rfl) qd
        have qdl := qd.lt
        go_wp2_with fail
        clear qac0 qac1 qac2 qac3 qac4 qac5 qal qa
        clear qbc0 qbc1 qbc2 qbc3 qbc4 qbc5 qbl qb
        clear qcc0 qcc1 qcc2 qcc3 qcc4 qcc5 qcl qc
        clear qdc0 qdc1 qdc2 qdc3 qdc4 qdc5 qdl qd
        refine (C12b.out _).mono ?_
        rintro e w12 ⟨rfl, hb12⟩
        have hB12 := bThen hB11 hb12
        have H33 := Lib.hid (blkDown H29.out hb12)
        clear H29
        have H34 := Lib.hid (blkDown H30.out hb12)
        clear H30
        have H35 := Lib.hid (blkDown H31.out hb12)
        clear H31
        have H36 := Lib.hid (blkDown H32.out hb12)
        clear H32
        clear hb12 hB11
        have qa := H33.out
        obtain ⟨qac0, qac1, qac2, qac3, qac4, qac5⟩ := cells6 (w1 := w12) (fun _ _ _ => rfl) qa
        have qal := qa.lt
        have qb := H34.out
        obtain ⟨qbc0, qbc1, qbc2, qbc3, qbc4, qbc5⟩ := cells6 (w1 := w12) (fun _ _ _ => rfl) qb
        have qbl := qb.lt
        have qc := H35.out
        obtain ⟨qcc0, qcc1, qcc2, qcc3, qcc4, qcc5⟩ := cells6 (w1 := w12) (fun _ _ _ => rfl) qc
        have qcl := qc.lt
        have qd := H36.out
        obtain ⟨qdc0, qdc1, qdc2, qdc3, qdc4, qdc5⟩ := cells6 (w1 := w12) (fun _ _ _ => rfl) qd
        have qdl := qd.lt
        go_wp2_with fail
        clear qac0 qac1 qac2 qac3 qac4 qac5 qal qa
        clear qbc0 qbc1 qbc2 qbc3 qbc4 qbc5 qbl qb
        clear qcc0 qcc1 qcc2 qcc3 qcc4 qcc5 qcl qc
        clear qdc0 qdc1 qdc2 qdc3 qdc4 qdc5 qdl qd
        refine (C50b.out _).mono ?_
        rintro e w13 ⟨rfl, hb13⟩
        have hB13 := bThen hB12 hb13
        have H37 := Lib.hid (blkDown H33.out hb13)
        clear H33
        have H38 := Lib.hid (blkDown H34.out hb13)
        clear H34
        have H39 := Lib.hid (blkDown H35.out hb13)
        clear H35
        have H40 := Lib.hid (blkDown H36.out hb13)
        clear H36
        clear hb13 hB12
        have qa := H37.out
        obtain ⟨qac0, qac1, qac2, qac3, qac4, qac5⟩ := cells6 (w1 := w13) (fun _ _ _ => rfl) qa
        have qal := qa.lt
        have qb := H38.out
        obtain ⟨qbc0, qbc1, qbc2, qbc3, qbc4, qbc5⟩ := cells6 (w1 := w13) (fun _ _ _ => rfl) qb
        have qbl := qb.lt
        have qc := H39.out
        obtain ⟨qcc0, qcc1, qcc2, qcc3, qcc4, qcc5⟩ := cells6 (w1 := w13) (fun _ _ _ => rfl) qc
        have qcl := qc.lt
        have qd := H40.out
        obtain ⟨qdc0, qdc1, qdc2, qdc3, qdc4, qdc5⟩ := cells6 (w1 := w13) (fun _ _ _ => rfl) qd
        have qdl := qd.lt
        go_wp2
        go_ret
        exact ⟨rfl, hB13⟩
    · have bp : (p2 != 0) = true := by simpa using hp
      clear hp hm
      have hB0 : Below w.heap.size w w := Below.refl _ _
      go_enter Try.func22, Try.ntmps22
      go_wp2_with fail
      have hB1 : Below w.heap.size w ((w.alloc (.cells #[.int .i64 y, .int .i64 m, .int .i64 d, .int .i64 h, .int .i64 i, .int .i64 s] 24)).alloc (.cells #[.int .i64 y', .int .i64 m', .int .i64 d', .int .i64 h', .int .i64 i', .int .i64 s'] 24)) := bAl (bSelf w _) _
      have H1 : Hid (Blk ((w.alloc (.cells #[.int .i64 y, .int .i64 m, .int .i64 d, .int .i64 h, .int .i64 i, .int .i64 s] 24)).alloc (.cells #[.int .i64 y', .int .i64 m', .int .i64 d', .int .i64 h', .int .i64 i', .int .i64 s'] 24)) w.heap.size 24 [.int .i64 y, .int .i64 m, .int .i64 d, .int .i64 h, .int .i64 i, .int .i64 s]) := (Blk.new w _ _).alloc _
      have H2 : Hid (Blk ((w.alloc (.cells #[.int .i64 y, .int .i64 m, .int .i64 d, .int .i64 h, .int .i64 i, .int .i64 s] 24)).alloc (.cells #[.int .i64 y', .int .i64 m', .int .i64 d', .int .i64 h', .int .i64 i', .int .i64 s'] 24)) (w.heap.size + 1) 24 [.int .i64 y', .int .i64 m', .int .i64 d', .int .i64 h', .int .i64 i', .int .i64 s']) := newAt _ _ _ _ _ (by simp) rfl
      generalize (w.alloc (.cells #[.int .i64 y, .int .i64 m, .int .i64 d, .int .i64 h, .int .i64 i, .int .i64 s] 24)).alloc (.cells #[.int .i64 y', .int .i64 m', .int .i64 d', .int .i64 h', .int .i64 i', .int .i64 s'] 24) = w1 at *
      clear hB0
      go_wp2_with fail
      refine (C48.out _).mono ?_
      rintro e w2 ⟨rfl, hb2⟩
      have hB2 := bThen hB1 hb2
      have H3 := Lib.hid (blkDown H1.out hb2)
      clear H1
      have H4 := Lib.hid (blkDown H2.out hb2)
      clear H2
      clear hb2 hB1
      have qa := H3.out
      obtain ⟨qac0, qac1, qac2, qac3, qac4, qac5⟩ := cells6 (w1 := w2) (fun _ _ _ => rfl) qa
      have qal := qa.lt
      have qb := H4.out
      obtain ⟨qbc0, qbc1, qbc2, qbc3, qbc4, qbc5⟩ := cells6 (w1 := w2) (fun _ _ _ => rfl) qb
      have qbl := qb.lt
      go_wp2_with fail
      have qa := H3.out
      obtain ⟨qac0, qac1, qac2, qac3, qac4, qac5⟩ := cells6 (w1 := w2) (fun _ _ _ => rfl) qa
      have qal := qa.lt
      have qb := H4.out
      obtain ⟨qbc0, qbc1, qbc2, qbc3, qbc4, qbc5⟩ := cells6 (w1 := w2) (fun _ _ _ => rfl) qb
      have qbl := qb.lt
      have qar0 := cell_regrown qac0
      have qar1 := cell_regrown qac1
      have qar2 := cell_regrown qac2
      have qar3 := cell_regrown qac3
      have qar4 := cell_regrown qac4
      have qar5 := cell_regrown qac5
      have qbr0 := cell_regrown qbc0
      have qbr1 := cell_regrown qbc1
      have qbr2 := cell_regrown qbc2
      have qbr3 := cell_regrown qbc3
      have qbr4 := cell_regrown qbc4
      have qbr5 := cell_regrown qbc5
      clear qac0 qac1 qac2 qac3 qac4 qac5 qal qa
      clear qbc0 qbc1 qbc2 qbc3 qbc4 qbc5 qbl qb
      refine wp_region_quiet_below (by kernel_rfl) (by kernel_rfl) ?_
      repeat (quiet_step (first | ((go_at_call 12; (with_reducible exact Calls.regrown_of (C12a.out _))))| ((go_at_call 12; (with_reducible exact Calls.regrown_of (C12b.out _))))| ((go_at_call 49; (with_reducible exact Calls.regrown_of (C49.out _))))))
      refine wpQuiet_nil ?_
      intro _ hw'
      obtain ⟨⟨dq, osq⟩, hw''⟩ := hw'
      subst hw'' 
      clear qar0 qar1 qar2 qar3 qar4 qar5
      clear qbr0 qbr1 qbr2 qbr3 qbr4 qbr5
      have hbq := below_regrown w2 dq osq
      have hB3 := bThen hB2 hbq
      have H5 := Lib.hid (blkDown H3.out hbq)
      clear H3
      have H6 := Lib.hid (blkDown H4.out hbq)
      clear H4
      generalize grow (redrawn w2 dq) osq = w3 at *
      clear hbq hB2
      have qa := H5.out
      obtain ⟨qac0, qac1, qac2, qac3, qac4, qac5⟩ := cells6 (w1 := w3) (fun _ _ _ => rfl) qa
      have qal := qa.lt
      have qb := H6.out
      obtain ⟨qbc0, qbc1, qbc2, qbc3, qbc4, qbc5⟩ := cells6 (w1 := w3) (fun _ _ _ => rfl) qb
      have qbl := qb.lt
      have hN := HN.out
      go_wp2_with fail
      clear hN
      go_wp2_with fail
      clear qac0 qac1 qac2 qac3 qac4 qac5 qal qa
      clear qbc0 qbc1 qbc2 qbc3 qbc4 qbc5 qbl qb
      refine (C45.out _).mono ?_
      rintro e w4 ⟨rfl, hb4⟩
      have hB4 := bThen hB3 hb4
      have H7 := Lib.hid (blkDown H5.out hb4)
      clear H5
      have H8 := Lib.hid (blkDown H6.out hb4)
      clear H6
      clear hb4 hB3
      have qa := H7.out
      obtain ⟨qac0, qac1, qac2, qac3, qac4, qac5⟩ := cells6 (w1 := w4) (fun _ _ _ => rfl) qa
      have qal := qa.lt
      have qb := H8.out
      obtain ⟨qbc0, qbc1, qbc2, qbc3, qbc4, qbc5⟩ := cells6 (w1 := w4) (fun _ _ _ => rfl) qb
      have qbl := qb.lt
      have sa := qal
      have sb := qbl
      go_wp2_with fail
      clear qac0 qac1 qac2 qac3 qac4 qac5 qal qa
      clear qbc0 qbc1 qbc2 qbc3 qbc4 qbc5 qbl qb
      have hB5 := bAl hB4 (.cells #[.int .i64 xy, .int .i64 xm, .int .i64 xd, .int .i64 xh, .int .i64 xi, .int .i64 xs] 24)
      have H9 := Lib.hid (H7.out.alloc (.cells #[.int .i64 xy, .int .i64 xm, .int .i64 xd, .int .i64 xh, .int .i64 xi, .int .i64 xs] 24))
      clear H7
      have H10 := Lib.hid (H8.out.alloc (.cells #[.int .i64 xy, .int .i64 xm, .int .i64 xd, .int .i64 xh, .int .i64 xi, .int .i64 xs] 24))
      clear H8
      have H11 : Hid (Blk (w4.alloc (.cells #[.int .i64 xy, .int .i64 xm, .int .i64 xd, .int .i64 xh, .int .i64 xi, .int .i64 xs] 24)) w4.heap.size 24 [.int .i64 xy, .int .i64 xm, .int .i64 xd, .int .i64 xh, .int .i64 xi, .int .i64 xs]) := Blk.new w4 #[.int .i64 xy, .int .i64 xm, .int .i64 xd, .int .i64 xh, .int .i64 xi, .int .i64 xs] 24
      generalize w4.alloc (.cells #[.int .i64 xy, .int .i64 xm, .int .i64 xd, .int .i64 xh, .int .i64 xi, .int .i64 xs] 24) = w5 at *
      clear hB4
      go_wp2_with fail
      refine (C30.out _).mono ?_
      rintro e w6 ⟨rfl, hb6⟩
      have hB6 := bThen hB5 hb6
      have H12 := Lib.hid (blkDown H9.out hb6)
      clear H9
      have H13 := Lib.hid (blkDown H10.out hb6)
      clear H10
      have H14 := Lib.hid (blkDown H11.out hb6)
      clear H11
      clear hb6 hB5
      have qa := H12.out
      obtain ⟨qac0, qac1, qac2, qac3, qac4, qac5⟩ := cells6 (w1 := w6) (fun _ _ _ => rfl) qa
      have qal := qa.lt
      have qb := H13.out
      obtain ⟨qbc0, qbc1, qbc2, qbc3, qbc4, qbc5⟩ := cells6 (w1 := w6) (fun _ _ _ => rfl) qb
      have qbl := qb.lt
      have qc := H14.out
      obtain ⟨qcc0, qcc1, qcc2, qcc3, qcc4, qcc5⟩ := cells6 (w1 := w6) (fun _ _ _ => rfl) qc
      have qcl := qc.lt
      have qf0 := H14.out.free 0
      have qf1 := H14.out.free 1
      have qf2 := H14.out.free 2
      have qf3 := H14.out.free 3
      have qf4 := H14.out.free 4
      have qf5 := H14.out.free 5
      have ha1 := qal
      have ha2 := qbl
      have ha3 := qcl
      go_wp2_with fail
      clear qac0 qac1 qac2 qac3 qac4 qac5 qal qa
      clear qbc0 qbc1 qbc2 qbc3 qbc4 qbc5 qbl qb
      clear qcc0 qcc1 qcc2 qcc3 qcc4 qcc5 qcl qc
      clear qf0 qf1 qf2 qf3 qf4 qf5
      have hB7 := below6 (g := w4.heap.size) hB6 (by omega) (.int .i64 zy) (.int .i64 zm) (.int .i64 zd) (.int .i64 zh) (.int .i64 zi) (.int .i64 zs)
      have H15 := Lib.hid (other6 H12.out (g' := w4.heap.size) (by omega) (.int .i64 zy) (.int .i64 zm) (.int .i64 zd) (.int .i64 zh) (.int .i64 zi) (.int .i64 zs))
      clear H12
      have H16 := Lib.hid (other6 H13.out (g' := w4.heap.size) (by omega) (.int .i64 zy) (.int .i64 zm) (.int .i64 zd) (.int .i64 zh) (.int .i64 zi) (.int .i64 zs))
      clear H13
      have H17 : Hid (Blk (((((((w6.setCell ⟨w4.heap.size, 0, none⟩ (.int .i64 zy)).setCell ⟨w4.heap.size, 1, none⟩ (.int .i64 zm)).setCell ⟨w4.heap.size, 2, none⟩ (.int .i64 zd)).setCell ⟨w4.heap.size, 3, none⟩ (.int .i64 zh)).setCell ⟨w4.heap.size, 4, none⟩ (.int .i64 zi)).setCell ⟨w4.heap.size, 5, none⟩ (.int .i64 zs))) w4.heap.size 24 [.int .i64 zy, .int .i64 zm, .int .i64 zd, .int .i64 zh, .int .i64 zi, .int .i64 zs]) := set6 H14.out
      clear H14
      generalize ((((((w6.setCell ⟨w4.heap.size, 0, none⟩ (.int .i64 zy)).setCell ⟨w4.heap.size, 1, none⟩ (.int .i64 zm)).setCell ⟨w4.heap.size, 2, none⟩ (.int .i64 zd)).setCell ⟨w4.heap.size, 3, none⟩ (.int .i64 zh)).setCell ⟨w4.heap.size, 4, none⟩ (.int .i64 zi)).setCell ⟨w4.heap.size, 5, none⟩ (.int .i64 zs)) = w7 at *
      clear hB6 ha1 ha2 ha3
      go_wp2_with fail
      refine (C30'.out _).mono ?_
      rintro e w8 ⟨rfl, hb8⟩
      have hB8 := bThen hB7 hb8
      have H18 := Lib.hid (blkDown H15.out hb8)
      clear H15
      have H19 := Lib.hid (blkDown H16.out hb8)
      clear H16
      have H20 := Lib.hid (blkDown H17.out hb8)
      clear H17
      clear hb8 hB7
      have qa := H18.out
      obtain ⟨qac0, qac1, qac2, qac3, qac4, qac5⟩ := cells6 (w1 := w8) (fun _ _ _ => rfl) qa
      have qal := qa.lt
      have qb := H19.out
      obtain ⟨qbc0, qbc1, qbc2, qbc3, qbc4, qbc5⟩ := cells6 (w1 := w8) (fun _ _ _ => rfl) qb
      have qbl := qb.lt
      have qc := H20.out
      obtain ⟨qcc0, qcc1, qcc2, qcc3, qcc4, qcc5⟩ := cells6 (w1 := w8) (fun _ _ _ => rfl) qc
      have qcl := qc.lt
      go_wp2_with fail
      clear qac0 qac1 qac2 qac3 qac4 qac5 qal qa
      clear qbc0 qbc1 qbc2 qbc3 qbc4 qbc5 qbl qb
      clear qcc0 qcc1 qcc2 qcc3 qcc4 qcc5 qcl qc
      have hB9 := bAl hB8 (.cells #[.int .i64 ry, .int .i64 rm, .int .i64 rd, .int .i64 rh, .int .i64 ri, .int .i64 rs] 24)
      have H21 := Lib.hid (H18.out.alloc (.cells #[.int .i64 ry, .int .i64 rm, .int .i64 rd, .int .i64 rh, .int .i64 ri, .int .i64 rs] 24))
      clear H18
      have H22 := Lib.hid (H19.out.alloc (.cells #[.int .i64 ry, .int .i64 rm, .int .i64 rd, .int .i64 rh, .int .i64 ri, .int .i64 rs] 24))
      clear H19
      have H23 := Lib.hid (H20.out.alloc (.cells #[.int .i64 ry, .int .i64 rm, .int .i64 rd, .int .i64 rh, .int .i64 ri, .int .i64 rs] 24))
      clear H20
      have H24 : Hid (Blk (w8.alloc (.cells #[.int .i64 ry, .int .i64 rm, .int .i64 rd, .int .i64 rh, .int .i64 ri, .int .i64 rs] 24)) w8.heap.size 24 [.int .i64 ry, .int .i64 rm, .int .i64 rd, .int .i64 rh, .int .i64 ri, .int .i64 rs]) := Blk.new w8 #[.int .i64 ry, .int .i64 rm, .int .i64 rd, .int .i64 rh, .int .i64 ri, .int .i64 rs] 24
      generalize w8.alloc (.cells #[.int .i64 ry, .int .i64 rm, .int .i64 rd, .int .i64 rh, .int .i64 ri, .int .i64 rs] 24) = w9 at *
      clear hB8
      have qa := H21.out
      obtain ⟨qac0, qac1, qac2, qac3, qac4, qac5⟩ := cells6 (w1 := w9) (fun _ _ _ => rfl) qa
      have qal := qa.lt
      have qb := H22.out
      obtain ⟨qbc0, qbc1, qbc2, qbc3, qbc4, qbc5⟩ := cells6 (w1 := w9) (fun _ _ _ => rfl) qb
      have qbl := qb.lt
      have qc := H23.out
      obtain ⟨qcc0, qcc1, qcc2, qcc3, qcc4, qcc5⟩ := cells6 (w1 := w9) (fun _ _ _ => rfl) qc
      have qcl := qc.lt
      have qd := H24.out
      obtain ⟨qdc0, qdc1, qdc2, qdc3, qdc4, qdc5⟩ := cells6 (w1 := w9) (fun _ _ _ => rfl) qd
      have qdl := qd.lt
      go_wp2_with fail
      clear qac0 qac1 qac2 qac3 qac4 qac5 qal qa
      clear qbc0 qbc1 qbc2 qbc3 qbc4 qbc5 qbl qb
      clear qcc0 qcc1 qcc2 qcc3 qcc4 qcc5 qcl qc
      clear qdc0 qdc1 qdc2 qdc3 qdc4 qdc5 qdl qd
      refine (C12y.out _).mono ?_
      rintro e w10 ⟨rfl, hb10⟩
      have hB10 := bThen hB9 hb10
      have H25 := Lib.hid (blkDown H21.out hb10)
      clear H21
      have H26 := Lib.hid (blkDown H22.out hb10)
      clear H22
      have H27 := Lib.hid (blkDown H23.out hb10)
      clear H23
      have H28 := Lib.hid (blkDown H24.out hb10)
      clear H24
      clear hb10 hB9
      have qa := H25.out
      obtain ⟨qac0, qac1, qac2, qac3, qac4, qac5⟩ := cells6 (w1 := w10) (fun _ _ _ => rfl) qa
      have qal := qa.lt
      have qb := H26.out
      obtain ⟨qbc0, qbc1, qbc2, qbc3, qbc4, qbc5⟩ := cells6 (w1 := w10) (fun _ _ _ => rfl) qb
      have qbl := qb.lt
      have qc := H27.out
      obtain ⟨qcc0, qcc1, qcc2, qcc3, qcc4, qcc5⟩ := cells6 (w1 := w10) (fun _ _ _ => rfl) qc
      have qcl := qc.lt
      have qd := H28.out
      obtain ⟨qdc0, qdc1, qdc2, qdc3, qdc4, qdc5⟩ := cells6 (w1 := w10) (fun _ _ _ => rfl) qd
      have qdl := qd.lt
      go_wp2_with fail
      clear qac0 qac1 qac2 qac3 qac4 qac5 qal qa
      clear qbc0 qbc1 qbc2 qbc3 qbc4 qbc5 qbl qb
      clear qcc0 qcc1 qcc2 qcc3 qcc4 qcc5 qcl qc
      clear qdc0 qdc1 qdc2 qdc3 qdc4 qdc5 qdl qd
      refine (C50y.out _).mono ?_
      rintro e w11 ⟨rfl, hb11⟩
      have hB11 := bThen hB10 hb11
      have H29 := Lib.hid (blkDown H25.out hb11)
      clear H25
      have H30 := Lib.hid (blkDown H26.out hb11)
      clear H26
      have H31 := Lib.hid (blkDown H27.out hb11)
      clear H27
      have H32 := Lib.hid (blkDown H28.out hb11)
      clear H28
      clear hb11 hB10
      have qa := H29.out
      obtain ⟨qac0, qac1, qac2, qac3, qac4, qac5⟩ := cells6 (w1 := w11) (fun _ _ _ => rfl) qa
      have qal := qa.lt
      have qb := H30.out
      obtain ⟨qbc0, qbc1, qbc2, qbc3, qbc4, qbc5⟩ := cells6 (w1 := w11) (fun _ _ _ => rfl) qb
      have qbl := qb.lt
      have qc := H31.out
      obtain ⟨qcc0, qcc1, qcc2, qcc3, qcc4, qcc5⟩ := cells6 (w1 := w11) (fun _ _ _ => rfl) qc
      have qcl := qc.lt
      have qd := H32.out
      obtain ⟨qdc0, qdc1, qdc2, qdc3, qdc4, qdc5⟩ := cells6 (w1 := w11) (fun _ _ _ => rfl) qd
      have qdl := qd.lt
      go_wp2_with fail
      clear qac0 qac1 qac2 qac3 qac4 qac5 qal qa
      clear qbc0 qbc1 qbc2 qbc3 qbc4 qbc5 qbl qb
      clear qcc0 qcc1 qcc2 qcc3 qcc4 qcc5 qcl qc
      clear qdc0 qdc1 qdc2 qdc3 qdc4 qdc5 qdl qd
      refine (C12b.out _).mono ?_
      rintro e w12 ⟨rfl, hb12⟩
      have hB12 := bThen hB11 hb12
      have H33 := Lib.hid (blkDown H29.out hb12)
      clear H29
      have H34 := Lib.hid (blkDown H30.out hb12)
      clear H30
      have H35 := Lib.hid (blkDown H31.out hb12)
      clear H31
      have H36 := Lib.hid (blkDown H32.out hb12)
      clear H32
      clear hb12 hB11
      have qa := H33.out
      obtain ⟨qac0, qac1, qac2, qac3, qac4, qac5⟩ := cells6 (w1 := w12) (fun _ _ _ => rfl) qa
      have qal := qa.lt
      have qb := H34.out
      obtain ⟨qbc0, qbc1, qbc2, qbc3, qbc4, qbc5⟩ := cells6 (w1 := w12) (fun _ _ _ => rfl) qb
      have qbl := qb.lt
      have qc := H35.out
      obtain ⟨qcc0, qcc1, qcc2, qcc3, qcc4, qcc5⟩ := cells6 (w1 := w12) (fun _ _ _ => rfl) qc
      have qcl := qc.lt
      have qd := H36.out
      obtain ⟨qdc0, qdc1, qdc2, qdc3, qdc4, qdc5⟩ := cells6 (w1 := w12) (fun _ _ _ => rfl) qd
      have qdl := qd.lt
      go_wp2_with fail
      clear qac0 qac1 qac2 qac3 qac4 qac5 qal qa
      clear qbc0 qbc1 qbc2 qbc3 qbc4 qbc5 qbl qb
      clear qcc0 qcc1 qcc2 qcc3 qcc4 qcc5 qcl qc
      clear qdc0 qdc1 qdc2 qdc3 qdc4 qdc5 qdl qd
      refine (C50b.out _).mono ?_
      rintro e w13 ⟨rfl, hb13⟩
      have hB13 := bThen hB12 hb13
      have H37 := Lib.hid (blkDown H33.out hb13)
      clear H33
      have H38 := Lib.hid (blkDown H34.out hb13)
      clear H34
      have H39 := Lib.hid (blkDown H35.out hb13)
      clear H35
      have H40 := Lib.hid (blkDown H36.out hb13)
      clear H36
      clear hb13 hB12
      have qa := H37.out
      obtain ⟨qac0, qac1, qac2, qac3, qac4, qac5⟩ := cells6 (w1 := w13) (fun _ _ _ => rfl) qa
      have qal := qa.lt
      have qb := H38.out
      obtain ⟨qbc0, qbc1, qbc2, qbc3, qbc4, qbc5⟩ := cells6 (w1 := w13) (fun _ _ _ => rfl) qb
      have qbl := qb.lt
      have qc := H39.out
      obtain ⟨qcc0, qcc1, qcc2, qcc3, qcc4, qcc5⟩ := cells6 (w1 := w13) (fun _ _ _ => rfl) qc
      have qcl := qc.lt
      have qd := H40.out
      obtain ⟨qdc0, qdc1, qdc2, qdc3, qdc4, qdc5⟩ := cells6 (w1 := w13) (fun _ _ _ => rfl) qd
      have qdl := qd.lt
      go_wp2
      go_ret
      exact ⟨rfl, hB13⟩
  · generalize beN a b = F at *
    obtain ⟨fa, fb, fc, fe⟩ := F
    obtain ⟨y, m, d, h, i, s⟩ := a
    obtain ⟨y', m', d', h', i', s'⟩ := b
    dsimp only at *
    have be : (fe != 0) = true := by simpa using he
    clear he
    have hB0 : Below w.heap.size w w := Below.refl _ _
    go_enter Try.func22, Try.ntmps22
    go_wp2_with fail
    have hB1 : Below w.heap.size w ((w.alloc (.cells #[.int .i64 y, .int .i64 m, .int .i64 d, .int .i64 h, .int .i64 i, .int .i64 s] 24)).alloc (.cells #[.int .i64 y', .int .i64 m', .int .i64 d', .int .i64 h', .int .i64 i', .int .i64 s'] 24)) := bAl (bSelf w _) _
    have H1 : Hid (Blk ((w.alloc (.cells #[.int .i64 y, .int .i64 m, .int .i64 d, .int .i64 h, .int .i64 i, .int .i64 s] 24)).alloc (.cells #[.int .i64 y', .int .i64 m', .int .i64 d', .int .i64 h', .int .i64 i', .int .i64 s'] 24)) w.heap.size 24 [.int .i64 y, .int .i64 m, .int .i64 d, .int .i64 h, .int .i64 i, .int .i64 s]) := (Blk.new w _ _).alloc _
    have H2 : Hid (Blk ((w.alloc (.cells #[.int .i64 y, .int .i64 m, .int .i64 d, .int .i64 h, .int .i64 i, .int .i64 s] 24)).alloc (.cells #[.int .i64 y', .int .i64 m', .int .i64 d', .int .i64 h', .int .i64 i', .int .i64 s'] 24)) (w.heap.size + 1) 24 [.int .i64 y', .int .i64 m', .int .i64 d', .int .i64 h', .int .i64 i', .int .i64 s']) := newAt _ _ _ _ _ (by simp) rfl
    generalize (w.alloc (.cells #[.int .i64 y, .int .i64 m, .int .i64 d, .int .i64 h, .int .i64 i, .int .i64 s] 24)).alloc (.cells #[.int .i64 y', .int .i64 m', .int .i64 d', .int .i64 h', .int .i64 i', .int .i64 s'] 24) = w1 at *
    clear hB0
    go_wp2_with fail
    refine (C48.out _).mono ?_
    rintro e w2 ⟨rfl, hb2⟩
    have hB2 := bThen hB1 hb2
    have H3 := Lib.hid (blkDown H1.out hb2)
    clear H1
    have H4 := Lib.hid (blkDown H2.out hb2)
    clear H2
    clear hb2 hB1
    have qa := H3.out
    obtain ⟨qac0, qac1, qac2, qac3, qac4, qac5⟩ := cells6 (w1 := w2) (fun _ _ _ => rfl) qa
    have qal := qa.lt
    have qb := H4.out
    obtain ⟨qbc0, qbc1, qbc2, qbc3, qbc4, qbc5⟩ := cells6 (w1 := w2) (fun _ _ _ => rfl) qb
    have qbl := qb.lt
    go_wp2_with fail
    have qa := H3.out
    obtain ⟨qac0, qac1, qac2, qac3, qac4, qac5⟩ := cells6 (w1 := w2) (fun _ _ _ => rfl) qa
    have qal := qa.lt
    have qb := H4.out
    obtain ⟨qbc0, qbc1, qbc2, qbc3, qbc4, qbc5⟩ := cells6 (w1 := w2) (fun _ _ _ => rfl) qb
    have qbl := qb.lt
    have qar0 := cell_regrown qac0
    have qar1 := cell_regrown qac1
    have qar2 := cell_regrown qac2
    have qar3 := cell_regrown qac3
    have qar4 := cell_regrown qac4
    have qar5 := cell_regrown qac5
    have qbr0 := cell_regrown qbc0
    have qbr1 := cell_regrown qbc1
    have qbr2 := cell_regrown qbc2
    have qbr3 := cell_regrown qbc3
    have qbr4 := cell_regrown qbc4
    have qbr5 := cell_regrown qbc5
    clear qac0 qac1 qac2 qac3 qac4 qac5 qal qa
    clear qbc0 qbc1 qbc2 qbc3 qbc4 qbc5 qbl qb
    refine wp_region_quiet_below (by kernel_rfl) (by kernel_rfl) ?_
    repeat (quiet_step (first | ((go_at_call 12; (with_reducible exact Calls.regrown_of (C12a.out _))))| ((go_at_call 12; (with_reducible exact Calls.regrown_of (C12b.out _))))| ((go_at_call 49; (with_reducible exact Calls.regrown_of (C49.out _))))))
    refine wpQuiet_nil ?_
    intro _ hw'
    obtain ⟨⟨dq, osq⟩, hw''⟩ := hw'
    subst hw'' 
    clear qar0 qar1 qar2 qar3 qar4 qar5
    clear qbr0 qbr1 qbr2 qbr3 qbr4 qbr5
    have hbq := below_regrown w2 dq osq
    have hB3 := bThen hB2 hbq
    have H5 := Lib.hid (blkDown H3.out hbq)
    clear H3
    have H6 := Lib.hid (blkDown H4.out hbq)
    clear H4
    generalize grow (redrawn w2 dq) osq = w3 at *
    clear hbq hB2
    have qa := H5.out
    obtain ⟨qac0, qac1, qac2, qac3, qac4, qac5⟩ := cells6 (w1 := w3) (fun _ _ _ => rfl) qa
    have qal := qa.lt
    have qb := H6.out
    obtain ⟨qbc0, qbc1, qbc2, qbc3, qbc4, qbc5⟩ := cells6 (w1 := w3) (fun _ _ _ => rfl) qb
    have qbl := qb.lt
    go_wp2
    go_ret
    exact ⟨rfl, hB3⟩
end Go.Proofs.Ytojkkgmfccchbaa
