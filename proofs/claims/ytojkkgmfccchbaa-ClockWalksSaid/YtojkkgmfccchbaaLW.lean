/- The law ClockWalks. -/
import Derived.Test.YtojkkgmfccchbaaRH
namespace Go.Proofs.Ytojkkgmfccchbaa
open Go Go.RowKit Go.Sort

theorem wd_ok {x : Dt} (h : x.ok = true) (W : World) : Calls Try.prog 31 #[x.v] W fun e w' => e = .returned (EV (.int .i64 ((x.num + 5) % 7)) 0) ∧ Below W.heap.size W w' := by
  have := t31 x W
  rw [show wdN x = ((x.num + 5) % 7, 0) by unfold wdN; rw [if_pos h]] at this
  exact this
theorem yd_ok {x : Dt} (h : x.ok = true) (W : World) : Calls Try.prog 32 #[x.v] W fun e w' => e = .returned (EV (.int .i64 (x.num - dby x.y + 1)) 0) ∧ Below W.heap.size W w' := by
  have := t32 x W
  rw [show ydN x = (x.num - dby x.y + 1, 0) by unfold ydN; rw [if_pos h]] at this
  exact this
theorem ad_yes {x : Dt} {n : Int} (h : x.ok = true) (hn : inB n (-10000000) 10000000 = true) (hy : inB (at_ (x.sec + n * 86400)).y (-2000) 6000 = true) (W : World) :
    Calls Try.prog 30 #[x.v, .int .i64 n] W fun e w' => e = .returned (EV (at_ (x.sec + n * 86400)).v 0) ∧ Below W.heap.size W w' := by
  have := t30 x n W
  rw [show adN x n = (at_ (x.sec + n * 86400), 0) by unfold adN inY; rw [if_pos ⟨h, hn⟩, if_pos hy]] at this
  exact this
theorem ad_no {x : Dt} {n : Int} (h : x.ok = true) (hn : inB n (-10000000) 10000000 = true) (hy : ¬ inB (at_ (x.sec + n * 86400)).y (-2000) 6000 = true) (W : World) :
    Calls Try.prog 30 #[x.v, .int .i64 n] W fun e w' => e = .returned (EV Dt.zero.v 5) ∧ Below W.heap.size W w' := by
  have := t30 x n W
  rw [show adN x n = (Dt.zero, 5) by unfold adN inY; rw [if_pos ⟨h, hn⟩, if_neg hy]] at this
  exact this
theorem wk_end {x : Dt} (h : x.ok = true) (hy : ¬ inB (at_ (x.sec + 1 * 86400)).y (-2000) 6000 = true) : x.y = 6000 ∧ x.m = 12 ∧ x.d = 31 := by
  have f := ok_facts h
  have hn := ok_num h
  have hi := num_in (ok_isD h)
  have e : (at_ (x.sec + 1 * 86400)).y = yr (x.num + 1) := by rw [at_add h]
  rw [e] at hy
  have h1 : ¬ x.num + 1 < dby 6001 := fun h2 => hy (inB_iff.2 (yr_in (by rw [show dby (-2000) = -730485 by decide]; omega) h2))
  have h3 : num x.y x.m x.d = x.num := rfl
  rw [h3] at hi
  rw [show dby 6001 = 2191821 by decide] at h1
  have h4 : x.y = 6000 := by
    rcases Int.lt_or_le x.y 6000 with h5 | h5
    · have := dby_le (show x.y + 1 ≤ 6000 by omega)
      rw [show dby 6000 = 2191455 by decide] at this
      omega
    · omega
  have h6 : x.num = dby x.y + cum x.y x.m + x.d - 1 := rfl
  rw [h4, show dby 6000 = 2191455 by decide] at h6
  have dc := dim_cases 6000 x.m
  have d2 := f.2.2.1.2
  rw [h4] at d2
  have l0 := lp_01 6000
  have hm : x.m = 12 := by
    rcases Int.lt_or_le x.m 12 with h7 | h7
    · have := cum_mono 6000 f.2.1.1 (k := 12) (by omega) (by omega)
      have e12 : cum 6000 12 = 334 + lp 6000 := by simp [cum]
      have cs := cum_succ 6000 x.m f.2.1.1 (by omega)
      omega
    · omega
  refine ⟨h4, hm, ?_⟩
  rw [hm] at h6 d2
  have e12 : cum 6000 12 = 334 + lp 6000 := by simp [cum]
  have e13 : dim 6000 12 = 31 := by simp [dim]
  omega
theorem wk_next {x : Dt} (h : x.ok = true) : (at_ (x.sec + 1 * 86400)).num = x.num + 1 := by
  rw [at_day, sec_num]
  have f := ok_facts h
  unfold dayOf; omega
theorem wk_year {x : Dt} (h : x.ok = true) : (x.m = 12 ∧ x.d = 31 → (at_ (x.sec + 1 * 86400)).y = x.y + 1 ∧ x.num + 1 = dby (x.y + 1)) ∧ (¬ (x.m = 12 ∧ x.d = 31) → (at_ (x.sec + 1 * 86400)).y = x.y) := by
  have f := ok_facts h
  have hi := num_in (ok_isD h)
  have e : (at_ (x.sec + 1 * 86400)).y = yr (x.num + 1) := by rw [at_add h]
  have h3 : num x.y x.m x.d = x.num := rfl
  have h6 : x.num = dby x.y + cum x.y x.m + x.d - 1 := rfl
  have ds := dby_succ x.y
  have ds1 := dby_succ (x.y + 1)
  have l0 := lp_01 x.y
  have l1 := lp_01 (x.y + 1)
  rw [h3] at hi
  rw [e]
  constructor
  · rintro ⟨hm, hd⟩
    rw [hm, hd] at h6
    have e12 : cum x.y 12 = 334 + lp x.y := by simp [cum]
    have h7 : x.num + 1 = dby (x.y + 1) := by omega
    exact ⟨(yr_unique (by omega) (by omega)).symm, h7⟩
  · intro hn
    refine (yr_unique (by omega) ?_).symm
    rcases Int.lt_or_le x.m 12 with h7 | h7
    · have := cum_mono x.y f.2.1.1 (k := 12) (by omega) (by omega)
      have e12 : cum x.y 12 = 334 + lp x.y := by simp [cum]
      have cs := cum_succ x.y x.m f.2.1.1 (by omega)
      omega
    · have hm : x.m = 12 := by omega
      have d2 := f.2.2.1.2
      have e13 : dim x.y 12 = 31 := by simp [dim]
      rw [hm] at d2 h6
      have e12 : cum x.y 12 = 334 + lp x.y := by simp [cum]
      have hd : x.d ≠ 31 := fun hd => hn ⟨hm, hd⟩
      omega
set_option maxRecDepth 100000 in
set_option maxHeartbeats 4000000 in
theorem t9 (n : Int) (w : World) : Calls Try.prog 9 #[.int .i64 n] w fun e w' => e = .returned (.bool true) ∧ Below w.heap.size w w' := by
  go_enter Try.func9, Try.ntmps9
  go_wp2_with fail
  refine (t20 _ _).mono ?_
  rintro e w1 ⟨x, hx, rfl, hb1⟩
  have C19 := Lib.hid (t19 x)
  have C18 := Lib.hid t18
  by_cases hy : inB (at_ (x.sec + 1 * 86400)).y (-2000) 6000 = true
  · have hz := at_ok _ hy
    have C30 := Lib.hid (ad_yes hx (by decide) hy)
    have C31x := Lib.hid (wd_ok hx)
    have C31z := Lib.hid (wd_ok hz)
    have C32x := Lib.hid (yd_ok hx)
    have C32z := Lib.hid (yd_ok hz)
    have hnum := wk_next hx
    obtain ⟨hyr1, hyr2⟩ := wk_year hx
    have l0 := lp_01 x.y
    have ds := dby_succ x.y
    have f0 : 0 ≤ (x.num + 5) % 7 := by omega
    have f1 : (x.num + 5) % 7 < 7 := by omega
    have f2 : ((at_ (x.sec + 1 * 86400)).num + 5) % 7 = ((x.num + 5) % 7 + 1) % 7 := by rw [hnum]; omega
    have hn := ok_num hx
    have fx := ok_facts hx
    have hbd := dby_bd x.y (by omega) (by omega)
    rw [f2] at C31z
    clear f2 hz hx hy
    generalize (x.num + 5) % 7 = WX at *
    by_cases hm : x.m = 12
    · by_cases hd : x.d = 31
      · obtain ⟨g1, g2⟩ := hyr1 ⟨hm, hd⟩
        clear hyr1 hyr2
        have g3 : (at_ (x.sec + 1 * 86400)).num - dby (at_ (x.sec + 1 * 86400)).y + 1 = 1 := by rw [hnum, g1, g2]; omega
        have g4 : x.num - dby x.y + 1 = 365 ∨ x.num - dby x.y + 1 = 366 := by omega
        rw [g3] at C32z
        clear g3 hnum g2 ds l0
        generalize at_ (x.sec + 1 * 86400) = z at *
        obtain ⟨zy, zm, zd, zh, zi, zs⟩ := z
        rcases g4 with g4 | g4
        · rw [g4] at C32x
          clear g4 hn hbd
          obtain ⟨y, m, d, h, i, s⟩ := x
          dsimp only at *
          subst hm hd g1
          obtain ⟨⟨fy1, fy2⟩, _⟩ := fx
          have hB1 : Below w.heap.size w w1 := hb1
          clear hb1
          go_wp2_with fail
          refine (C19.out _).mono ?_
          rintro e w2 ⟨rfl, hb2⟩
          have hB2 := bThen hB1 hb2
          clear hb2 hB1
          go_wp2_with fail
          have hB3 := bAl hB2 (.cells #[.int .i64 y, .int .i64 12, .int .i64 31, .int .i64 h, .int .i64 i, .int .i64 s] 24)
          have H1 : Hid (Blk (w2.alloc (.cells #[.int .i64 y, .int .i64 12, .int .i64 31, .int .i64 h, .int .i64 i, .int .i64 s] 24)) w2.heap.size 24 [.int .i64 y, .int .i64 12, .int .i64 31, .int .i64 h, .int .i64 i, .int .i64 s]) := Blk.new w2 #[.int .i64 y, .int .i64 12, .int .i64 31, .int .i64 h, .int .i64 i, .int .i64 s] 24
          generalize w2.alloc (.cells #[.int .i64 y, .int .i64 12, .int .i64 31, .int .i64 h, .int .i64 i, .int .i64 s] 24) = w3 at *
          clear hB2
          have a := H1.out
          obtain ⟨ac0, ac1, ac2, ac3, ac4, ac5⟩ := cells6 (w1 := w3) (fun _ _ _ => rfl) a
          have al := a.lt
          go_wp2_with fail
          clear ac0 ac1 ac2 ac3 ac4 ac5 al a
          refine (C30.out _).mono ?_
          rintro e w4 ⟨rfl, hb4⟩
          have hB4 := bThen hB3 hb4
          have H2 := Lib.hid (blkDown H1.out hb4)
          clear H1
          clear hb4 hB3
          have a := H2.out
          obtain ⟨ac0, ac1, ac2, ac3, ac4, ac5⟩ := cells6 (w1 := w4) (fun _ _ _ => rfl) a
          have al := a.lt
          go_wp2_with fail
          clear ac0 ac1 ac2 ac3 ac4 ac5 al a
          have hB5 := bAl hB4 (.cells #[.int .i64 (y + 1), .int .i64 zm, .int .i64 zd, .int .i64 zh, .int .i64 zi, .int .i64 zs] 24)
          have H3 := Lib.hid (H2.out.alloc (.cells #[.int .i64 (y + 1), .int .i64 zm, .int .i64 zd, .int .i64 zh, .int .i64 zi, .int .i64 zs] 24))
          clear H2
          have H4 : Hid (Blk (w4.alloc (.cells #[.int .i64 (y + 1), .int .i64 zm, .int .i64 zd, .int .i64 zh, .int .i64 zi, .int .i64 zs] 24)) w4.heap.size 24 [.int .i64 (y + 1), .int .i64 zm, .int .i64 zd, .int .i64 zh, .int .i64 zi, .int .i64 zs]) := Blk.new w4 #[.int .i64 (y + 1), .int .i64 zm, .int .i64 zd, .int .i64 zh, .int .i64 zi, .int .i64 zs] 24
          generalize w4.alloc (.cells #[.int .i64 (y + 1), .int .i64 zm, .int .i64 zd, .int .i64 zh, .int .i64 zi, .int .i64 zs] 24) = w5 at *
          clear hB4
          have a := H3.out
          obtain ⟨ac0, ac1, ac2, ac3, ac4, ac5⟩ := cells6 (w1 := w5) (fun _ _ _ => rfl) a
          have al := a.lt
          have b := H4.out
          obtain ⟨bc0, bc1, bc2, bc3, bc4, bc5⟩ := cells6 (w1 := w5) (fun _ _ _ => rfl) b
          have bl := b.lt
          go_wp2_with fail
          clear ac0 ac1 ac2 ac3 ac4 ac5 al a
          clear bc0 bc1 bc2 bc3 bc4 bc5 bl b
          refine (C31x.out _).mono ?_
          rintro e w6 ⟨rfl, hb6⟩
          have hB6 := bThen hB5 hb6
          have H5 := Lib.hid (blkDown H3.out hb6)
          clear H3
          have H6 := Lib.hid (blkDown H4.out hb6)
          clear H4
          clear hb6 hB5
          have a := H5.out
          obtain ⟨ac0, ac1, ac2, ac3, ac4, ac5⟩ := cells6 (w1 := w6) (fun _ _ _ => rfl) a
          have al := a.lt
          have b := H6.out
          obtain ⟨bc0, bc1, bc2, bc3, bc4, bc5⟩ := cells6 (w1 := w6) (fun _ _ _ => rfl) b
          have bl := b.lt
          go_wp2_with fail
          clear ac0 ac1 ac2 ac3 ac4 ac5 al a
          clear bc0 bc1 bc2 bc3 bc4 bc5 bl b
          refine (C31z.out _).mono ?_
          rintro e w7 ⟨rfl, hb7⟩
          have hB7 := bThen hB6 hb7
          have H7 := Lib.hid (blkDown H5.out hb7)
          clear H5
          have H8 := Lib.hid (blkDown H6.out hb7)
          clear H6
          clear hb7 hB6
          have a := H7.out
          obtain ⟨ac0, ac1, ac2, ac3, ac4, ac5⟩ := cells6 (w1 := w7) (fun _ _ _ => rfl) a
          have al := a.lt
          have b := H8.out
          obtain ⟨bc0, bc1, bc2, bc3, bc4, bc5⟩ := cells6 (w1 := w7) (fun _ _ _ => rfl) b
          have bl := b.lt
          go_wp2_with fail
          clear ac0 ac1 ac2 ac3 ac4 ac5 al a
          clear bc0 bc1 bc2 bc3 bc4 bc5 bl b
          refine (C32x.out _).mono ?_
          rintro e w8 ⟨rfl, hb8⟩
          have hB8 := bThen hB7 hb8
          have H9 := Lib.hid (blkDown H7.out hb8)
          clear H7
          have H10 := Lib.hid (blkDown H8.out hb8)
          clear H8
          clear hb8 hB7
          have a := H9.out
          obtain ⟨ac0, ac1, ac2, ac3, ac4, ac5⟩ := cells6 (w1 := w8) (fun _ _ _ => rfl) a
          have al := a.lt
          have b := H10.out
          obtain ⟨bc0, bc1, bc2, bc3, bc4, bc5⟩ := cells6 (w1 := w8) (fun _ _ _ => rfl) b
          have bl := b.lt
          go_wp2_with fail
          clear ac0 ac1 ac2 ac3 ac4 ac5 al a
          clear bc0 bc1 bc2 bc3 bc4 bc5 bl b
          refine (C32z.out _).mono ?_
          rintro e w9 ⟨rfl, hb9⟩
          have hB9 := bThen hB8 hb9
          have H11 := Lib.hid (blkDown H9.out hb9)
          clear H9
          have H12 := Lib.hid (blkDown H10.out hb9)
          clear H10
          clear hb9 hB8
          have a := H11.out
          obtain ⟨ac0, ac1, ac2, ac3, ac4, ac5⟩ := cells6 (w1 := w9) (fun _ _ _ => rfl) a
          have al := a.lt
          have b := H12.out
          obtain ⟨bc0, bc1, bc2, bc3, bc4, bc5⟩ := cells6 (w1 := w9) (fun _ _ _ => rfl) b
          have bl := b.lt
          go_wp2_with fail
          clear ac0 ac1 ac2 ac3 ac4 ac5 al a
          clear bc0 bc1 bc2 bc3 bc4 bc5 bl b
          refine (C18.out _).mono ?_
          rintro e w10 ⟨rfl, hb10⟩
          have hB10 := bThen hB9 hb10
          have H13 := Lib.hid (blkDown H11.out hb10)
          clear H11
          have H14 := Lib.hid (blkDown H12.out hb10)
          clear H12
          clear hb10 hB9
          have a := H13.out
          obtain ⟨ac0, ac1, ac2, ac3, ac4, ac5⟩ := cells6 (w1 := w10) (fun _ _ _ => rfl) a
          have al := a.lt
          have b := H14.out
          obtain ⟨bc0, bc1, bc2, bc3, bc4, bc5⟩ := cells6 (w1 := w10) (fun _ _ _ => rfl) b
          have bl := b.lt
          go_wp2
          go_ret
          exact ⟨rfl, hB10⟩
        · rw [g4] at C32x
          clear g4 hn hbd
          obtain ⟨y, m, d, h, i, s⟩ := x
          dsimp only at *
          subst hm hd g1
          obtain ⟨⟨fy1, fy2⟩, _⟩ := fx
          have hB1 : Below w.heap.size w w1 := hb1
          clear hb1
          go_wp2_with fail
          refine (C19.out _).mono ?_
          rintro e w2 ⟨rfl, hb2⟩
          have hB2 := bThen hB1 hb2
          clear hb2 hB1
          go_wp2_with fail
          have hB3 := bAl hB2 (.cells #[.int .i64 y, .int .i64 12, .int .i64 31, .int .i64 h, .int .i64 i, .int .i64 s] 24)
          have H1 : Hid (Blk (w2.alloc (.cells #[.int .i64 y, .int .i64 12, .int .i64 31, .int .i64 h, .int .i64 i, .int .i64 s] 24)) w2.heap.size 24 [.int .i64 y, .int .i64 12, .int .i64 31, .int .i64 h, .int .i64 i, .int .i64 s]) := Blk.new w2 #[.int .i64 y, .int .i64 12, .int .i64 31, .int .i64 h, .int .i64 i, .int .i64 s] 24
          generalize w2.alloc (.cells #[.int .i64 y, .int .i64 12, .int .i64 31, .int .i64 h, .int .i64 i, .int .i64 s] 24) = w3 at *
          clear hB2
          have a := H1.out
          obtain ⟨ac0, ac1, ac2, ac3, ac4, ac5⟩ := cells6 (w1 := w3) (fun _ _ _ => rfl) a
          have al := a.lt
          go_wp2_with fail
          clear ac0 ac1 ac2 ac3 ac4 ac5 al a
          refine (C30.out _).mono ?_
          rintro e w4 ⟨rfl, hb4⟩
          have hB4 := bThen hB3 hb4
          have H2 := Lib.hid (blkDown H1.out hb4)
          clear H1
          clear hb4 hB3
          have a := H2.out
          obtain ⟨ac0, ac1, ac2, ac3, ac4, ac5⟩ := cells6 (w1 := w4) (fun _ _ _ => rfl) a
          have al := a.lt
          go_wp2_with fail
          clear ac0 ac1 ac2 ac3 ac4 ac5 al a
          have hB5 := bAl hB4 (.cells #[.int .i64 (y + 1), .int .i64 zm, .int .i64 zd, .int .i64 zh, .int .i64 zi, .int .i64 zs] 24)
          have H3 := Lib.hid (H2.out.alloc (.cells #[.int .i64 (y + 1), .int .i64 zm, .int .i64 zd, .int .i64 zh, .int .i64 zi, .int .i64 zs] 24))
          clear H2
          have H4 : Hid (Blk (w4.alloc (.cells #[.int .i64 (y + 1), .int .i64 zm, .int .i64 zd, .int .i64 zh, .int .i64 zi, .int .i64 zs] 24)) w4.heap.size 24 [.int .i64 (y + 1), .int .i64 zm, .int .i64 zd, .int .i64 zh, .int .i64 zi, .int .i64 zs]) := Blk.new w4 #[.int .i64 (y + 1), .int .i64 zm, .int .i64 zd, .int .i64 zh, .int .i64 zi, .int .i64 zs] 24
          generalize w4.alloc (.cells #[.int .i64 (y + 1), .int .i64 zm, .int .i64 zd, .int .i64 zh, .int .i64 zi, .int .i64 zs] 24) = w5 at *
          clear hB4
          have a := H3.out
          obtain ⟨ac0, ac1, ac2, ac3, ac4, ac5⟩ := cells6 (w1 := w5) (fun _ _ _ => rfl) a
          have al := a.lt
          have b := H4.out
          obtain ⟨bc0, bc1, bc2, bc3, bc4, bc5⟩ := cells6 (w1 := w5) (fun _ _ _ => rfl) b
          have bl := b.lt
          go_wp2_with fail
          clear ac0 ac1 ac2 ac3 ac4 ac5 al a
          clear bc0 bc1 bc2 bc3 bc4 bc5 bl b
          refine (C31x.out _).mono ?_
          rintro e w6 ⟨rfl, hb6⟩
          have hB6 := bThen hB5 hb6
          have H5 := Lib.hid (blkDown H3.out hb6)
          clear H3
          have H6 := Lib.hid (blkDown H4.out hb6)
          clear H4
          clear hb6 hB5
          have a := H5.out
          obtain ⟨ac0, ac1, ac2, ac3, ac4, ac5⟩ := cells6 (w1 := w6) (fun _ _ _ => rfl) a
          have al := a.lt
          have b := H6.out
          obtain ⟨bc0, bc1, bc2, bc3, bc4, bc5⟩ := cells6 (w1 := w6) (fun _ _ _ => rfl) b
          have bl := b.lt
          go_wp2_with fail
          clear ac0 ac1 ac2 ac3 ac4 ac5 al a
          clear bc0 bc1 bc2 bc3 bc4 bc5 bl b
          refine (C31z.out _).mono ?_
          rintro e w7 ⟨rfl, hb7⟩
          have hB7 := bThen hB6 hb7
          have H7 := Lib.hid (blkDown H5.out hb7)
          clear H5
          have H8 := Lib.hid (blkDown H6.out hb7)
          clear H6
          clear hb7 hB6
          have a := H7.out
          obtain ⟨ac0, ac1, ac2, ac3, ac4, ac5⟩ := cells6 (w1 := w7) (fun _ _ _ => rfl) a
          have al := a.lt
          have b := H8.out
          obtain ⟨bc0, bc1, bc2, bc3, bc4, bc5⟩ := cells6 (w1 := w7) (fun _ _ _ => rfl) b
          have bl := b.lt
          go_wp2_with fail
          clear ac0 ac1 ac2 ac3 ac4 ac5 al a
          clear bc0 bc1 bc2 bc3 bc4 bc5 bl b
          refine (C32x.out _).mono ?_
          rintro e w8 ⟨rfl, hb8⟩
          have hB8 := bThen hB7 hb8
          have H9 := Lib.hid (blkDown H7.out hb8)
          clear H7
          have H10 := Lib.hid (blkDown H8.out hb8)
          clear H8
          clear hb8 hB7
          have a := H9.out
          obtain ⟨ac0, ac1, ac2, ac3, ac4, ac5⟩ := cells6 (w1 := w8) (fun _ _ _ => rfl) a
          have al := a.lt
          have b := H10.out
          obtain ⟨bc0, bc1, bc2, bc3, bc4, bc5⟩ := cells6 (w1 := w8) (fun _ _ _ => rfl) b
          have bl := b.lt
          go_wp2_with fail
          clear ac0 ac1 ac2 ac3 ac4 ac5 al a
          clear bc0 bc1 bc2 bc3 bc4 bc5 bl b
          refine (C32z.out _).mono ?_
          rintro e w9 ⟨rfl, hb9⟩
          have hB9 := bThen hB8 hb9
          have H11 := Lib.hid (blkDown H9.out hb9)
          clear H9
          have H12 := Lib.hid (blkDown H10.out hb9)
          clear H10
          clear hb9 hB8
          have a := H11.out
          obtain ⟨ac0, ac1, ac2, ac3, ac4, ac5⟩ := cells6 (w1 := w9) (fun _ _ _ => rfl) a
          have al := a.lt
          have b := H12.out
          obtain ⟨bc0, bc1, bc2, bc3, bc4, bc5⟩ := cells6 (w1 := w9) (fun _ _ _ => rfl) b
          have bl := b.lt
          go_wp2_with fail
          clear ac0 ac1 ac2 ac3 ac4 ac5 al a
          clear bc0 bc1 bc2 bc3 bc4 bc5 bl b
          refine (C18.out _).mono ?_
          rintro e w10 ⟨rfl, hb10⟩
          have hB10 := bThen hB9 hb10
          have H13 := Lib.hid (blkDown H11.out hb10)
          clear H11
          have H14 := Lib.hid (blkDown H12.out hb10)
          clear H12
          clear hb10 hB9
          have a := H13.out
          obtain ⟨ac0, ac1, ac2, ac3, ac4, ac5⟩ := cells6 (w1 := w10) (fun _ _ _ => rfl) a
          have al := a.lt
          have b := H14.out
          obtain ⟨bc0, bc1, bc2, bc3, bc4, bc5⟩ := cells6 (w1 := w10) (fun _ _ _ => rfl) b
          have bl := b.lt
          go_wp2
          go_ret
          exact ⟨rfl, hB10⟩
      · have g1 := hyr2 (fun h => hd h.2)
        clear hyr1 hyr2
        have bd : (x.d == 31) = false := by simpa using hd
        have g3 : (at_ (x.sec + 1 * 86400)).num - dby (at_ (x.sec + 1 * 86400)).y + 1 = x.num - dby x.y + 1 + 1 := by rw [hnum, g1]; omega
        rw [g3] at C32z
        clear g3 hnum ds l0 hd
        have g5 : -100000000 ≤ x.num - dby x.y + 1 := by omega
        have g6 : x.num - dby x.y + 1 ≤ 100000000 := by omega
        generalize x.num - dby x.y + 1 = YX at *
        generalize at_ (x.sec + 1 * 86400) = z at *
        obtain ⟨zy, zm, zd, zh, zi, zs⟩ := z
        clear hn hbd fx
        obtain ⟨y, m, d, h, i, s⟩ := x
        dsimp only at *
        subst hm g1
        have hB1 : Below w.heap.size w w1 := hb1
        clear hb1
        go_wp2_with fail
        refine (C19.out _).mono ?_
        rintro e w2 ⟨rfl, hb2⟩
        have hB2 := bThen hB1 hb2
        clear hb2 hB1
        go_wp2_with fail
        have hB3 := bAl hB2 (.cells #[.int .i64 zy, .int .i64 12, .int .i64 d, .int .i64 h, .int .i64 i, .int .i64 s] 24)
        have H1 : Hid (Blk (w2.alloc (.cells #[.int .i64 zy, .int .i64 12, .int .i64 d, .int .i64 h, .int .i64 i, .int .i64 s] 24)) w2.heap.size 24 [.int .i64 zy, .int .i64 12, .int .i64 d, .int .i64 h, .int .i64 i, .int .i64 s]) := Blk.new w2 #[.int .i64 zy, .int .i64 12, .int .i64 d, .int .i64 h, .int .i64 i, .int .i64 s] 24
        generalize w2.alloc (.cells #[.int .i64 zy, .int .i64 12, .int .i64 d, .int .i64 h, .int .i64 i, .int .i64 s] 24) = w3 at *
        clear hB2
        have a := H1.out
        obtain ⟨ac0, ac1, ac2, ac3, ac4, ac5⟩ := cells6 (w1 := w3) (fun _ _ _ => rfl) a
        have al := a.lt
        go_wp2_with fail
        clear ac0 ac1 ac2 ac3 ac4 ac5 al a
        refine (C30.out _).mono ?_
        rintro e w4 ⟨rfl, hb4⟩
        have hB4 := bThen hB3 hb4
        have H2 := Lib.hid (blkDown H1.out hb4)
        clear H1
        clear hb4 hB3
        have a := H2.out
        obtain ⟨ac0, ac1, ac2, ac3, ac4, ac5⟩ := cells6 (w1 := w4) (fun _ _ _ => rfl) a
        have al := a.lt
        go_wp2_with fail
        clear ac0 ac1 ac2 ac3 ac4 ac5 al a
        have hB5 := bAl hB4 (.cells #[.int .i64 zy, .int .i64 zm, .int .i64 zd, .int .i64 zh, .int .i64 zi, .int .i64 zs] 24)
        have H3 := Lib.hid (H2.out.alloc (.cells #[.int .i64 zy, .int .i64 zm, .int .i64 zd, .int .i64 zh, .int .i64 zi, .int .i64 zs] 24))
        clear H2
        have H4 : Hid (Blk (w4.alloc (.cells #[.int .i64 zy, .int .i64 zm, .int .i64 zd, .int .i64 zh, .int .i64 zi, .int .i64 zs] 24)) w4.heap.size 24 [.int .i64 zy, .int .i64 zm, .int .i64 zd, .int .i64 zh, .int .i64 zi, .int .i64 zs]) := Blk.new w4 #[.int .i64 zy, .int .i64 zm, .int .i64 zd, .int .i64 zh, .int .i64 zi, .int .i64 zs] 24
        generalize w4.alloc (.cells #[.int .i64 zy, .int .i64 zm, .int .i64 zd, .int .i64 zh, .int .i64 zi, .int .i64 zs] 24) = w5 at *
        clear hB4
        have a := H3.out
        obtain ⟨ac0, ac1, ac2, ac3, ac4, ac5⟩ := cells6 (w1 := w5) (fun _ _ _ => rfl) a
        have al := a.lt
        have b := H4.out
        obtain ⟨bc0, bc1, bc2, bc3, bc4, bc5⟩ := cells6 (w1 := w5) (fun _ _ _ => rfl) b
        have bl := b.lt
        go_wp2_with fail
        clear ac0 ac1 ac2 ac3 ac4 ac5 al a
        clear bc0 bc1 bc2 bc3 bc4 bc5 bl b
        refine (C31x.out _).mono ?_
        rintro e w6 ⟨rfl, hb6⟩
        have hB6 := bThen hB5 hb6
        have H5 := Lib.hid (blkDown H3.out hb6)
        clear H3
        have H6 := Lib.hid (blkDown H4.out hb6)
        clear H4
        clear hb6 hB5
        have a := H5.out
        obtain ⟨ac0, ac1, ac2, ac3, ac4, ac5⟩ := cells6 (w1 := w6) (fun _ _ _ => rfl) a
        have al := a.lt
        have b := H6.out
        obtain ⟨bc0, bc1, bc2, bc3, bc4, bc5⟩ := cells6 (w1 := w6) (fun _ _ _ => rfl) b
        have bl := b.lt
        go_wp2_with fail
        clear ac0 ac1 ac2 ac3 ac4 ac5 al a
        clear bc0 bc1 bc2 bc3 bc4 bc5 bl b
        refine (C31z.out _).mono ?_
        rintro e w7 ⟨rfl, hb7⟩
        have hB7 := bThen hB6 hb7
        have H7 := Lib.hid (blkDown H5.out hb7)
        clear H5
        have H8 := Lib.hid (blkDown H6.out hb7)
        clear H6
        clear hb7 hB6
        have a := H7.out
        obtain ⟨ac0, ac1, ac2, ac3, ac4, ac5⟩ := cells6 (w1 := w7) (fun _ _ _ => rfl) a
        have al := a.lt
        have b := H8.out
        obtain ⟨bc0, bc1, bc2, bc3, bc4, bc5⟩ := cells6 (w1 := w7) (fun _ _ _ => rfl) b
        have bl := b.lt
        go_wp2_with fail
        clear ac0 ac1 ac2 ac3 ac4 ac5 al a
        clear bc0 bc1 bc2 bc3 bc4 bc5 bl b
        refine (C32x.out _).mono ?_
        rintro e w8 ⟨rfl, hb8⟩
        have hB8 := bThen hB7 hb8
        have H9 := Lib.hid (blkDown H7.out hb8)
        clear H7
        have H10 := Lib.hid (blkDown H8.out hb8)
        clear H8
        clear hb8 hB7
        have a := H9.out
        obtain ⟨ac0, ac1, ac2, ac3, ac4, ac5⟩ := cells6 (w1 := w8) (fun _ _ _ => rfl) a
        have al := a.lt
        have b := H10.out
        obtain ⟨bc0, bc1, bc2, bc3, bc4, bc5⟩ := cells6 (w1 := w8) (fun _ _ _ => rfl) b
        have bl := b.lt
        go_wp2_with fail
        clear ac0 ac1 ac2 ac3 ac4 ac5 al a
        clear bc0 bc1 bc2 bc3 bc4 bc5 bl b
        refine (C32z.out _).mono ?_
        rintro e w9 ⟨rfl, hb9⟩
        have hB9 := bThen hB8 hb9
        have H11 := Lib.hid (blkDown H9.out hb9)
        clear H9
        have H12 := Lib.hid (blkDown H10.out hb9)
        clear H10
        clear hb9 hB8
        have a := H11.out
        obtain ⟨ac0, ac1, ac2, ac3, ac4, ac5⟩ := cells6 (w1 := w9) (fun _ _ _ => rfl) a
        have al := a.lt
        have b := H12.out
        obtain ⟨bc0, bc1, bc2, bc3, bc4, bc5⟩ := cells6 (w1 := w9) (fun _ _ _ => rfl) b
        have bl := b.lt
        go_wp2_with fail
        clear ac0 ac1 ac2 ac3 ac4 ac5 al a
        clear bc0 bc1 bc2 bc3 bc4 bc5 bl b
        refine (C18.out _).mono ?_
        rintro e w10 ⟨rfl, hb10⟩
        have hB10 := bThen hB9 hb10
        have H13 := Lib.hid (blkDown H11.out hb10)
        clear H11
        have H14 := Lib.hid (blkDown H12.out hb10)
        clear H12
        clear hb10 hB9
        have a := H13.out
        obtain ⟨ac0, ac1, ac2, ac3, ac4, ac5⟩ := cells6 (w1 := w10) (fun _ _ _ => rfl) a
        have al := a.lt
        have b := H14.out
        obtain ⟨bc0, bc1, bc2, bc3, bc4, bc5⟩ := cells6 (w1 := w10) (fun _ _ _ => rfl) b
        have bl := b.lt
        go_wp2
        go_ret
        exact ⟨rfl, hB10⟩
    · have g1 := hyr2 (fun h => hm h.1)
      clear hyr1 hyr2
      have bm : (x.m == 12) = false := by simpa using hm
      have g3 : (at_ (x.sec + 1 * 86400)).num - dby (at_ (x.sec + 1 * 86400)).y + 1 = x.num - dby x.y + 1 + 1 := by rw [hnum, g1]; omega
      rw [g3] at C32z
      clear g3 hnum ds l0 hm
      have g5 : -100000000 ≤ x.num - dby x.y + 1 := by omega
      have g6 : x.num - dby x.y + 1 ≤ 100000000 := by omega
      generalize x.num - dby x.y + 1 = YX at *
      generalize at_ (x.sec + 1 * 86400) = z at *
      obtain ⟨zy, zm, zd, zh, zi, zs⟩ := z
      clear hn hbd fx
      obtain ⟨y, m, d, h, i, s⟩ := x
      dsimp only at *
      subst g1
      have hB1 : Below w.heap.size w w1 := hb1
      clear hb1
      go_wp2_with fail
      refine (C19.out _).mono ?_
      rintro e w2 ⟨rfl, hb2⟩
      have hB2 := bThen hB1 hb2
      clear hb2 hB1
      go_wp2_with fail
      have hB3 := bAl hB2 (.cells #[.int .i64 zy, .int .i64 m, .int .i64 d, .int .i64 h, .int .i64 i, .int .i64 s] 24)
      have H1 : Hid (Blk (w2.alloc (.cells #[.int .i64 zy, .int .i64 m, .int .i64 d, .int .i64 h, .int .i64 i, .int .i64 s] 24)) w2.heap.size 24 [.int .i64 zy, .int .i64 m, .int .i64 d, .int .i64 h, .int .i64 i, .int .i64 s]) := Blk.new w2 #[.int .i64 zy, .int .i64 m, .int .i64 d, .int .i64 h, .int .i64 i, .int .i64 s] 24
      generalize w2.alloc (.cells #[.int .i64 zy, .int .i64 m, .int .i64 d, .int .i64 h, .int .i64 i, .int .i64 s] 24) = w3 at *
      clear hB2
      have a := H1.out
      obtain ⟨ac0, ac1, ac2, ac3, ac4, ac5⟩ := cells6 (w1 := w3) (fun _ _ _ => rfl) a
      have al := a.lt
      go_wp2_with fail
      clear ac0 ac1 ac2 ac3 ac4 ac5 al a
      refine (C30.out _).mono ?_
      rintro e w4 ⟨rfl, hb4⟩
      have hB4 := bThen hB3 hb4
      have H2 := Lib.hid (blkDown H1.out hb4)
      clear H1
      clear hb4 hB3
      have a := H2.out
      obtain ⟨ac0, ac1, ac2, ac3, ac4, ac5⟩ := cells6 (w1 := w4) (fun _ _ _ => rfl) a
      have al := a.lt
      go_wp2_with fail
      clear ac0 ac1 ac2 ac3 ac4 ac5 al a
      have hB5 := bAl hB4 (.cells #[.int .i64 zy, .int .i64 zm, .int .i64 zd, .int .i64 zh, .int .i64 zi, .int .i64 zs] 24)
      have H3 := Lib.hid (H2.out.alloc (.cells #[.int .i64 zy, .int .i64 zm, .int .i64 zd, .int .i64 zh, .int .i64 zi, .int .i64 zs] 24))
      clear H2
      have H4 : Hid (Blk (w4.alloc (.cells #[.int .i64 zy, .int .i64 zm, .int .i64 zd, .int .i64 zh, .int .i64 zi, .int .i64 zs] 24)) w4.heap.size 24 [.int .i64 zy, .int .i64 zm, .int .i64 zd, .int .i64 zh, .int .i64 zi, .int .i64 zs]) := Blk.new w4 #[.int .i64 zy, .int .i64 zm, .int .i64 zd, .int .i64 zh, .int .i64 zi, .int .i64 zs] 24
      generalize w4.alloc (.cells #[.int .i64 zy, .int .i64 zm, .int .i64 zd, .int .i64 zh, .int .i64 zi, .int .i64 zs] 24) = w5 at *
      clear hB4
      have a := H3.out
      obtain ⟨ac0, ac1, ac2, ac3, ac4, ac5⟩ := cells6 (w1 := w5) (fun _ _ _ => rfl) a
      have al := a.lt
      have b := H4.out
      obtain ⟨bc0, bc1, bc2, bc3, bc4, bc5⟩ := cells6 (w1 := w5) (fun _ _ _ => rfl) b
      have bl := b.lt
      go_wp2_with fail
      clear ac0 ac1 ac2 ac3 ac4 ac5 al a
      clear bc0 bc1 bc2 bc3 bc4 bc5 bl b
      refine (C31x.out _).mono ?_
      rintro e w6 ⟨rfl, hb6⟩
      have hB6 := bThen hB5 hb6
      have H5 := Lib.hid (blkDown H3.out hb6)
      clear H3
      have H6 := Lib.hid (blkDown H4.out hb6)
      clear H4
      clear hb6 hB5
      have a := H5.out
      obtain ⟨ac0, ac1, ac2, ac3, ac4, ac5⟩ := cells6 (w1 := w6) (fun _ _ _ => rfl) a
      have al := a.lt
      have b := H6.out
      obtain ⟨bc0, bc1, bc2, bc3, bc4, bc5⟩ := cells6 (w1 := w6) (fun _ _ _ => rfl) b
      have bl := b.lt
      go_wp2_with fail
      clear ac0 ac1 ac2 ac3 ac4 ac5 al a
      clear bc0 bc1 bc2 bc3 bc4 bc5 bl b
      refine (C31z.out _).mono ?_
      rintro e w7 ⟨rfl, hb7⟩
      have hB7 := bThen hB6 hb7
      have H7 := Lib.hid (blkDown H5.out hb7)
      clear H5
      have H8 := Lib.hid (blkDown H6.out hb7)
      clear H6
      clear hb7 hB6
      have a := H7.out
      obtain ⟨ac0, ac1, ac2, ac3, ac4, ac5⟩ := cells6 (w1 := w7) (fun _ _ _ => rfl) a
      have al := a.lt
      have b := H8.out
      obtain ⟨bc0, bc1, bc2, bc3, bc4, bc5⟩ := cells6 (w1 := w7) (fun _ _ _ => rfl) b
      have bl := b.lt
      go_wp2_with fail
      clear ac0 ac1 ac2 ac3 ac4 ac5 al a
      clear bc0 bc1 bc2 bc3 bc4 bc5 bl b
      refine (C32x.out _).mono ?_
      rintro e w8 ⟨rfl, hb8⟩
      have hB8 := bThen hB7 hb8
      have H9 := Lib.hid (blkDown H7.out hb8)
      clear H7
      have H10 := Lib.hid (blkDown H8.out hb8)
      clear H8
      clear hb8 hB7
      have a := H9.out
      obtain ⟨ac0, ac1, ac2, ac3, ac4, ac5⟩ := cells6 (w1 := w8) (fun _ _ _ => rfl) a
      have al := a.lt
      have b := H10.out
      obtain ⟨bc0, bc1, bc2, bc3, bc4, bc5⟩ := cells6 (w1 := w8) (fun _ _ _ => rfl) b
      have bl := b.lt
      go_wp2_with fail
      clear ac0 ac1 ac2 ac3 ac4 ac5 al a
      clear bc0 bc1 bc2 bc3 bc4 bc5 bl b
      refine (C32z.out _).mono ?_
      rintro e w9 ⟨rfl, hb9⟩
      have hB9 := bThen hB8 hb9
      have H11 := Lib.hid (blkDown H9.out hb9)
      clear H9
      have H12 := Lib.hid (blkDown H10.out hb9)
      clear H10
      clear hb9 hB8
      have a := H11.out
      obtain ⟨ac0, ac1, ac2, ac3, ac4, ac5⟩ := cells6 (w1 := w9) (fun _ _ _ => rfl) a
      have al := a.lt
      have b := H12.out
      obtain ⟨bc0, bc1, bc2, bc3, bc4, bc5⟩ := cells6 (w1 := w9) (fun _ _ _ => rfl) b
      have bl := b.lt
      go_wp2_with fail
      clear ac0 ac1 ac2 ac3 ac4 ac5 al a
      clear bc0 bc1 bc2 bc3 bc4 bc5 bl b
      refine (C18.out _).mono ?_
      rintro e w10 ⟨rfl, hb10⟩
      have hB10 := bThen hB9 hb10
      have H13 := Lib.hid (blkDown H11.out hb10)
      clear H11
      have H14 := Lib.hid (blkDown H12.out hb10)
      clear H12
      clear hb10 hB9
      have a := H13.out
      obtain ⟨ac0, ac1, ac2, ac3, ac4, ac5⟩ := cells6 (w1 := w10) (fun _ _ _ => rfl) a
      have al := a.lt
      have b := H14.out
      obtain ⟨bc0, bc1, bc2, bc3, bc4, bc5⟩ := cells6 (w1 := w10) (fun _ _ _ => rfl) b
      have bl := b.lt
      go_wp2
      go_ret
      exact ⟨rfl, hB10⟩
  · have C30 := Lib.hid (ad_no hx (by decide) hy)
    obtain ⟨h1, h2, h3⟩ := wk_end hx hy
    clear hy hx
    obtain ⟨y, m, d, h, i, s⟩ := x
    dsimp only at *
    subst h1 h2 h3
    have hB1 : Below w.heap.size w w1 := hb1
    clear hb1
    go_wp2_with fail
    refine (C19.out _).mono ?_
    rintro e w2 ⟨rfl, hb2⟩
    have hB2 := bThen hB1 hb2
    clear hb2 hB1
    go_wp2_with fail
    have hB3 := bAl hB2 (.cells #[.int .i64 6000, .int .i64 12, .int .i64 31, .int .i64 h, .int .i64 i, .int .i64 s] 24)
    have H1 : Hid (Blk (w2.alloc (.cells #[.int .i64 6000, .int .i64 12, .int .i64 31, .int .i64 h, .int .i64 i, .int .i64 s] 24)) w2.heap.size 24 [.int .i64 6000, .int .i64 12, .int .i64 31, .int .i64 h, .int .i64 i, .int .i64 s]) := Blk.new w2 #[.int .i64 6000, .int .i64 12, .int .i64 31, .int .i64 h, .int .i64 i, .int .i64 s] 24
    generalize w2.alloc (.cells #[.int .i64 6000, .int .i64 12, .int .i64 31, .int .i64 h, .int .i64 i, .int .i64 s] 24) = w3 at *
    clear hB2
    have a := H1.out
    obtain ⟨ac0, ac1, ac2, ac3, ac4, ac5⟩ := cells6 (w1 := w3) (fun _ _ _ => rfl) a
    have al := a.lt
    go_wp2_with fail
    clear ac0 ac1 ac2 ac3 ac4 ac5 al a
    refine (C30.out _).mono ?_
    rintro e w4 ⟨rfl, hb4⟩
    have hB4 := bThen hB3 hb4
    have H2 := Lib.hid (blkDown H1.out hb4)
    clear H1
    clear hb4 hB3
    have a := H2.out
    obtain ⟨ac0, ac1, ac2, ac3, ac4, ac5⟩ := cells6 (w1 := w4) (fun _ _ _ => rfl) a
    have al := a.lt
    go_wp2_with fail
    clear ac0 ac1 ac2 ac3 ac4 ac5 al a
    have hB5 := bAl hB4 (.cells #[.int .i64 Dt.zero.y, .int .i64 Dt.zero.m, .int .i64 Dt.zero.d, .int .i64 Dt.zero.h, .int .i64 Dt.zero.mi, .int .i64 Dt.zero.s] 24)
    have H3 := Lib.hid (H2.out.alloc (.cells #[.int .i64 Dt.zero.y, .int .i64 Dt.zero.m, .int .i64 Dt.zero.d, .int .i64 Dt.zero.h, .int .i64 Dt.zero.mi, .int .i64 Dt.zero.s] 24))
    clear H2
    have H4 : Hid (Blk (w4.alloc (.cells #[.int .i64 Dt.zero.y, .int .i64 Dt.zero.m, .int .i64 Dt.zero.d, .int .i64 Dt.zero.h, .int .i64 Dt.zero.mi, .int .i64 Dt.zero.s] 24)) w4.heap.size 24 [.int .i64 Dt.zero.y, .int .i64 Dt.zero.m, .int .i64 Dt.zero.d, .int .i64 Dt.zero.h, .int .i64 Dt.zero.mi, .int .i64 Dt.zero.s]) := Blk.new w4 #[.int .i64 Dt.zero.y, .int .i64 Dt.zero.m, .int .i64 Dt.zero.d, .int .i64 Dt.zero.h, .int .i64 Dt.zero.mi, .int .i64 Dt.zero.s] 24
    generalize w4.alloc (.cells #[.int .i64 Dt.zero.y, .int .i64 Dt.zero.m, .int .i64 Dt.zero.d, .int .i64 Dt.zero.h, .int .i64 Dt.zero.mi, .int .i64 Dt.zero.s] 24) = w5 at *
    clear hB4
    have a := H3.out
    obtain ⟨ac0, ac1, ac2, ac3, ac4, ac5⟩ := cells6 (w1 := w5) (fun _ _ _ => rfl) a
    have al := a.lt
    have b := H4.out
    obtain ⟨bc0, bc1, bc2, bc3, bc4, bc5⟩ := cells6 (w1 := w5) (fun _ _ _ => rfl) b
    have bl := b.lt
    go_wp2_with fail
    clear ac0 ac1 ac2 ac3 ac4 ac5 al a
    clear bc0 bc1 bc2 bc3 bc4 bc5 bl b
    refine (C18.out _).mono ?_
    rintro e w6 ⟨rfl, hb6⟩
    have hB6 := bThen hB5 hb6
    have H5 := Lib.hid (blkDown H3.out hb6)
    clear H3
    have H6 := Lib.hid (blkDown H4.out hb6)
    clear H4
    clear hb6 hB5
    have a := H5.out
    obtain ⟨ac0, ac1, ac2, ac3, ac4, ac5⟩ := cells6 (w1 := w6) (fun _ _ _ => rfl) a
    have al := a.lt
    have b := H6.out
    obtain ⟨bc0, bc1, bc2, bc3, bc4, bc5⟩ := cells6 (w1 := w6) (fun _ _ _ => rfl) b
    have bl := b.lt
    go_wp2
    go_ret
    exact ⟨rfl, hB6⟩
end Go.Proofs.Ytojkkgmfccchbaa
