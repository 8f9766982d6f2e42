/- The law ClockBetween. -/
import Derived.Test.YtojkkgmfccchbaaLB
namespace Go.Proofs.Ytojkkgmfccchbaa
open Go Go.RowKit Go.Sort

abbrev TwoV (x z : Dt) (n k : Int) : Value := .agg #[.int .i64 x.y, .int .i64 x.m, .int .i64 x.d, .int .i64 x.h, .int .i64 x.mi, .int .i64 x.s, .int .i64 z.y, .int .i64 z.m, .int .i64 z.d, .int .i64 z.h, .int .i64 z.mi, .int .i64 z.s, .int .i64 n, .int .i64 k]
set_option maxRecDepth 100000 in
set_option maxHeartbeats 4000000 in
theorem t5 (x z : Dt) (n k : Int) (w : World) : Calls Try.prog 5 #[TwoV x z n k] w fun e w' => e = .returned (.bool true) ∧ Below w.heap.size w w' := by
  have C18 := Lib.hid t18
  have C20 := Lib.hid (t20 n)
  have C20' := Lib.hid (t20 k)
  have CX := Lib.hid (t22 x z)
  obtain ⟨y, m, d, h, i, s⟩ := x
  obtain ⟨y', m', d', h', i', s'⟩ := z
  go_enter Try.func5, Try.ntmps5
  go_wp2_with fail
  refine (C20.out _).mono ?_
  rintro e w1 ⟨a, ha, rfl, hb1⟩
  clear ha
  have C19 := Lib.hid (t19 a)
  have CAA := Lib.hid (t22 a a)
  have CA := Lib.hid (t22 a)
  have CB := Lib.hid (fun b => t22 b a)
  obtain ⟨ay, am, ad, ah, ai, az⟩ := a
  have hB1 := (bSelf w _).trans (hb1.mono (by simp))
  have HS1 := Lib.hid ((Blk.new w #[.int .i64 y, .int .i64 m, .int .i64 d, .int .i64 h, .int .i64 i, .int .i64 s, .int .i64 y', .int .i64 m', .int .i64 d', .int .i64 h', .int .i64 i', .int .i64 s', .int .i64 n, .int .i64 k] 47).below hb1 (by simp))
  clear hb1
  go_wp2_with fail
  refine (C19.out _).mono ?_
  rintro e w2 ⟨rfl, hb2⟩
  have hB2 := bThen hB1 hb2
  have HS2 := Lib.hid (blkDown HS1.out hb2)
  clear hb2 hB1 HS1
  have q13 := HS2.out.cell 13 rfl
  have ql := HS2.out.lt
  go_wp2_with fail
  have hB3 := bAl hB2 (.cells #[.int .i64 ay, .int .i64 am, .int .i64 ad, .int .i64 ah, .int .i64 ai, .int .i64 az] 24)
  have HS3 := Lib.hid (HS2.out.alloc (.cells #[.int .i64 ay, .int .i64 am, .int .i64 ad, .int .i64 ah, .int .i64 ai, .int .i64 az] 24))
  have HA3 := Lib.hid (Blk.new w2 #[.int .i64 ay, .int .i64 am, .int .i64 ad, .int .i64 ah, .int .i64 ai, .int .i64 az] 24)
  generalize w2.alloc (.cells #[.int .i64 ay, .int .i64 am, .int .i64 ad, .int .i64 ah, .int .i64 ai, .int .i64 az] 24) = w3 at *
  clear q13 ql HS2 hB2
  refine (C20'.out _).mono ?_
  rintro e w4 ⟨b, hb, rfl, hb4⟩
  clear hb
  have C19' := Lib.hid (t19 b)
  have CAB := Lib.hid (CA.out b)
  have CBA := Lib.hid (CB.out b)
  clear CA CB
  obtain ⟨by', bm, bd, bh, bi, bz⟩ := b
  have hB4 := bThen hB3 hb4
  have HS4 := Lib.hid (blkDown HS3.out hb4)
  have HA4 := Lib.hid (blkDown HA3.out hb4)
  clear hb4 hB3 HS3 HA3
  go_wp2_with fail
  refine (C19'.out _).mono ?_
  rintro e w5 ⟨rfl, hb5⟩
  have hB5 := bThen hB4 hb5
  have HS5 := Lib.hid (blkDown HS4.out hb5)
  have HA5 := Lib.hid (blkDown HA4.out hb5)
  clear hb5 hB4 HS4 HA4
  have q0 := HS5.out.cell 0 rfl
  have q1 := HS5.out.cell 1 rfl
  have q2 := HS5.out.cell 2 rfl
  have q3 := HS5.out.cell 3 rfl
  have q4 := HS5.out.cell 4 rfl
  have q5 := HS5.out.cell 5 rfl
  have q6 := HS5.out.cell 6 rfl
  have q7 := HS5.out.cell 7 rfl
  have q8 := HS5.out.cell 8 rfl
  have q9 := HS5.out.cell 9 rfl
  have q10 := HS5.out.cell 10 rfl
  have q11 := HS5.out.cell 11 rfl
  have ql := HS5.out.lt
  go_wp2_with fail
  have hB6 := bAl hB5 (.cells #[.int .i64 by', .int .i64 bm, .int .i64 bd, .int .i64 bh, .int .i64 bi, .int .i64 bz] 24)
  have HA6 := Lib.hid (HA5.out.alloc (.cells #[.int .i64 by', .int .i64 bm, .int .i64 bd, .int .i64 bh, .int .i64 bi, .int .i64 bz] 24))
  have HB6 := Lib.hid (Blk.new w5 #[.int .i64 by', .int .i64 bm, .int .i64 bd, .int .i64 bh, .int .i64 bi, .int .i64 bz] 24)
  generalize w5.alloc (.cells #[.int .i64 by', .int .i64 bm, .int .i64 bd, .int .i64 bh, .int .i64 bi, .int .i64 bz] 24) = w6 at *
  clear ql HS5 hB5 HA5 q0 q1 q2 q3 q4 q5 q6 q7 q8 q9 q10 q11
  refine (CX.out _).mono ?_
  rintro e w7 ⟨rfl, hb7⟩
  have hB7 := bThen hB6 hb7
  have HA7 := Lib.hid (blkDown HA6.out hb7)
  have HB7 := Lib.hid (blkDown HB6.out hb7)
  clear hb7 hB6 HA6 HB6
  obtain ⟨a0, a1, a2, a3, a4, a5⟩ := cells6 (w1 := w7) (fun _ _ _ => rfl) HA7.out
  obtain ⟨b0, b1, b2, b3, b4, b5⟩ := cells6 (w1 := w7) (fun _ _ _ => rfl) HB7.out
  go_wp2_with fail
  clear a0 a1 a2 a3 a4 a5 b0 b1 b2 b3 b4 b5
  refine (CAB.out _).mono ?_
  rintro e w8 ⟨rfl, hb8⟩
  have hB8 := bThen hB7 hb8
  have HA8 := Lib.hid (blkDown HA7.out hb8)
  have HB8 := Lib.hid (blkDown HB7.out hb8)
  clear hb8 hB7 HA7 HB7
  obtain ⟨a0, a1, a2, a3, a4, a5⟩ := cells6 (w1 := w8) (fun _ _ _ => rfl) HA8.out
  obtain ⟨b0, b1, b2, b3, b4, b5⟩ := cells6 (w1 := w8) (fun _ _ _ => rfl) HB8.out
  go_wp2_with fail
  clear a0 a1 a2 a3 a4 a5 b0 b1 b2 b3 b4 b5
  refine (CBA.out _).mono ?_
  rintro e w9 ⟨rfl, hb9⟩
  have hB9 := bThen hB8 hb9
  have HA9 := Lib.hid (blkDown HA8.out hb9)
  have HB9 := Lib.hid (blkDown HB8.out hb9)
  clear hb9 hB8 HA8 HB8
  obtain ⟨a0, a1, a2, a3, a4, a5⟩ := cells6 (w1 := w9) (fun _ _ _ => rfl) HA9.out
  obtain ⟨b0, b1, b2, b3, b4, b5⟩ := cells6 (w1 := w9) (fun _ _ _ => rfl) HB9.out
  go_wp2_with fail
  clear a0 a1 a2 a3 a4 a5 b0 b1 b2 b3 b4 b5
  refine (CAA.out _).mono ?_
  rintro e w10 ⟨rfl, hb10⟩
  have hB10 := bThen hB9 hb10
  have HA10 := Lib.hid (blkDown HA9.out hb10)
  have HB10 := Lib.hid (blkDown HB9.out hb10)
  clear hb10 hB9 HA9 HB9
  obtain ⟨a0, a1, a2, a3, a4, a5⟩ := cells6 (w1 := w10) (fun _ _ _ => rfl) HA10.out
  obtain ⟨b0, b1, b2, b3, b4, b5⟩ := cells6 (w1 := w10) (fun _ _ _ => rfl) HB10.out
  go_wp2_with fail
  clear a0 a1 a2 a3 a4 a5 b0 b1 b2 b3 b4 b5
  refine (C18.out _).mono ?_
  rintro e w11 ⟨rfl, hb11⟩
  have hB11 := bThen hB10 hb11
  go_wp2
  go_ret
  exact ⟨rfl, hB11⟩
end Go.Proofs.Ytojkkgmfccchbaa
