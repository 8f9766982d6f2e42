/- The law ClockAdds. -/
import Derived.Test.YtojkkgmfccchbaaLS
namespace Go.Proofs.Ytojkkgmfccchbaa
open Go Go.RowKit Go.Sort

abbrev StepV (x : Dt) (n m : Int) : Value := .agg #[.int .i64 x.y, .int .i64 x.m, .int .i64 x.d, .int .i64 x.h, .int .i64 x.mi, .int .i64 x.s, .int .i64 n, .int .i64 m]
set_option maxRecDepth 100000 in
set_option maxHeartbeats 4000000 in
theorem t4 (x : Dt) (n k : Int) (w : World) : Calls Try.prog 4 #[StepV x n k] w fun e w' => e = .returned (.bool true) ∧ Below w.heap.size w w' := by
  have C18 := Lib.hid t18
  have C20 := Lib.hid (t20 n)
  have CA := Lib.hid (t21 x k)
  obtain ⟨y, m, d, h, i, s⟩ := x
  go_enter Try.func4, Try.ntmps4
  go_wp2_with fail
  refine (C20.out _).mono ?_
  rintro e w1 ⟨z, hz, rfl, hb1⟩
  clear hz
  have CB := Lib.hid (t21 z)
  have C19 := Lib.hid (t19 z)
  obtain ⟨zy, zm, zd, zh, zi, zs⟩ := z
  have hB1 := (bSelf w _).trans (hb1.mono (by simp))
  have HS1 := Lib.hid ((Blk.new w #[.int .i64 y, .int .i64 m, .int .i64 d, .int .i64 h, .int .i64 i, .int .i64 s, .int .i64 n, .int .i64 k] 41).below hb1 (by simp))
  clear hb1
  go_wp2_with fail
  refine (C19.out _).mono ?_
  rintro e w2 ⟨rfl, hb2⟩
  have hB2 := bThen hB1 hb2
  have HS2 := Lib.hid (blkDown HS1.out hb2)
  clear hb2 hB1 HS1
  have q0 := HS2.out.cell 0 rfl
  have q1 := HS2.out.cell 1 rfl
  have q2 := HS2.out.cell 2 rfl
  have q3 := HS2.out.cell 3 rfl
  have q4 := HS2.out.cell 4 rfl
  have q5 := HS2.out.cell 5 rfl
  have q7 := HS2.out.cell 7 rfl
  have ql := HS2.out.lt
  go_wp2_with fail
  have hB3 := bAl hB2 (.cells #[.int .i64 zy, .int .i64 zm, .int .i64 zd, .int .i64 zh, .int .i64 zi, .int .i64 zs] 24)
  have HS3 := Lib.hid (HS2.out.alloc (.cells #[.int .i64 zy, .int .i64 zm, .int .i64 zd, .int .i64 zh, .int .i64 zi, .int .i64 zs] 24))
  have HZ3 := Lib.hid (Blk.new w2 #[.int .i64 zy, .int .i64 zm, .int .i64 zd, .int .i64 zh, .int .i64 zi, .int .i64 zs] 24)
  generalize w2.alloc (.cells #[.int .i64 zy, .int .i64 zm, .int .i64 zd, .int .i64 zh, .int .i64 zi, .int .i64 zs] 24) = w3 at *
  clear q0 q1 q2 q3 q4 q5 q7 ql HS2 hB2
  refine (CA.out _).mono ?_
  rintro e w4 ⟨rfl, hb4⟩
  have hB4 := bThen hB3 hb4
  have HS4 := Lib.hid (blkDown HS3.out hb4)
  have HZ4 := Lib.hid (blkDown HZ3.out hb4)
  clear hb4 hB3 HS3 HZ3
  have q7 := HS4.out.cell 7 rfl
  obtain ⟨z0, z1, z2, z3, z4, z5⟩ := cells6 (w1 := w4) (fun _ _ _ => rfl) HZ4.out
  go_wp2_with fail
  clear q7 z0 z1 z2 z3 z4 z5
  refine (CB.out _ _).mono ?_
  rintro e w5 ⟨rfl, hb5⟩
  have hB5 := bThen hB4 hb5
  have HS5 := Lib.hid (blkDown HS4.out hb5)
  have HZ5 := Lib.hid (blkDown HZ4.out hb5)
  clear hb5 hB4 HS4 HZ4
  have q7 := HS5.out.cell 7 rfl
  obtain ⟨z0, z1, z2, z3, z4, z5⟩ := cells6 (w1 := w5) (fun _ _ _ => rfl) HZ5.out
  go_wp2_with fail
  clear q7 z0 z1 z2 z3 z4 z5
  refine (CB.out _ _).mono ?_
  rintro e w6 ⟨rfl, hb6⟩
  have hB6 := bThen hB5 hb6
  have HS6 := Lib.hid (blkDown HS5.out hb6)
  have HZ6 := Lib.hid (blkDown HZ5.out hb6)
  clear hb6 hB5 HS5 HZ5
  have q7 := HS6.out.cell 7 rfl
  obtain ⟨z0, z1, z2, z3, z4, z5⟩ := cells6 (w1 := w6) (fun _ _ _ => rfl) HZ6.out
  go_wp2_with fail
  clear q7 z0 z1 z2 z3 z4 z5
  refine (CB.out _ _).mono ?_
  rintro e w7 ⟨rfl, hb7⟩
  have hB7 := bThen hB6 hb7
  have HS7 := Lib.hid (blkDown HS6.out hb7)
  have HZ7 := Lib.hid (blkDown HZ6.out hb7)
  clear hb7 hB6 HS6 HZ6
  have q7 := HS7.out.cell 7 rfl
  obtain ⟨z0, z1, z2, z3, z4, z5⟩ := cells6 (w1 := w7) (fun _ _ _ => rfl) HZ7.out
  go_wp2_with fail
  clear q7 z0 z1 z2 z3 z4 z5
  refine (C18.out _).mono ?_
  rintro e w8 ⟨rfl, hb8⟩
  have hB8 := bThen hB7 hb8
  go_wp2
  go_ret
  exact ⟨rfl, hB8⟩
end Go.Proofs.Ytojkkgmfccchbaa
