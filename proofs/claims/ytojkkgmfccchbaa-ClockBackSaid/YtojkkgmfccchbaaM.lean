/- Zones: Resolve. -/
import Derived.Test.YtojkkgmfccchbaaL
namespace Go.Proofs.Ytojkkgmfccchbaa
open Go Go.RowKit Go.Sort

abbrev dc (x : Dt) : List Value := [.int .i64 x.y, .int .i64 x.m, .int .i64 x.d, .int .i64 x.h, .int .i64 x.mi, .int .i64 x.s]
set_option maxHeartbeats 4000000 in
theorem t29 (off : Int) (v : Value) (l : List Ch) (x : Dt) (w : World) (hz : ZR w v l) : Calls Try.prog 29 #[ZV off v, x.v] w fun e w' => e = .returned (EV (.int .i64 (resN off l x).1) (resN off l x).2) ∧ Below w.heap.size w w' := by
  have hb0 : Below w.heap.size w ((w.alloc (.cells #[.int .i64 off, v] 52)).alloc (.cells #[.int .i64 x.y, .int .i64 x.m, .int .i64 x.d, .int .i64 x.h, .int .i64 x.mi, .int .i64 x.s] 24)) := bAl (bSelf w _) _
  have HZ := Lib.hid (fun W (hb : Below w.heap.size w W) => hz.below hb)
  have KZ : Hid (Blk ((w.alloc (.cells #[.int .i64 off, v] 52)).alloc (.cells #[.int .i64 x.y, .int .i64 x.m, .int .i64 x.d, .int .i64 x.h, .int .i64 x.mi, .int .i64 x.s] 24)) w.heap.size 52 [.int .i64 off, v]) := (Blk.new w _ _).alloc _
  have KX : Hid (Blk ((w.alloc (.cells #[.int .i64 off, v] 52)).alloc (.cells #[.int .i64 x.y, .int .i64 x.m, .int .i64 x.d, .int .i64 x.h, .int .i64 x.mi, .int .i64 x.s] 24)) (w.heap.size + 1) 24 [.int .i64 x.y, .int .i64 x.m, .int .i64 x.d, .int .i64 x.h, .int .i64 x.mi, .int .i64 x.s]) := newAt _ _ _ _ _ (by simp) rfl
  clear hz
  by_cases h : zOk off l = true
  · have C59 := Lib.hid (fun W hz => t59_b (v := v) h W hz)
    by_cases hx : x.ok = true
    · have C37 := Lib.hid (t37_b hx)
      have C38 := Lib.hid (t38_b hx)
      have hs := ok_sec hx
      have hpk := pers_ok h
      have C62 := Lib.hid (fun c W hz hc => t62_63 off v l x.sec c W hz h hc (by omega) (by omega))
      have C62' := Lib.hid (fun c W hz hc => t62_64 off v l x.sec c W hz h hc)
      cases hf : (pers off l).find? (fun p => p.shows x.sec) with
      | some p =>
        have hpo := hpk p (List.mem_of_find?_eq_some hf)
        obtain ⟨_, _, _, hpo4⟩ := hpo
        rw [res_some h hx hf]
        have HF := Lib.hid hf
        clear hf h hx hpk
        generalize x.sec = S at *
        obtain ⟨y, m, d, hh, i, s⟩ := x
        dsimp only at *
        go_enter Try.func29, Try.ntmps29
        go_wp2_with fail
        generalize (w.alloc (.cells #[.int .i64 off, v] 52)).alloc (.cells #[.int .i64 y, .int .i64 m, .int .i64 d, .int .i64 hh, .int .i64 i, .int .i64 s] 24) = w1 at *
        refine (C59.out _ (HZ.out _ hb0)).mono ?_
        rintro e w2 ⟨rfl, hb2⟩
        have hB2 := bThen hb0 hb2
        have Z2 := Lib.hid (blkDown KZ.out hb2)
        have X2 := Lib.hid (blkDown KX.out hb2)
        obtain ⟨x0, x1, x2, x3, x4, x5⟩ := cells6 (w1 := w2) (fun _ _ _ => rfl) X2.out
        clear hb2 KZ KX hb0
        go_wp2_with fail
        refine (C37.out _).mono ?_
        rintro e w3 ⟨rfl, hb3⟩
        have hB3 := bThen hB2 hb3
        have Z3 := Lib.hid (blkDown Z2.out hb3)
        have X3 := Lib.hid (blkDown X2.out hb3)
        clear x0 x1 x2 x3 x4 x5 hb3 hB2 Z2 X2
        obtain ⟨x0, x1, x2, x3, x4, x5⟩ := cells6 (w1 := w3) (fun _ _ _ => rfl) X3.out
        go_wp2_with fail
        clear x0 x1 x2 x3 x4 x5
        refine (C38.out _).mono ?_
        rintro e w4 ⟨rfl, hb4⟩
        have hB4 := bThen hB3 hb4
        have Z4 := Lib.hid (blkDown Z3.out hb4)
        have q0 := Z4.out.cell 0 rfl
        have q1 := Z4.out.cell 1 rfl
        have ql := Z4.out.lt
        clear hb4 hB3 Z3 X3
        go_wp2_with fail
        have hB5 := bAl hB4 (.cells #[.int .i64 S] 3)
        have Z5 := Lib.hid (Z4.out.alloc (.cells #[.int .i64 S] 3))
        have M5 : Hid (Blk (w4.alloc (.cells #[.int .i64 S] 3)) w4.heap.size 3 [.int .i64 S]) := Blk.new w4 _ _
        generalize w4.alloc (.cells #[.int .i64 S] 3) = w5 at *
        clear q0 q1 ql Z4 hB4
        refine (C62.out _ _ (HZ.out _ hB5) (M5.out.cell 0 rfl)).mono ?_
        rintro e w6 ⟨hr, hb6⟩
        have hB6 := bThen hB5 hb6
        have M6 := Lib.hid (blkDown M5.out hb6)
        have s0 := M6.out.cell 0 rfl
        have sl := M6.out.lt
        rcases hr with ⟨hf, _⟩ | ⟨p', hf, rfl⟩
        · rw [HF.out] at hf; cases hf
        · rw [HF.out] at hf
          obtain rfl := Option.some.inj hf
          clear hf HF hb6
          obtain ⟨pf, pl, pb, po⟩ := p
          dsimp only at *
          go_wp2
          go_ret2
          exact ⟨rfl, bAl hB6 _⟩
      | none =>
        cases hg : (pers off l).find? (fun p => p.skips x.sec) with
        | some p =>
          have hpo := hpk p (List.mem_of_find?_eq_some hg)
          obtain ⟨_, _, hpo3, hpo4⟩ := hpo
          have C33 := Lib.hid (t33 (x.sec - p.before))
          rw [res_gap h hx hf hg]
          have HF := Lib.hid hf
          have HG := Lib.hid hg
          clear hf hg h hx hpk
          generalize x.sec = S at *
          cases hm : isMo (S - p.before)
          all_goals
            have c33 := C33.out
            rw [hm] at c33
            have C33' := Lib.hid c33
            clear c33 C33 hm
            obtain ⟨y, m, d, hh, i, s⟩ := x
            dsimp only at *
            go_enter Try.func29, Try.ntmps29
            go_wp2_with fail
            generalize (w.alloc (.cells #[.int .i64 off, v] 52)).alloc (.cells #[.int .i64 y, .int .i64 m, .int .i64 d, .int .i64 hh, .int .i64 i, .int .i64 s] 24) = w1 at *
            refine (C59.out _ (HZ.out _ hb0)).mono ?_
            rintro e w2 ⟨rfl, hb2⟩
            have hB2 := bThen hb0 hb2
            have Z2 := Lib.hid (blkDown KZ.out hb2)
            have X2 := Lib.hid (blkDown KX.out hb2)
            obtain ⟨x0, x1, x2, x3, x4, x5⟩ := cells6 (w1 := w2) (fun _ _ _ => rfl) X2.out
            clear hb2 KZ KX hb0
            go_wp2_with fail
            refine (C37.out _).mono ?_
            rintro e w3 ⟨rfl, hb3⟩
            have hB3 := bThen hB2 hb3
            have Z3 := Lib.hid (blkDown Z2.out hb3)
            have X3 := Lib.hid (blkDown X2.out hb3)
            clear x0 x1 x2 x3 x4 x5 hb3 hB2 Z2 X2
            obtain ⟨x0, x1, x2, x3, x4, x5⟩ := cells6 (w1 := w3) (fun _ _ _ => rfl) X3.out
            go_wp2_with fail
            clear x0 x1 x2 x3 x4 x5
            refine (C38.out _).mono ?_
            rintro e w4 ⟨rfl, hb4⟩
            have hB4 := bThen hB3 hb4
            have Z4 := Lib.hid (blkDown Z3.out hb4)
            have q0 := Z4.out.cell 0 rfl
            have q1 := Z4.out.cell 1 rfl
            have ql := Z4.out.lt
            clear hb4 hB3 Z3 X3
            go_wp2_with fail
            have hB5 := bAl hB4 (.cells #[.int .i64 S] 3)
            have Z5 := Lib.hid (Z4.out.alloc (.cells #[.int .i64 S] 3))
            have M5 : Hid (Blk (w4.alloc (.cells #[.int .i64 S] 3)) w4.heap.size 3 [.int .i64 S]) := Blk.new w4 _ _
            generalize w4.alloc (.cells #[.int .i64 S] 3) = w5 at *
            clear q0 q1 ql Z4 hB4
            refine (C62.out _ _ (HZ.out _ hB5) (M5.out.cell 0 rfl)).mono ?_
            rintro e w6 ⟨hr, hb6⟩
            have hB6 := bThen hB5 hb6
            have M6 := Lib.hid (blkDown M5.out hb6)
            have Z6 := Lib.hid (blkDown Z5.out hb6)
            rcases hr with ⟨_, rfl⟩ | ⟨p', hf, _⟩
            rotate_left
            · rw [HF.out] at hf; cases hf
            have q0 := Z6.out.cell 0 rfl
            have q1 := Z6.out.cell 1 rfl
            have ql := Z6.out.lt
            go_wp2_with fail
            have hb7 := bSelf w6 (.cells #[.int .i64 0, .int .i64 0, .int .i64 0, .int .i64 0] 96)
            refine (C62'.out _ _ (HZ.out _ (bThen hB6 hb7)) ((blkDown M6.out hb7).cell 0 rfl)).mono ?_
            rintro e w8 ⟨hr, hb8⟩
            have hB8 := bThen (bThen hB6 hb7) hb8
            have M8 := Lib.hid (blkDown (blkDown M6.out hb7) hb8)
            have s0 := M8.out.cell 0 rfl
            have sl := M8.out.lt
            rcases hr with ⟨hf, _⟩ | ⟨p', hf, rfl⟩
            · rw [HG.out] at hf; cases hf
            rw [HG.out] at hf
            obtain rfl := Option.some.inj hf
            clear hf HF HG hb6 hb7 hb8 q0 q1 ql
            obtain ⟨pf, pl, pb, po⟩ := p
            dsimp only at *
            go_wp2_with (go_at_call 33; (with_reducible refine (C33'.out _).mono ?_); rintro e w' ⟨rfl, rfl⟩)
            go_ret2
            exact ⟨rfl, bAl hB8 _⟩
        | none =>
          rw [res_none h hx hf hg]
          have HF := Lib.hid hf
          have HG := Lib.hid hg
          clear hf hg h hx hpk
          generalize x.sec = S at *
          obtain ⟨y, m, d, hh, i, s⟩ := x
          dsimp only at *
          go_enter Try.func29, Try.ntmps29
          go_wp2_with fail
          generalize (w.alloc (.cells #[.int .i64 off, v] 52)).alloc (.cells #[.int .i64 y, .int .i64 m, .int .i64 d, .int .i64 hh, .int .i64 i, .int .i64 s] 24) = w1 at *
          refine (C59.out _ (HZ.out _ hb0)).mono ?_
          rintro e w2 ⟨rfl, hb2⟩
          have hB2 := bThen hb0 hb2
          have Z2 := Lib.hid (blkDown KZ.out hb2)
          have X2 := Lib.hid (blkDown KX.out hb2)
          obtain ⟨x0, x1, x2, x3, x4, x5⟩ := cells6 (w1 := w2) (fun _ _ _ => rfl) X2.out
          clear hb2 KZ KX hb0
          go_wp2_with fail
          refine (C37.out _).mono ?_
          rintro e w3 ⟨rfl, hb3⟩
          have hB3 := bThen hB2 hb3
          have Z3 := Lib.hid (blkDown Z2.out hb3)
          have X3 := Lib.hid (blkDown X2.out hb3)
          clear x0 x1 x2 x3 x4 x5 hb3 hB2 Z2 X2
          obtain ⟨x0, x1, x2, x3, x4, x5⟩ := cells6 (w1 := w3) (fun _ _ _ => rfl) X3.out
          go_wp2_with fail
          clear x0 x1 x2 x3 x4 x5
          refine (C38.out _).mono ?_
          rintro e w4 ⟨rfl, hb4⟩
          have hB4 := bThen hB3 hb4
          have Z4 := Lib.hid (blkDown Z3.out hb4)
          have q0 := Z4.out.cell 0 rfl
          have q1 := Z4.out.cell 1 rfl
          have ql := Z4.out.lt
          clear hb4 hB3 Z3 X3
          go_wp2_with fail
          have hB5 := bAl hB4 (.cells #[.int .i64 S] 3)
          have Z5 := Lib.hid (Z4.out.alloc (.cells #[.int .i64 S] 3))
          have M5 : Hid (Blk (w4.alloc (.cells #[.int .i64 S] 3)) w4.heap.size 3 [.int .i64 S]) := Blk.new w4 _ _
          generalize w4.alloc (.cells #[.int .i64 S] 3) = w5 at *
          clear q0 q1 ql Z4 hB4
          refine (C62.out _ _ (HZ.out _ hB5) (M5.out.cell 0 rfl)).mono ?_
          rintro e w6 ⟨hr, hb6⟩
          have hB6 := bThen hB5 hb6
          have M6 := Lib.hid (blkDown M5.out hb6)
          have Z6 := Lib.hid (blkDown Z5.out hb6)
          rcases hr with ⟨_, rfl⟩ | ⟨p', hf, _⟩
          rotate_left
          · rw [HF.out] at hf; cases hf
          have q0 := Z6.out.cell 0 rfl
          have q1 := Z6.out.cell 1 rfl
          have ql := Z6.out.lt
          go_wp2_with fail
          have hb7 := bSelf w6 (.cells #[.int .i64 0, .int .i64 0, .int .i64 0, .int .i64 0] 96)
          refine (C62'.out _ _ (HZ.out _ (bThen hB6 hb7)) ((blkDown M6.out hb7).cell 0 rfl)).mono ?_
          rintro e w8 ⟨hr, hb8⟩
          have hB8 := bThen (bThen hB6 hb7) hb8
          rcases hr with ⟨_, rfl⟩ | ⟨p', hf, _⟩
          rotate_left
          · rw [HG.out] at hf; cases hf
          clear HF HG hb6 hb7 hb8 q0 q1 ql
          go_wp2
          go_ret2
          exact ⟨rfl, bAl hB8 _⟩
    · have e : resN off l x = (0, 1) := by unfold resN; rw [if_neg (fun hh => hx hh.2)]
      have C37 := Lib.hid (t37_b (eq_false_of_ne_true hx))
      rw [e]
      clear e h hx
      obtain ⟨y, m, d, hh, i, s⟩ := x
      dsimp only at *
      go_enter Try.func29, Try.ntmps29
      go_wp2_with fail
      generalize (w.alloc (.cells #[.int .i64 off, v] 52)).alloc (.cells #[.int .i64 y, .int .i64 m, .int .i64 d, .int .i64 hh, .int .i64 i, .int .i64 s] 24) = w1 at *
      refine (C59.out _ (HZ.out _ hb0)).mono ?_
      rintro e w2 ⟨rfl, hb2⟩
      have hB2 := bThen hb0 hb2
      have Z2 := Lib.hid (blkDown KZ.out hb2)
      have X2 := Lib.hid (blkDown KX.out hb2)
      obtain ⟨x0, x1, x2, x3, x4, x5⟩ := cells6 (w1 := w2) (fun _ _ _ => rfl) X2.out
      clear hb2 KZ KX hb0
      go_wp2_with fail
      refine (C37.out _).mono ?_
      rintro e w3 ⟨rfl, hb3⟩
      have hB3 := bThen hB2 hb3
      have Z3 := Lib.hid (blkDown Z2.out hb3)
      have X3 := Lib.hid (blkDown X2.out hb3)
      clear x0 x1 x2 x3 x4 x5 hb3 hB2 Z2 X2
      obtain ⟨x0, x1, x2, x3, x4, x5⟩ := cells6 (w1 := w3) (fun _ _ _ => rfl) X3.out
      go_wp2
      go_ret2
      exact ⟨rfl, hB3⟩
  · have e : resN off l x = (0, 1) := by unfold resN; rw [if_neg (fun hh => h hh.1)]
    have C59 := Lib.hid (fun W hz => t59_b (v := v) (eq_false_of_ne_true h) W hz)
    rw [e]
    clear e h
    obtain ⟨y, m, d, hh, i, s⟩ := x
    dsimp only at *
    go_enter Try.func29, Try.ntmps29
    go_wp2_with fail
    generalize (w.alloc (.cells #[.int .i64 off, v] 52)).alloc (.cells #[.int .i64 y, .int .i64 m, .int .i64 d, .int .i64 hh, .int .i64 i, .int .i64 s] 24) = w1 at *
    refine (C59.out _ (HZ.out _ hb0)).mono ?_
    rintro e w2 ⟨rfl, hb2⟩
    have hB2 := bThen hb0 hb2
    go_wp2
    go_ret2
    exact ⟨rfl, hB2⟩
end Go.Proofs.Ytojkkgmfccchbaa
