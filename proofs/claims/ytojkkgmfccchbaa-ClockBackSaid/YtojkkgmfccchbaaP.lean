/- Zones, the reference: offset, Offset, Local. -/
import Derived.Test.YtojkkgmfccchbaaO
import Derived.Test.YtojkkgmfccchbaaRF
namespace Go.Proofs.Ytojkkgmfccchbaa
open Go Go.RowKit Go.Sort

set_option maxHeartbeats 2000000 in
theorem t80 (off : Int) (v : Value) (l : List Ch) (m : Int) (w : World) (hz : ZR w v l) : Calls Try.prog 80 #[ZV off v, .int .i64 m] w fun e w' => e = .returned (.int .i64 (offAt off l m)) ∧ Below w.heap.size w w' := by
  obtain ⟨a, cap, rfl, hlen, hz⟩ := hz
  have HZ := Lib.hid hz
  obtain ⟨R, hR⟩ : ∃ R, R = offAt off l m := ⟨_, rfl⟩
  rw [← hR]
  have HR0 : Hid (R = offAt off (l.drop 0) m) := by rw [List.drop_zero]; exact hR
  clear hz hR
  go_enter Try.func80, Try.ntmps80
  go_wp2_with fail
  have hb0 := bSelf w (.cells #[.int .i64 off, .slice a l.length cap] 58)
  have K0 := Lib.hid (Blk.new w #[.int .i64 off, .slice a l.length cap] 58)
  generalize w.alloc (.cells #[.int .i64 off, .slice a l.length cap] 58) = w1 at *
  have q1 := K0.out.cell 1 rfl
  go_loop [5, 6] (fun t i => ∃ (k : Nat) (n : Int), k ≤ l.length ∧ i = .int .i64 k ∧ t = .int .i64 n ∧ Hid (R = offAt n (l.drop k) m)) (fun _ i => l.length - (intOf i).toNat)
  case atStart => exact ⟨0, off, Nat.zero_le _, rfl, rfl, HR0⟩
  case round =>
    obtain ⟨k, n, hk, rfl, rfl, HR⟩ := hrel
    by_cases hlt : k < l.length
    · have hg : l[k]? = some l[k] := List.getElem?_eq_getElem hlt
      obtain ⟨g, o, rfl, hgl, c1, c2⟩ := HZ.out k _ hg
      have c1' : w1.cell? ⟨g, o + k * 2, none⟩ = some (.int .i64 l[k].1) := (hb0.cell (p := ⟨g, o + k * 2, none⟩) hgl).trans c1
      have c2' : w1.cell? ⟨g, o + k * 2 + 1, none⟩ = some (.int .i64 l[k].2) := (hb0.cell (p := ⟨g, o + k * 2 + 1, none⟩) hgl).trans c2
      have HS : Hid (R = if l[k].1 ≤ m then offAt l[k].2 (l.drop (k + 1)) m else n) := by
        show _ = _
        rw [HR.out, List.drop_eq_getElem_cons hlt]
        rfl
      have hlt' : (k : Int) < l.length := by omega
      clear c1 c2 hg HR
      generalize l[k].1 = xa at *
      generalize l[k].2 = xo at *
      by_cases hle : xa ≤ m
      · have HT : Hid (R = offAt xo (l.drop (k + 1)) m) := by show _ = _; rw [HS.out, if_pos hle]
        go_wp2_with fail
        go_round
        case rel => exact ⟨k + 1, xo, by omega, by go_num, rfl, HT⟩
        case measure => simp [intOf] <;> omega
      · have HT : Hid (R = n) := by show _ = _; rw [HS.out, if_neg hle]
        go_wp2
        go_ret
        exact ⟨by rw [HT.out]; rfl, hb0⟩
    · have he : l.drop k = [] := List.drop_eq_nil_of_le (by omega)
      have HT : Hid (R = n) := by show _ = _; rw [HR.out, he]; rfl
      go_wp2
      go_ret
      exact ⟨by rw [HT.out]; rfl, hb0⟩
theorem t53_b {off : Int} {v : Value} {l : List Ch} {b : Bool} (h : zOk off l = b) (W : World) (hz : ZR W v l) : Calls Try.prog 53 #[ZV off v] W fun e w' => e = .returned (.bool b) ∧ Below W.heap.size W w' := by
  subst h; exact t53 off v l W hz
set_option maxHeartbeats 2000000 in
theorem t51 (off : Int) (v : Value) (l : List Ch) (m : Int) (w : World) (hz : ZR w v l) : Calls Try.prog 51 #[ZV off v, .int .i64 m] w fun e w' => e = .returned (EV (.int .i64 (offN off l m).1) (offN off l m).2) ∧ Below w.heap.size w w' := by
  have hb0 := bSelf w (.cells #[.int .i64 off, v] 58)
  have HZ := Lib.hid (fun W (hb : Below w.heap.size w W) => hz.below hb)
  have KZ := Lib.hid (Blk.new w #[.int .i64 off, v] 58)
  clear hz
  by_cases h : zOk off l = true
  · have C59 := Lib.hid (fun W hz => t53_b (v := v) h W hz)
    by_cases hm : isMo m = true
    · have e : offN off l m = (offAt off l m, 0) := by unfold offN; rw [if_pos h, if_pos hm]
      have C35 := Lib.hid (t35_m hm)
      have C80 := Lib.hid (fun W hz => t80 off v l m W hz)
      rw [e]
      clear e hm h
      go_enter Try.func51, Try.ntmps51
      go_wp2_with fail
      generalize w.alloc (.cells #[.int .i64 off, v] 58) = w1 at *
      refine (C59.out _ (HZ.out _ hb0)).mono ?_
      rintro e w2 ⟨rfl, hb2⟩
      have hB2 := bThen hb0 hb2
      have KZ2 := Lib.hid (blkDown KZ.out hb2)
      have q0 := KZ2.out.cell 0 rfl
      have q1 := KZ2.out.cell 1 rfl
      clear hb2 KZ hb0
      go_wp2_with (go_at_call 35; (with_reducible refine (C35.out _).mono ?_); rintro e w' ⟨rfl, rfl⟩)
      refine (C80.out _ (HZ.out _ hB2)).mono ?_
      rintro e w3 ⟨rfl, hb3⟩
      have hB3 := bThen hB2 hb3
      go_wp2
      go_ret2
      exact ⟨rfl, hB3⟩
    · have e : offN off l m = (0, 5) := by unfold offN; rw [if_pos h, if_neg hm]
      have C35 := Lib.hid (t35_m (eq_false_of_ne_true hm))
      rw [e]
      clear e hm h
      go_enter Try.func51, Try.ntmps51
      go_wp2_with fail
      generalize w.alloc (.cells #[.int .i64 off, v] 58) = w1 at *
      refine (C59.out _ (HZ.out _ hb0)).mono ?_
      rintro e w2 ⟨rfl, hb2⟩
      have hB2 := bThen hb0 hb2
      clear hb2 KZ hb0
      go_wp2_with (go_at_call 35; (with_reducible refine (C35.out _).mono ?_); rintro e w' ⟨rfl, rfl⟩)
      go_ret2
      exact ⟨rfl, hB2⟩
  · have e : offN off l m = (0, 1) := by unfold offN; rw [if_neg h]
    have C59 := Lib.hid (fun W hz => t53_b (v := v) (eq_false_of_ne_true h) W hz)
    rw [e]
    clear e h
    go_enter Try.func51, Try.ntmps51
    go_wp2_with fail
    generalize w.alloc (.cells #[.int .i64 off, v] 58) = w1 at *
    refine (C59.out _ (HZ.out _ hb0)).mono ?_
    rintro e w2 ⟨rfl, hb2⟩
    have hB2 := bThen hb0 hb2
    go_wp2
    go_ret2
    exact ⟨rfl, hB2⟩
set_option maxHeartbeats 2000000 in
theorem t25 (off : Int) (v : Value) (l : List Ch) (m : Int) (w : World) (hz : ZR w v l) : Calls Try.prog 25 #[ZV off v, .int .i64 m] w fun e w' => e = .returned (EV (locN off l m).1.v (locN off l m).2) ∧ Below w.heap.size w w' := by
  have hb0 : Below w.heap.size w ((w.alloc (.cells #[.int .i64 off, v] 58)).alloc (.cells #[.int .i64 0, .int .i64 0, .int .i64 0, .int .i64 0, .int .i64 0, .int .i64 0] 28)) := bAl (bSelf w _) _
  have C54 := Lib.hid (t51 off v l m _ (hz.below hb0))
  have K0 : Hid (Blk ((w.alloc (.cells #[.int .i64 off, v] 58)).alloc (.cells #[.int .i64 0, .int .i64 0, .int .i64 0, .int .i64 0, .int .i64 0, .int .i64 0] 28)) (w.heap.size + 1) 28 [.int .i64 0, .int .i64 0, .int .i64 0, .int .i64 0, .int .i64 0, .int .i64 0]) := newAt _ _ _ _ _ (by simp) rfl
  have hbd := offN_bd off l m
  clear hz
  by_cases he : (offN off l m).2 = 0
  · have e : locN off l m = (at_ (m + (offN off l m).1), 0) := by unfold locN; rw [if_pos he]
    have hi := inB_iff.1 (offN_mo he)
    have C34 := Lib.hid (fun W => t36_b (n := m + (offN off l m).1) (by omega) (by omega) W)
    rw [e]
    clear e
    generalize at_ (m + (offN off l m).1) = X at *
    generalize offN off l m = R at *
    obtain ⟨n, er⟩ := R
    obtain ⟨y, mo, d, h, i, s⟩ := X
    dsimp only at *
    subst he
    go_enter Try.func25, Try.ntmps25
    go_wp2_with fail
    generalize (w.alloc (.cells #[.int .i64 off, v] 58)).alloc (.cells #[.int .i64 0, .int .i64 0, .int .i64 0, .int .i64 0, .int .i64 0, .int .i64 0] 28) = w1 at *
    refine C54.out.mono ?_
    rintro e w2 ⟨rfl, hb2⟩
    have hB2 := bThen hb0 hb2
    have K2 := Lib.hid (blkDown K0.out hb2)
    clear hb2 K0 hb0 C54
    go_wp2_with fail
    refine (C34.out _).mono ?_
    rintro e w3 ⟨rfl, hb3⟩
    have hB3 := bThen hB2 hb3
    have K3 := Lib.hid (blkDown K2.out hb3)
    obtain ⟨z0, z1, z2, z3, z4, z5⟩ := cells6 (w1 := w3) (fun _ _ _ => rfl) K3.out
    have g0 := K3.out.free 0
    have g1 := K3.out.free 1
    have g2 := K3.out.free 2
    have g3 := K3.out.free 3
    have g4 := K3.out.free 4
    have g5 := K3.out.free 5
    clear hb3 K2 hB2
    go_wp2
    refine bodyPost_ret ?r rfl ⟨rfl, ?b⟩
    case r => simp [results, Try.results25, go_sem, z0, z1, z2, z3, z4, z5]
    case b =>
      repeat' (first | with_reducible exact hB3 | with_reducible refine bSet ?_ _ _ (by omega) _)
  · have e : locN off l m = (Dt.zero, (offN off l m).2) := by unfold locN; rw [if_neg he]
    rw [e]
    clear e
    generalize offN off l m = R at *
    obtain ⟨n, er⟩ := R
    dsimp only at *
    have be : (er != 0) = true := by simpa using he
    clear he
    go_enter Try.func25, Try.ntmps25
    go_wp2_with fail
    generalize (w.alloc (.cells #[.int .i64 off, v] 58)).alloc (.cells #[.int .i64 0, .int .i64 0, .int .i64 0, .int .i64 0, .int .i64 0, .int .i64 0] 28) = w1 at *
    refine C54.out.mono ?_
    rintro e w3 ⟨rfl, hb3⟩
    have hB3 := bThen hb0 hb3
    have K3 := Lib.hid (blkDown K0.out hb3)
    obtain ⟨z0, z1, z2, z3, z4, z5⟩ := cells6 (w1 := w3) (fun _ _ _ => rfl) K3.out
    have g0 := K3.out.free 0
    have g1 := K3.out.free 1
    have g2 := K3.out.free 2
    have g3 := K3.out.free 3
    have g4 := K3.out.free 4
    have g5 := K3.out.free 5
    clear hb3 K0 hb0 C54
    go_wp2
    refine bodyPost_ret ?r rfl ⟨rfl, ?b⟩
    case r => simp [results, Try.results25, go_sem, Dt.zero, z0, z1, z2, z3, z4, z5]
    case b =>
      repeat' (first | with_reducible exact hB3 | with_reducible refine bSet ?_ _ _ (by omega) _)
end Go.Proofs.Ytojkkgmfccchbaa
