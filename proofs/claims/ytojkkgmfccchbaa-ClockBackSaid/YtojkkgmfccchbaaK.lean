/- Zones: Check, Offset, Local. -/
import Derived.Test.YtojkkgmfccchbaaJ
namespace Go.Proofs.Ytojkkgmfccchbaa
open Go Go.RowKit Go.Sort

def offN (off : Int) (l : List Ch) (m : Int) : Int × Int := if zOk off l = true then (if isMo m = true then (offAt off l m, 0) else (0, 5)) else (0, 1)
def locN (off : Int) (l : List Ch) (m : Int) : Dt × Int := if (offN off l m).2 = 0 then (at_ (m + (offN off l m).1), 0) else (Dt.zero, (offN off l m).2)
theorem t59_b {off : Int} {v : Value} {l : List Ch} {b : Bool} (h : zOk off l = b) (W : World) (hz : ZR W v l) : Calls Try.prog 59 #[ZV off v] W fun e w' => e = .returned (.bool b) ∧ Below W.heap.size W w' := by
  subst h; exact t59 off v l W hz
theorem t57 (off : Int) (v : Value) (l : List Ch) (w : World) (hz : ZR w v l) : Calls Try.prog 57 #[ZV off v] w fun e w' => e = .returned (.int .i64 (if zOk off l = true then 0 else 1)) ∧ Below w.heap.size w w' := by
  have hz1 := hz.below (bSelf w (.cells #[.int .i64 off, v] 52))
  cases h : zOk off l
  all_goals
    have C := Lib.hid (t59_b h _ hz1)
    clear h hz hz1
    go_enter Try.func57, Try.ntmps57
    go_wp2_with fail
    refine C.out.mono ?_
    rintro e w1 ⟨rfl, hb1⟩
    have hB1 := bThen (bSelf w _) hb1
    go_wp2
    go_ret
    exact ⟨rfl, hB1⟩
theorem offAt_bd : ∀ (l : List Ch) (f off m : Int), ordB f l = true → -100000000000 ≤ f → (-86400 ≤ off ∧ off ≤ 86400) → -86400 ≤ offAt off l m ∧ offAt off l m ≤ 86400 := by
  intro l
  induction l with
  | nil => intro f off m _ _ h; exact h
  | cons c l ih =>
    obtain ⟨a, o⟩ := c
    intro f off m h hf ho
    obtain ⟨g1, g2, g3⟩ := ordB_cons.1 h
    unfold offAt
    split
    · exact ih (a + 1) o m g3 (by omega) g2
    · exact ho
theorem offN_bd (off : Int) (l : List Ch) (m : Int) : -86400 ≤ (offN off l m).1 ∧ (offN off l m).1 ≤ 86400 := by
  unfold offN
  split
  · rename_i h
    obtain ⟨h1, _, h3⟩ := zOk_parts h
    split
    · exact offAt_bd l _ off m h3 (by omega) h1
    · exact ⟨by decide, by decide⟩
  · exact ⟨by decide, by decide⟩
set_option maxHeartbeats 2000000 in
theorem t54 (off : Int) (v : Value) (l : List Ch) (m : Int) (w : World) (hz : ZR w v l) : Calls Try.prog 54 #[ZV off v, .int .i64 m] w fun e w' => e = .returned (EV (.int .i64 (offN off l m).1) (offN off l m).2) ∧ Below w.heap.size w w' := by
  have hb0 : Below w.heap.size w ((w.alloc (.cells #[.int .i64 off, v] 52)).alloc (.cells #[.int .i64 m] 3)) := bAl (bSelf w _) _
  have HZ := Lib.hid (fun W (hb : Below w.heap.size w W) => hz.below hb)
  have KM : Hid (Blk ((w.alloc (.cells #[.int .i64 off, v] 52)).alloc (.cells #[.int .i64 m] 3)) (w.heap.size + 1) 3 [.int .i64 m]) := newAt _ _ _ _ _ (by simp) rfl
  have KZ : Hid (Blk ((w.alloc (.cells #[.int .i64 off, v] 52)).alloc (.cells #[.int .i64 m] 3)) w.heap.size 52 [.int .i64 off, v]) := (Blk.new w _ _).alloc _
  clear hz
  by_cases h : zOk off l = true
  · obtain ⟨z1, z2, z3⟩ := zOk_parts h
    have C59 := Lib.hid (fun W hz => t59_b (v := v) h W hz)
    have C62 := Lib.hid (fun W hz hc => t62_81 off v l m (w.heap.size + 1) W hz h hc)
    by_cases hm : isMo m = true
    · have e : offN off l m = (offAt off l m, 0) := by unfold offN; rw [if_pos h, if_pos hm]
      have hi := inB_iff.1 hm
      obtain ⟨p, hp, hq⟩ := find_has l (-100000000000) off off m z3 hi.1 hi.2
      have hp2 : (pers off l).find? (fun p => p.has m) = some p := hp
      have HP := Lib.hid hp2
      rw [e, ← hq]
      clear e hq hp hp2 hm h z3
      go_enter Try.func54, Try.ntmps54
      go_wp2_with fail
      generalize (w.alloc (.cells #[.int .i64 off, v] 52)).alloc (.cells #[.int .i64 m] 3) = w1 at *
      refine (C59.out _ (HZ.out _ hb0)).mono ?_
      rintro e w2 ⟨rfl, hb2⟩
      have hB2 := bThen hb0 hb2
      have KM2 := Lib.hid (blkDown KM.out hb2)
      have KZ2 := Lib.hid (blkDown KZ.out hb2)
      have q0 := KZ2.out.cell 0 rfl
      have q1 := KZ2.out.cell 1 rfl
      clear hb2 KM KZ hb0
      go_wp2_with fail
      refine (C62.out _ (HZ.out _ hB2) (KM2.out.cell 0 rfl)).mono ?_
      rintro e w3 ⟨hr, hb3⟩
      have hB3 := bThen hB2 hb3
      rcases hr with ⟨hf, _⟩ | ⟨p', hf, rfl⟩
      · rw [HP.out] at hf; cases hf
      · rw [HP.out] at hf
        obtain rfl := Option.some.inj hf
        clear hf HP C59 C62 q0 q1 hb3 KM2 KZ2
        obtain ⟨pf, pl, pb, po⟩ := p
        go_wp2
        go_ret2
        exact ⟨rfl, bAl hB3 _⟩
    · have e : offN off l m = (0, 5) := by unfold offN; rw [if_pos h, if_neg hm]
      have hi := inB_no.1 (eq_false_of_ne_true hm)
      have hp2 : (pers off l).find? (fun p => p.has m) = none := find_none l _ _ _ m z3 (by omega)
      have HP := Lib.hid hp2
      rw [e]
      clear e hp2 hm h z3
      go_enter Try.func54, Try.ntmps54
      go_wp2_with fail
      generalize (w.alloc (.cells #[.int .i64 off, v] 52)).alloc (.cells #[.int .i64 m] 3) = w1 at *
      refine (C59.out _ (HZ.out _ hb0)).mono ?_
      rintro e w2 ⟨rfl, hb2⟩
      have hB2 := bThen hb0 hb2
      have KM2 := Lib.hid (blkDown KM.out hb2)
      have KZ2 := Lib.hid (blkDown KZ.out hb2)
      have q0 := KZ2.out.cell 0 rfl
      have q1 := KZ2.out.cell 1 rfl
      clear hb2 KM KZ hb0
      go_wp2_with fail
      refine (C62.out _ (HZ.out _ hB2) (KM2.out.cell 0 rfl)).mono ?_
      rintro e w3 ⟨hr, hb3⟩
      have hB3 := bThen hB2 hb3
      rcases hr with ⟨hf, rfl⟩ | ⟨p', hf, _⟩
      · clear hf HP C59 C62 q0 q1 hb3 KM2 KZ2
        go_wp2
        go_ret2
        exact ⟨rfl, bAl hB3 _⟩
      · rw [HP.out] at hf; cases hf
  · have e : offN off l m = (0, 1) := by unfold offN; rw [if_neg h]
    have C59 := Lib.hid (fun W hz => t59_b (v := v) (eq_false_of_ne_true h) W hz)
    rw [e]
    clear e h
    go_enter Try.func54, Try.ntmps54
    go_wp2_with fail
    generalize (w.alloc (.cells #[.int .i64 off, v] 52)).alloc (.cells #[.int .i64 m] 3) = w1 at *
    refine (C59.out _ (HZ.out _ hb0)).mono ?_
    rintro e w2 ⟨rfl, hb2⟩
    have hB2 := bThen hb0 hb2
    go_wp2
    go_ret2
    exact ⟨rfl, hB2⟩
end Go.Proofs.Ytojkkgmfccchbaa
