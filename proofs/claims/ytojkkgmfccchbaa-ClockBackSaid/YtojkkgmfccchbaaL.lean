/- Zones: Local, Resolve. -/
import Derived.Test.YtojkkgmfccchbaaK
import Derived.Test.YtojkkgmfccchbaaRB
namespace Go.Proofs.Ytojkkgmfccchbaa
open Go Go.RowKit Go.Sort

theorem offN_mo {off : Int} {l : List Ch} {m : Int} (h : (offN off l m).2 = 0) : isMo m = true := by
  unfold offN at h
  split at h
  · split at h
    · assumption
    · cases h
  · cases h
set_option maxHeartbeats 2000000 in
theorem t27 (off : Int) (v : Value) (l : List Ch) (m : Int) (w : World) (hz : ZR w v l) : Calls Try.prog 27 #[ZV off v, .int .i64 m] w fun e w' => e = .returned (EV (locN off l m).1.v (locN off l m).2) ∧ Below w.heap.size w w' := by
  have hb0 : Below w.heap.size w ((w.alloc (.cells #[.int .i64 off, v] 52)).alloc (.cells #[.int .i64 0, .int .i64 0, .int .i64 0, .int .i64 0, .int .i64 0, .int .i64 0] 24)) := bAl (bSelf w _) _
  have C54 := Lib.hid (t54 off v l m _ (hz.below hb0))
  have K0 : Hid (Blk ((w.alloc (.cells #[.int .i64 off, v] 52)).alloc (.cells #[.int .i64 0, .int .i64 0, .int .i64 0, .int .i64 0, .int .i64 0, .int .i64 0] 24)) (w.heap.size + 1) 24 [.int .i64 0, .int .i64 0, .int .i64 0, .int .i64 0, .int .i64 0, .int .i64 0]) := newAt _ _ _ _ _ (by simp) rfl
  have hbd := offN_bd off l m
  clear hz
  by_cases he : (offN off l m).2 = 0
  · have e : locN off l m = (at_ (m + (offN off l m).1), 0) := by unfold locN; rw [if_pos he]
    have hi := inB_iff.1 (offN_mo he)
    have C34 := Lib.hid (fun W => t34_b (n := m + (offN off l m).1) (by omega) (by omega) W)
    rw [e]
    clear e
    generalize at_ (m + (offN off l m).1) = X at *
    generalize offN off l m = R at *
    obtain ⟨n, er⟩ := R
    obtain ⟨y, mo, d, h, i, s⟩ := X
    dsimp only at *
    subst he
    go_enter Try.func27, Try.ntmps27
    go_wp2_with fail
    generalize (w.alloc (.cells #[.int .i64 off, v] 52)).alloc (.cells #[.int .i64 0, .int .i64 0, .int .i64 0, .int .i64 0, .int .i64 0, .int .i64 0] 24) = w1 at *
    refine C54.out.mono ?_
    rintro e w2 ⟨rfl, hb2⟩
    have hB2 := bThen hb0 hb2
    have K2 := Lib.hid (blkDown K0.out hb2)
    clear hb2 K0 hb0 C54
    go_wp2_with fail
    refine (C34.out _).mono ?_
    rintro e w3 ⟨rfl, hb3⟩
    have hB3 := bThen hB2 hb3
    have K3 := Lib.hid (blkDown K2.out hb3)
    obtain ⟨z0, z1, z2, z3, z4, z5⟩ := cells6 (w1 := w3) (fun _ _ _ => rfl) K3.out
    have g0 := K3.out.free 0
    have g1 := K3.out.free 1
    have g2 := K3.out.free 2
    have g3 := K3.out.free 3
    have g4 := K3.out.free 4
    have g5 := K3.out.free 5
    clear hb3 K2 hB2
    go_wp2
    refine bodyPost_ret ?r rfl ⟨rfl, ?b⟩
    case r => simp [results, Try.results27, go_sem, z0, z1, z2, z3, z4, z5]
    case b =>
      repeat' (first | with_reducible exact hB3 | with_reducible refine bSet ?_ _ _ (by omega) _)
  · have e : locN off l m = (Dt.zero, (offN off l m).2) := by unfold locN; rw [if_neg he]
    rw [e]
    clear e
    generalize offN off l m = R at *
    obtain ⟨n, er⟩ := R
    dsimp only at *
    have be : (er != 0) = true := by simpa using he
    clear he
    go_enter Try.func27, Try.ntmps27
    go_wp2_with fail
    generalize (w.alloc (.cells #[.int .i64 off, v] 52)).alloc (.cells #[.int .i64 0, .int .i64 0, .int .i64 0, .int .i64 0, .int .i64 0, .int .i64 0] 24) = w1 at *
    refine C54.out.mono ?_
    rintro e w3 ⟨rfl, hb3⟩
    have hB3 := bThen hb0 hb3
    have K3 := Lib.hid (blkDown K0.out hb3)
    obtain ⟨z0, z1, z2, z3, z4, z5⟩ := cells6 (w1 := w3) (fun _ _ _ => rfl) K3.out
    have g0 := K3.out.free 0
    have g1 := K3.out.free 1
    have g2 := K3.out.free 2
    have g3 := K3.out.free 3
    have g4 := K3.out.free 4
    have g5 := K3.out.free 5
    clear hb3 K0 hb0 C54
    go_wp2
    refine bodyPost_ret ?r rfl ⟨rfl, ?b⟩
    case r => simp [results, Try.results27, go_sem, Dt.zero, z0, z1, z2, z3, z4, z5]
    case b =>
      repeat' (first | with_reducible exact hB3 | with_reducible refine bSet ?_ _ _ (by omega) _)
/-- Resolve, by the periods -/
def resN (off : Int) (l : List Ch) (x : Dt) : Int × Int :=
  if zOk off l = true ∧ x.ok = true then
    match (pers off l).find? (fun p => p.shows x.sec) with
    | some p => (x.sec - p.off, 0)
    | none => match (pers off l).find? (fun p => p.skips x.sec) with
      | some p => if isMo (x.sec - p.before) = true then (x.sec - p.before, 0) else (0, 5)
      | none => (0, 5)
  else (0, 1)
theorem res_some {off : Int} {l : List Ch} {x : Dt} {p : Per} (h : zOk off l = true) (hx : x.ok = true) (hp : (pers off l).find? (fun p => p.shows x.sec) = some p) : resN off l x = (x.sec - p.off, 0) := by
  unfold resN; rw [if_pos ⟨h, hx⟩, hp]
theorem res_gap {off : Int} {l : List Ch} {x : Dt} {p : Per} (h : zOk off l = true) (hx : x.ok = true) (h0 : (pers off l).find? (fun p => p.shows x.sec) = none) (hp : (pers off l).find? (fun p => p.skips x.sec) = some p) :
    resN off l x = if isMo (x.sec - p.before) = true then (x.sec - p.before, 0) else (0, 5) := by
  unfold resN; rw [if_pos ⟨h, hx⟩, h0]
  dsimp only
  rw [hp]
theorem res_none {off : Int} {l : List Ch} {x : Dt} (h : zOk off l = true) (hx : x.ok = true) (h0 : (pers off l).find? (fun p => p.shows x.sec) = none) (hp : (pers off l).find? (fun p => p.skips x.sec) = none) : resN off l x = (0, 5) := by
  unfold resN; rw [if_pos ⟨h, hx⟩, h0]
  dsimp only
  rw [hp]
end Go.Proofs.Ytojkkgmfccchbaa
