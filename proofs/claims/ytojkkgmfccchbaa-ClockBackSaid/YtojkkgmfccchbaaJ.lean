/- Zones: find, Check, Offset, Local. -/
import Derived.Test.YtojkkgmfccchbaaI
namespace Go.Proofs.Ytojkkgmfccchbaa
open Go Go.RowKit Go.Sort

theorem per_ok (l : List Ch) : ∀ f b o, ordB f l = true → -100000000000 ≤ f → f ≤ 100000000001 → (-86400 ≤ b ∧ b ≤ 86400) → (-86400 ≤ o ∧ o ≤ 86400) → ∀ p ∈ per f b o l, POk p := by
  induction l with
  | nil =>
    intro f b o _ h1 h2 hb ho p hp
    have : p = ⟨f, 100000000000, b, o⟩ := by simpa [per] using hp
    subst this
    exact ⟨⟨by simp only; omega, h2⟩, ⟨by simp only; omega, by simp only; omega⟩, hb, ho⟩
  | cons c l ih =>
    obtain ⟨a, o'⟩ := c
    intro f b o h h1 h2 hb ho p hp
    obtain ⟨g1, g2, g3⟩ := ordB_cons.1 h
    unfold per at hp
    rcases List.mem_cons.1 hp with rfl | hp
    · exact ⟨⟨by simp only; omega, h2⟩, ⟨by simp only; omega, by simp only; omega⟩, hb, ho⟩
    · exact ih a o o' (ordB_weak g3) (by omega) (by omega) ho g2 p hp
theorem zOk_parts {off : Int} {l : List Ch} (h : zOk off l = true) : (-86400 ≤ off ∧ off ≤ 86400) ∧ l.length ≤ 40 ∧ ordB (-100000000000) l = true := by
  obtain ⟨hA, hO⟩ := Bool.and_eq_true_iff.1 h
  obtain ⟨hF, hL⟩ := Bool.and_eq_true_iff.1 hA
  exact ⟨inB_iff.1 hF, of_decide_eq_true hL, hO⟩
theorem pers_ok {off : Int} {l : List Ch} (h : zOk off l = true) : ∀ p ∈ pers off l, POk p := by
  obtain ⟨h1, _, h3⟩ := zOk_parts h
  exact per_ok l _ _ _ h3 (by omega) (by omega) h1 h1
theorem pers_len (off : Int) (l : List Ch) : (pers off l).length = l.length + 1 := per_length l _ _ _
set_option maxRecDepth 100000 in
set_option maxHeartbeats 4000000 in
theorem t62_81 (off : Int) (v : Value) (l : List Ch) (m : Int) (c : Nat) (w : World) (hz : ZR w v l) (hok : zOk off l = true) (hc : w.cell? ⟨c, 0, none⟩ = some (.int .i64 m)) :
    Calls Try.prog 62 #[ZV off v, .func (.func 81) #[] #[.pointer (some ⟨c, 0, none⟩)]] w (FndR (fun p => p.has m) (pers off l) w) := by
  have hpk := pers_ok hok
  have h40 := (zOk_parts hok).2.1
  have hpl := pers_len off l
  have hcl : c < w.heap.size := World.block_lt_of_cell? w _ hc
  have HC := Lib.hid hc
  have C60 := Lib.hid (fun W (hb : Below w.heap.size w W) => t60 off v l W (hz.below hb) hok)
  have C85 := Lib.hid (fun B W (hP : Pr W B (l.length + 1) (pers off l)) (hc : W.cell? ⟨c, 0, none⟩ = some (.int .i64 m)) => by have h := t85_81 B (l.length + 1) (pers off l) m c W hP hc (by omega); rw [pers_len] at h; exact h)
  have HPL := Lib.hid hpl
  clear hz hok hpk hpl hc
  generalize pers off l = ps at *
  go_enter Try.func62, Try.ntmps62
  go_wp2_with fail
  have hb0 : Below w.heap.size w ((w.alloc (.cells #[.int .i64 off, v] 52)).alloc (.cells #[.int .i64 0, .int .i64 0, .int .i64 0, .int .i64 0] 96)) := bAl (bSelf w _) _
  have K0 : Hid (Blk ((w.alloc (.cells #[.int .i64 off, v] 52)).alloc (.cells #[.int .i64 0, .int .i64 0, .int .i64 0, .int .i64 0] 96)) (w.heap.size + 1) 96 [.int .i64 0, .int .i64 0, .int .i64 0, .int .i64 0]) := newAt _ _ _ _ _ (by simp) rfl
  refine (C60.out _ hb0).mono ?_
  rintro e w1 ⟨B, rfl, hP, hb1⟩
  have hB1 := bThen hb0 hb1
  have K1 := Lib.hid (blkDown K0.out hb1)
  have P1 := Lib.hid hP
  have hc1 : w1.cell? ⟨c, 0, none⟩ = some (.int .i64 m) := (hB1.cell (p := ⟨c, 0, none⟩) hcl).trans HC.out
  have HC1 := Lib.hid hc1
  clear hP hb1 hb0 K0 hc1
  go_wp2_with fail
  with_reducible refine (C85.out B _ P1.out HC1.out).mono ?_
  rintro e w2 ⟨hr, hb2⟩
  have hB2 := bThen hB1 hb2
  have K2 := Lib.hid (blkDown K1.out hb2)
  have P2 := Lib.hid (P1.out.below hb2)
  have n0 := K2.out.cell 0 rfl
  have n1 := K2.out.cell 1 rfl
  have n2 := K2.out.cell 2 rfl
  have n3 := K2.out.cell 3 rfl
  have m0 := K2.out.free 0
  have m1 := K2.out.free 1
  have m2 := K2.out.free 2
  have m3 := K2.out.free 3
  have nl := K2.out.lt
  clear hb2 K1 P1 HC1 hB1
  rcases hr with ⟨hf, rfl⟩ | ⟨k, p, hf, hg, rfl⟩
  · have HF := Lib.hid hf
    clear hf
    go_wp2_with fail
    refine bodyPost_ret ?r rfl ⟨.inl ⟨HF.out, rfl⟩, ?b⟩
    case r => simp [results, Try.results62, go_sem, n0, n1, n2, n3]
    case b => exact bSet (bSet (bSet (bSet hB2 _ 0 (by omega) _) _ 1 (by omega) _) _ 2 (by omega) _) _ 3 (by omega) _
  · have HF := Lib.hid hf
    obtain ⟨c0, c1, c2, c3⟩ := P2.out.read.2.2.2 k p hg
    have hlt : k < ps.length := (List.getElem?_eq_some_iff.1 hg).1
    have hlt2 : k < l.length + 1 := by have := HPL.out; omega
    have hlt' : (k : Int) < (l.length : Int) + 1 := by omega
    have hk0 : (0 : Int) ≤ k := by omega
    clear hf hg hlt
    obtain ⟨pf, pl, pb, po⟩ := p
    dsimp only at *
    go_wp2_with fail
    refine bodyPost_ret ?r rfl ⟨.inr ⟨_, HF.out, rfl⟩, ?b⟩
    case r => simp [results, Try.results62, go_sem, n0, n1, n2, n3]
    case b => exact bSet (bSet (bSet (bSet hB2 _ 0 (by omega) _) _ 1 (by omega) _) _ 2 (by omega) _) _ 3 (by omega) _
set_option maxRecDepth 100000 in
set_option maxHeartbeats 4000000 in
theorem t62_63 (off : Int) (v : Value) (l : List Ch) (m : Int) (c : Nat) (w : World) (hz : ZR w v l) (hok : zOk off l = true) (hc : w.cell? ⟨c, 0, none⟩ = some (.int .i64 m)) (h1 : -200000000000 ≤ m) (h2 : m ≤ 200000000000) :
    Calls Try.prog 62 #[ZV off v, .func (.func 63) #[] #[.pointer (some ⟨c, 0, none⟩)]] w (FndR (fun p => p.shows m) (pers off l) w) := by
  have hpk := pers_ok hok
  have h40 := (zOk_parts hok).2.1
  have hpl := pers_len off l
  have hcl : c < w.heap.size := World.block_lt_of_cell? w _ hc
  have HC := Lib.hid hc
  have C60 := Lib.hid (fun W (hb : Below w.heap.size w W) => t60 off v l W (hz.below hb) hok)
  have C85 := Lib.hid (fun B W (hP : Pr W B (l.length + 1) (pers off l)) (hc : W.cell? ⟨c, 0, none⟩ = some (.int .i64 m)) => by have h := t85_63 B (l.length + 1) (pers off l) m c W hP hc (by omega) hpk h1 h2; rw [pers_len] at h; exact h)
  have HPL := Lib.hid hpl
  clear hz hok hpk hpl hc
  generalize pers off l = ps at *
  go_enter Try.func62, Try.ntmps62
  go_wp2_with fail
  have hb0 : Below w.heap.size w ((w.alloc (.cells #[.int .i64 off, v] 52)).alloc (.cells #[.int .i64 0, .int .i64 0, .int .i64 0, .int .i64 0] 96)) := bAl (bSelf w _) _
  have K0 : Hid (Blk ((w.alloc (.cells #[.int .i64 off, v] 52)).alloc (.cells #[.int .i64 0, .int .i64 0, .int .i64 0, .int .i64 0] 96)) (w.heap.size + 1) 96 [.int .i64 0, .int .i64 0, .int .i64 0, .int .i64 0]) := newAt _ _ _ _ _ (by simp) rfl
  refine (C60.out _ hb0).mono ?_
  rintro e w1 ⟨B, rfl, hP, hb1⟩
  have hB1 := bThen hb0 hb1
  have K1 := Lib.hid (blkDown K0.out hb1)
  have P1 := Lib.hid hP
  have hc1 : w1.cell? ⟨c, 0, none⟩ = some (.int .i64 m) := (hB1.cell (p := ⟨c, 0, none⟩) hcl).trans HC.out
  have HC1 := Lib.hid hc1
  clear hP hb1 hb0 K0 hc1
  go_wp2_with fail
  with_reducible refine (C85.out B _ P1.out HC1.out).mono ?_
  rintro e w2 ⟨hr, hb2⟩
  have hB2 := bThen hB1 hb2
  have K2 := Lib.hid (blkDown K1.out hb2)
  have P2 := Lib.hid (P1.out.below hb2)
  have n0 := K2.out.cell 0 rfl
  have n1 := K2.out.cell 1 rfl
  have n2 := K2.out.cell 2 rfl
  have n3 := K2.out.cell 3 rfl
  have m0 := K2.out.free 0
  have m1 := K2.out.free 1
  have m2 := K2.out.free 2
  have m3 := K2.out.free 3
  have nl := K2.out.lt
  clear hb2 K1 P1 HC1 hB1
  rcases hr with ⟨hf, rfl⟩ | ⟨k, p, hf, hg, rfl⟩
  · have HF := Lib.hid hf
    clear hf
    go_wp2_with fail
    refine bodyPost_ret ?r rfl ⟨.inl ⟨HF.out, rfl⟩, ?b⟩
    case r => simp [results, Try.results62, go_sem, n0, n1, n2, n3]
    case b => exact bSet (bSet (bSet (bSet hB2 _ 0 (by omega) _) _ 1 (by omega) _) _ 2 (by omega) _) _ 3 (by omega) _
  · have HF := Lib.hid hf
    obtain ⟨c0, c1, c2, c3⟩ := P2.out.read.2.2.2 k p hg
    have hlt : k < ps.length := (List.getElem?_eq_some_iff.1 hg).1
    have hlt2 : k < l.length + 1 := by have := HPL.out; omega
    have hlt' : (k : Int) < (l.length : Int) + 1 := by omega
    have hk0 : (0 : Int) ≤ k := by omega
    clear hf hg hlt
    obtain ⟨pf, pl, pb, po⟩ := p
    dsimp only at *
    go_wp2_with fail
    refine bodyPost_ret ?r rfl ⟨.inr ⟨_, HF.out, rfl⟩, ?b⟩
    case r => simp [results, Try.results62, go_sem, n0, n1, n2, n3]
    case b => exact bSet (bSet (bSet (bSet hB2 _ 0 (by omega) _) _ 1 (by omega) _) _ 2 (by omega) _) _ 3 (by omega) _
set_option maxRecDepth 100000 in
set_option maxHeartbeats 4000000 in
theorem t62_64 (off : Int) (v : Value) (l : List Ch) (m : Int) (c : Nat) (w : World) (hz : ZR w v l) (hok : zOk off l = true) (hc : w.cell? ⟨c, 0, none⟩ = some (.int .i64 m)) :
    Calls Try.prog 62 #[ZV off v, .func (.func 64) #[] #[.pointer (some ⟨c, 0, none⟩)]] w (FndR (fun p => p.skips m) (pers off l) w) := by
  have hpk := pers_ok hok
  have h40 := (zOk_parts hok).2.1
  have hpl := pers_len off l
  have hcl : c < w.heap.size := World.block_lt_of_cell? w _ hc
  have HC := Lib.hid hc
  have C60 := Lib.hid (fun W (hb : Below w.heap.size w W) => t60 off v l W (hz.below hb) hok)
  have C85 := Lib.hid (fun B W (hP : Pr W B (l.length + 1) (pers off l)) (hc : W.cell? ⟨c, 0, none⟩ = some (.int .i64 m)) => by have h := t85_64 B (l.length + 1) (pers off l) m c W hP hc (by omega) hpk; rw [pers_len] at h; exact h)
  have HPL := Lib.hid hpl
  clear hz hok hpk hpl hc
  generalize pers off l = ps at *
  go_enter Try.func62, Try.ntmps62
  go_wp2_with fail
  have hb0 : Below w.heap.size w ((w.alloc (.cells #[.int .i64 off, v] 52)).alloc (.cells #[.int .i64 0, .int .i64 0, .int .i64 0, .int .i64 0] 96)) := bAl (bSelf w _) _
  have K0 : Hid (Blk ((w.alloc (.cells #[.int .i64 off, v] 52)).alloc (.cells #[.int .i64 0, .int .i64 0, .int .i64 0, .int .i64 0] 96)) (w.heap.size + 1) 96 [.int .i64 0, .int .i64 0, .int .i64 0, .int .i64 0]) := newAt _ _ _ _ _ (by simp) rfl
  refine (C60.out _ hb0).mono ?_
  rintro e w1 ⟨B, rfl, hP, hb1⟩
  have hB1 := bThen hb0 hb1
  have K1 := Lib.hid (blkDown K0.out hb1)
  have P1 := Lib.hid hP
  have hc1 : w1.cell? ⟨c, 0, none⟩ = some (.int .i64 m) := (hB1.cell (p := ⟨c, 0, none⟩) hcl).trans HC.out
  have HC1 := Lib.hid hc1
  clear hP hb1 hb0 K0 hc1
  go_wp2_with fail
  with_reducible refine (C85.out B _ P1.out HC1.out).mono ?_
  rintro e w2 ⟨hr, hb2⟩
  have hB2 := bThen hB1 hb2
  have K2 := Lib.hid (blkDown K1.out hb2)
  have P2 := Lib.hid (P1.out.below hb2)
  have n0 := K2.out.cell 0 rfl
  have n1 := K2.out.cell 1 rfl
  have n2 := K2.out.cell 2 rfl
  have n3 := K2.out.cell 3 rfl
  have m0 := K2.out.free 0
  have m1 := K2.out.free 1
  have m2 := K2.out.free 2
  have m3 := K2.out.free 3
  have nl := K2.out.lt
  clear hb2 K1 P1 HC1 hB1
  rcases hr with ⟨hf, rfl⟩ | ⟨k, p, hf, hg, rfl⟩
  · have HF := Lib.hid hf
    clear hf
    go_wp2_with fail
    refine bodyPost_ret ?r rfl ⟨.inl ⟨HF.out, rfl⟩, ?b⟩
    case r => simp [results, Try.results62, go_sem, n0, n1, n2, n3]
    case b => exact bSet (bSet (bSet (bSet hB2 _ 0 (by omega) _) _ 1 (by omega) _) _ 2 (by omega) _) _ 3 (by omega) _
  · have HF := Lib.hid hf
    obtain ⟨c0, c1, c2, c3⟩ := P2.out.read.2.2.2 k p hg
    have hlt : k < ps.length := (List.getElem?_eq_some_iff.1 hg).1
    have hlt2 : k < l.length + 1 := by have := HPL.out; omega
    have hlt' : (k : Int) < (l.length : Int) + 1 := by omega
    have hk0 : (0 : Int) ≤ k := by omega
    clear hf hg hlt
    obtain ⟨pf, pl, pb, po⟩ := p
    dsimp only at *
    go_wp2_with fail
    refine bodyPost_ret ?r rfl ⟨.inr ⟨_, HF.out, rfl⟩, ?b⟩
    case r => simp [results, Try.results62, go_sem, n0, n1, n2, n3]
    case b => exact bSet (bSet (bSet (bSet hB2 _ 0 (by omega) _) _ 1 (by omega) _) _ 2 (by omega) _) _ 3 (by omega) _
end Go.Proofs.Ytojkkgmfccchbaa
