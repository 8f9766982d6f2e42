/- The reference: Delete, Shift. -/
import Derived.Test.YtagejkolgicecaaQF
namespace Go.Proofs.Ytagejkolgicecaa
open Go Go.RowKit Go.Maps
def Rt.DelR (R : Rt) (k : Int) (e : Ending) (R' : Rt) : Prop :=
  (R.fz = true ∧ e = .returned (.tuple #[.int .i64 0, .int .i64 13]) ∧ R' = R) ∨
  (R.fz = false ∧ (∀ x ∈ R.rows, x.1 ≠ k) ∧ e = .returned (.tuple #[.int .i64 0, .int .i64 3]) ∧ R' = R) ∨
  (R.fz = false ∧ ∃ (j : Nat) (v : Int) (t : Nat), R.rows[j]? = some (k, v, t) ∧ (∀ x ∈ R.rows.take j, x.1 ≠ k) ∧ e = .returned (.tuple #[.int .i64 v, .int .i64 0]) ∧ R' = R.out j)
theorem field83 (a b c : Int) (w : World) : (Instr.field 83 (Value.agg #[.int .i64 a, .int .i64 b, .int .i64 c]) 1).run Try.prog w = .ok (.int .i64 b) w := by kernel_rfl
section
variable {F : Nat → Prop} {r : Nat} {R : Rt}
set_option maxRecDepth 100000 in
set_option maxHeartbeats 1000000 in
theorem t45 (w : World) (h : RTab F w r R) (hn : ∀ i, w.heap.size ≤ i → F i) (hl : R.rows.length ≤ 500) (k : Int) :
    Calls Try.prog 45 #[.pointer (some ⟨r, 0, none⟩), .int .i64 k] w fun e w' => ∃ R', R.DelR k e R' ∧ RTab F w' r R' ∧ Turn F w w' := by
  have HH := Lib.hid h
  have HN := Lib.hid hn
  obtain ⟨rv, wv, hW⟩ := h
  have q0 := hW.blk.cell 0 rfl
  have q2 := hW.blk.cell 2 rfl
  have C62 := Lib.hid (t62 r w q0)
  have C63 := Lib.hid (t63 w hW (by omega) k)
  clear hW hn
  cases hfz : R.fz with
  | true =>
    have HF : Hid (R.fz = true) := hfz
    rw [hfz] at q2
    clear hfz
    go_enter Try.func45, Try.ntmps45
    go_wp2_with (go_at_call 62; refine C62.out.mono ?_; rintro e w' ⟨rfl, rfl⟩)
    go_ret2
    exact ⟨R, .inl ⟨HF.out, rfl, rfl⟩, HH.out, Turn.refl _ _⟩
  | false =>
    have HF : Hid (R.fz = false) := hfz
    rw [hfz] at q2
    clear hfz
    go_enter Try.func45, Try.ntmps45
    go_wp2_with (go_at_call 62; refine C62.out.mono ?_; rintro e w' ⟨rfl, rfl⟩)
    refine C63.out.mono ?_
    rintro e w1 ⟨⟨h1, rfl⟩ | ⟨j, v, t, h1, h2, rfl⟩, rfl⟩
    · have H1 := Lib.hid h1
      clear h1
      go_wp2
      go_ret2
      exact ⟨R, .inr (.inl ⟨HF.out, H1.out, rfl, rfl⟩), HH.out, Turn.refl _ _⟩
    · have C71 := Lib.hid (t71 w1 HH.out HN.out hl j k v t h1)
      have H1 := Lib.hid h1
      have H2 := Lib.hid h2
      clear h1 h2
      go_wp2_with fail
      refine C71.out.mono ?_
      rintro e w2 ⟨rfl, h3, h4⟩
      have H3 := Lib.hid h3
      have H4 := Lib.hid h4
      have f0 := field83 k v t w2
      clear h3 h4
      go_wp2
      go_ret2
      exact ⟨R.out j, .inr (.inr ⟨HF.out, j, v, t, H1.out, H2.out, rfl, rfl⟩), H3.out, H4.out⟩
def Rt.shiftE (R : Rt) : Ending := if R.fz then .returned (.tuple #[.int .i64 0, .int .i64 0, .int .i64 13]) else match R.rows with
  | [] => .returned (.tuple #[.int .i64 0, .int .i64 0, .int .i64 3])
  | x :: _ => .returned (.tuple #[.int .i64 x.1, .int .i64 x.2.1, .int .i64 0])
def Rt.shift (R : Rt) : Rt := if R.fz then R else { R with rows := R.rows.tail }
set_option maxRecDepth 100000 in
set_option maxHeartbeats 1000000 in
theorem t46 (w : World) (h : RTab F w r R) (hn : ∀ i, w.heap.size ≤ i → F i) (hl : R.rows.length ≤ 500) :
    Calls Try.prog 46 #[.pointer (some ⟨r, 0, none⟩)] w fun e w' => e = R.shiftE ∧ RTab F w' r R.shift ∧ Turn F w w' := by
  have HH := Lib.hid h
  have HN := Lib.hid hn
  obtain ⟨rv, wv, hW⟩ := h
  have q0 := hW.blk.cell 0 rfl
  have q2 := hW.blk.cell 2 rfl
  have q3 := hW.blk.cell 3 rfl
  have C62 := Lib.hid (t62 r w q0)
  obtain ⟨ar, cr, rfl, _, _, _⟩ := hW.rows.form
  clear hW hn
  cases hfz : R.fz with
  | true =>
    have HE : Hid (R.shiftE = .returned (.tuple #[.int .i64 0, .int .i64 0, .int .i64 13])) := by show _ = _; unfold Rt.shiftE; rw [if_pos hfz]
    have HS : Hid (R.shift = R) := by show _ = _; unfold Rt.shift; rw [if_pos hfz]
    rw [hfz] at q2
    clear hfz
    go_enter Try.func46, Try.ntmps46
    go_wp2_with (go_at_call 62; refine C62.out.mono ?_; rintro e w' ⟨rfl, rfl⟩)
    go_ret3
    exact ⟨(by rw [HE.out]; rfl), by rw [HS.out]; exact HH.out, Turn.refl _ _⟩
  | false =>
    rw [hfz] at q2
    cases hrw : R.rows with
    | nil =>
      have HE : Hid (R.shiftE = .returned (.tuple #[.int .i64 0, .int .i64 0, .int .i64 3])) := by show _ = _; unfold Rt.shiftE; rw [if_neg (by rw [hfz]; simp), hrw]
      have HS : Hid (R.shift = R) := by
        show _ = _; unfold Rt.shift; rw [if_neg (by rw [hfz]; simp)]
        obtain ⟨a, b, c, d, e⟩ := R
        simp only at hrw; rw [hrw]; rfl
      rw [hrw] at q3
      clear hfz hrw
      go_enter Try.func46, Try.ntmps46
      go_wp2_with (go_at_call 62; refine C62.out.mono ?_; rintro e w' ⟨rfl, rfl⟩)
      go_ret3
      exact ⟨(by rw [HE.out]; rfl), by rw [HS.out]; exact HH.out, Turn.refl _ _⟩
    | cons x l =>
      obtain ⟨k, v, t⟩ := x
      have HE : Hid (R.shiftE = .returned (.tuple #[.int .i64 k, .int .i64 v, .int .i64 0])) := by show _ = _; unfold Rt.shiftE; rw [if_neg (by rw [hfz]; simp), hrw]
      have HS : Hid (R.shift = R.out 0) := by show _ = _; unfold Rt.shift Rt.out; rw [if_neg (by rw [hfz]; simp), hrw]; rfl
      have C71 := Lib.hid (t71 w HH.out HN.out hl 0 k v t (by rw [hrw]; rfl))
      rw [hrw] at q3
      have hl2 : (0 : Int) < (((k, v, t) :: l).length : Int) := by simp
      have hl3 : ((((k, v, t) :: l).length : Int) == 0) = false := beq_eq_false_iff_ne.2 (by omega)
      obtain ⟨n, hn⟩ : ∃ n, n = ((k, v, t) :: l).length := ⟨_, rfl⟩
      rw [← hn] at q3 hl2 hl3
      clear hfz hrw hn
      go_enter Try.func46, Try.ntmps46
      go_wp2_with (go_at_call 62; refine C62.out.mono ?_; rintro e w' ⟨rfl, rfl⟩)
      refine C71.out.mono ?_
      rintro e w2 ⟨rfl, h3, h4⟩
      have H3 := Lib.hid (h3 : RTab F w2 r (R.out 0))
      have H4 := Lib.hid h4
      clear h3 h4
      go_wp2_with fail
      go_region
      all_goals go_wp2
      all_goals go_ret3
      all_goals exact ⟨(by rw [HE.out]; rfl), by rw [HS.out]; obtain ⟨a, b, c⟩ := H3.out; exact ⟨a, b, c.below (bSelf w2 _).drew⟩, H4.out.trans (Turn.of_below (bSelf w2 _).drew)⟩
end
end Go.Proofs.Ytagejkolgicecaa
