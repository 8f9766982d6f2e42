/- First, Shift, Len, Frozen, Freeze, Strict, Merge, Same of tables. -/
import Derived.Test.YtagejkolgicecaaFA
import Derived.Test.YtagejkolgicecaaC
import Derived.Test.YtagejkolgicecaaKE
namespace Go.Proofs.Ytagejkolgicecaa
open Go Go.RowKit Go.Maps
section
variable {F : Nat → Prop} {b : Nat} {S : Tb}
theorem t41T (w : World) (h : Tab F w b S) (i : Int) : Calls Try.prog 41 #[.pointer (some ⟨b, 0, none⟩), .int .i64 i] w fun e w' => e = S.atE i ∧ Below w.heap.size w w' := by
  obtain ⟨hO, m0, m1, kv, hW⟩ := h
  exact t41 w hO hW i
theorem t42T (w : World) (h : Tab F w b S) {x : Int} (hx : WF x) : Calls Try.prog 42 #[.pointer (some ⟨b, 0, none⟩), .int .i64 x] w fun e w' => WhR S x e ∧ w' = w := by
  obtain ⟨hO, m0, m1, kv, hW⟩ := h
  exact t42 w hO hW hx
theorem atE_form (S : Tb) (i : Int) : ∃ a c d : Int, S.atE i = .returned (.tuple #[.int .i64 a, .int .i64 c, .int .i64 d]) := by
  unfold Tb.atE
  split
  · split
    · exact ⟨_, _, _, rfl⟩
    · exact ⟨_, _, _, rfl⟩
  · exact ⟨_, _, _, rfl⟩
theorem t39 (w : World) (h : Tab F w b S) : Calls Try.prog 39 #[.pointer (some ⟨b, 0, none⟩)] w fun e w' => e = S.atE 0 ∧ Below w.heap.size w w' := by
  have C := Lib.hid (t41T w h 0)
  clear h
  obtain ⟨x, y, z, hE⟩ := atE_form S 0
  rw [hE] at C ⊢
  clear hE
  go_enter Try.func39, Try.ntmps39
  go_wp2_with fail
  refine C.out.mono ?_
  rintro e w1 ⟨rfl, hb⟩
  have HB := Lib.hid hb
  clear hb
  go_wp2
  go_ret3
  exact ⟨rfl, HB.out⟩
def Tb.shiftE (S : Tb) : Ending := if S.fz then .returned (.tuple #[.int .i64 0, .int .i64 0, .int .i64 13]) else S.atE 0
def Tb.shift (S : Tb) : Tb := if S.fz then S else match S.ks with
  | [] => S
  | k :: _ => S.out 0 k
set_option maxRecDepth 100000 in
theorem t40 (w : World) (h : Tab F w b S) : Calls Try.prog 40 #[.pointer (some ⟨b, 0, none⟩)] w fun e w' => e = S.shiftE ∧ Tab F w' b S.shift ∧ Turn F w w' := by
  have HT := Lib.hid h
  obtain ⟨hO, m0, m1, kv, hW⟩ := h
  have q0 := hW.blk.cell 0 rfl
  have q6 := hW.blk.cell 6 rfl
  have C55 := Lib.hid (t55 b m0 w q0)
  have C39 := Lib.hid (t39 w HT.out)
  have HO := Lib.hid hO
  have HW := Lib.hid hW
  clear hO hW
  cases hfz : S.fz with
  | true =>
    have HE : Hid (S.shiftE = .returned (.tuple #[.int .i64 0, .int .i64 0, .int .i64 13])) := by show _ = _; unfold Tb.shiftE; rw [if_pos hfz]
    have HS : Hid (S.shift = S) := by show _ = _; unfold Tb.shift; rw [if_pos hfz]
    rw [hfz] at q6
    clear hfz
    go_enter Try.func40, Try.ntmps40
    go_wp2_with (go_at_call 55; refine C55.out.mono ?_; rintro e w' ⟨rfl, rfl⟩)
    go_ret3
    exact ⟨(by rw [HE.out]; rfl), by rw [HS.out]; exact HT.out, Turn.refl _ _⟩
  | false =>
    rw [hfz] at q6
    have HE : Hid (S.shiftE = S.atE 0) := by show _ = _; unfold Tb.shiftE; rw [if_neg (by rw [hfz]; simp)]
    cases hks : S.ks with
    | nil =>
      have HS : Hid (S.shift = S) := by show _ = _; unfold Tb.shift; rw [if_neg (by rw [hfz]; simp), hks]
      have hA : S.atE 0 = .returned (.tuple #[.int .i64 0, .int .i64 0, .int .i64 3]) := atE_big (by rw [hks]; simp)
      rw [hA] at C39 HE
      clear hfz hks hA
      go_enter Try.func40, Try.ntmps40
      go_wp2_with (go_at_call 55; refine C55.out.mono ?_; rintro e w' ⟨rfl, rfl⟩)
      refine C39.out.mono ?_
      rintro e w1 ⟨rfl, hb⟩
      have HB := Lib.hid hb
      clear hb
      go_wp2
      go_ret3
      exact ⟨(by rw [HE.out]; rfl), by rw [HS.out]; exact HT.out.below HB.out, Turn.of_below HB.out⟩
    | cons k l =>
      have hk0 : S.ks[0]? = some k := by rw [hks]; rfl
      have HS : Hid (S.shift = S.out 0 k) := by show _ = _; unfold Tb.shift; rw [if_neg (by rw [hfz]; simp), hks]
      have hA : S.atE 0 = .returned (.tuple #[.int .i64 k, .int .i64 (S.vl k), .int .i64 0]) := atE_some (i := 0) hk0
      rw [hA] at C39 HE
      have C66 := Lib.hid (fun W (hb : Below w.heap.size w W) => t66 W HO.out (HW.out.below hb) 0 k hk0)
      have HOO := Lib.hid (HO.out.out hk0)
      clear hfz hks hA hk0
      go_enter Try.func40, Try.ntmps40
      go_wp2_with (go_at_call 55; refine C55.out.mono ?_; rintro e w' ⟨rfl, rfl⟩)
      refine C39.out.mono ?_
      rintro e w1 ⟨rfl, hb⟩
      have HB := Lib.hid hb
      clear hb
      go_wp2_with fail
      refine (C66.out w1 HB.out).mono ?_
      rintro e w2 ⟨rfl, ⟨kv', h3⟩, h4⟩
      have H3 := Lib.hid h3
      have H4 := Lib.hid h4
      clear h3 h4
      go_wp2
      go_ret3
      exact ⟨(by rw [HE.out]; rfl), by rw [HS.out]; exact ⟨HOO.out, m0, m1, kv', H3.out⟩, (Turn.of_below HB.out).trans H4.out⟩
theorem t43 (w : World) (h : Tab F w b S) : Calls Try.prog 43 #[.pointer (some ⟨b, 0, none⟩)] w fun e w' => e = .returned (.int .i64 (S.ks.length : Int)) ∧ w' = w := by
  obtain ⟨hO, m0, m1, kv, hW⟩ := h
  have q0 := hW.blk.cell 0 rfl
  have q1 := hW.blk.cell 1 rfl
  have C55 := Lib.hid (t55 b m0 w q0)
  obtain ⟨ao, cap, rfl, _, _, _⟩ := keys_form hW.keys
  clear hO hW
  go_enter Try.func43, Try.ntmps43
  go_wp2_with (go_at_call 55; refine C55.out.mono ?_; rintro e w' ⟨rfl, rfl⟩)
  go_ret
  exact ⟨rfl, rfl⟩
theorem t26 (w : World) (h : Tab F w b S) : Calls Try.prog 26 #[.pointer (some ⟨b, 0, none⟩)] w fun e w' => e = .returned (.bool S.fz) ∧ w' = w := by
  obtain ⟨hO, m0, m1, kv, hW⟩ := h
  have q0 := hW.blk.cell 0 rfl
  have q6 := hW.blk.cell 6 rfl
  have C55 := Lib.hid (t55 b m0 w q0)
  clear hO hW
  generalize S.fz = f at *
  go_enter Try.func26, Try.ntmps26
  go_wp2_with (go_at_call 55; refine C55.out.mono ?_; rintro e w' ⟨rfl, rfl⟩)
  go_ret
  exact ⟨rfl, rfl⟩
theorem Wit.cellset {w : World} {m0 m1 : Nat} {kv : Value} (h : Wit F w b S m0 m1 kv) (i : Nat) (u : Value) :
    IMap rowK (w.setCell ⟨b, i, none⟩ u) m0 S.ks.length S.rw ∧ IMap numK (w.setCell ⟨b, i, none⟩ u) m1 S.nw S.wk ∧ (w.setCell ⟨b, i, none⟩ u).ownsRow 0 3 1 kv S.ks.length (S.ks.map (Value.int .i64)) :=
  ⟨h.rows.set h.ne0.symm i u, h.walks.set h.ne1.symm i u, ownsRow_turn h.keys (turnSet w b i u) (fun g hg e => h.kne.1 (by rw [hg, e]))⟩
theorem t38 (w : World) (h : Tab F w b S) : Calls Try.prog 38 #[.pointer (some ⟨b, 0, none⟩)] w fun e w' => e = .returned (.tuple #[]) ∧ Tab F w' b { S with fz := true } ∧ Turn F w w' := by
  obtain ⟨hO, m0, m1, kv, hW⟩ := h
  have q0 := hW.blk.cell 0 rfl
  have q6 := hW.blk.cell 6 rfl
  have e6 := hW.blk.free 6
  have C55 := Lib.hid (t55 b m0 w q0)
  have HO := Lib.hid hO
  have HW := Lib.hid hW
  clear hO hW
  go_enter Try.func38, Try.ntmps38
  go_wp2_with (go_at_call 55; refine C55.out.mono ?_; rintro e w' ⟨rfl, rfl⟩)
  go_end0
  obtain ⟨x1, x2, x3⟩ := HW.out.cellset 6 (.bool true)
  exact ⟨rfl, ⟨⟨HO.out.nd, HO.out.wf, HO.out.mem, HO.out.inc, HO.out.lo, HO.out.len, HO.out.wlen, HO.out.won⟩, m0, m1, kv, HW.out.blk.set 6 _, x1, x2, x3, HW.out.fb, HW.out.f0, HW.out.f1, HW.out.fk, HW.out.ne⟩, (Turn.refl F _).set b 6 HW.out.fb _⟩
theorem t37 (w : World) (on : Bool) (h : Tab F w b S) : Calls Try.prog 37 #[.pointer (some ⟨b, 0, none⟩), .bool on] w fun e w' => e = .returned (.tuple #[]) ∧ Tab F w' b { S with st := on } ∧ Turn F w w' := by
  obtain ⟨hO, m0, m1, kv, hW⟩ := h
  have q0 := hW.blk.cell 0 rfl
  have q5 := hW.blk.cell 5 rfl
  have e5 := hW.blk.free 5
  have C55 := Lib.hid (t55 b m0 w q0)
  have HO := Lib.hid hO
  have HW := Lib.hid hW
  clear hO hW
  go_enter Try.func37, Try.ntmps37
  go_wp2_with (go_at_call 55; refine C55.out.mono ?_; rintro e w' ⟨rfl, rfl⟩)
  go_end0
  obtain ⟨x1, x2, x3⟩ := HW.out.cellset 5 (.bool on)
  exact ⟨rfl, ⟨⟨HO.out.nd, HO.out.wf, HO.out.mem, HO.out.inc, HO.out.lo, HO.out.len, HO.out.wlen, HO.out.won⟩, m0, m1, kv, HW.out.blk.set 5 _, x1, x2, x3, HW.out.fb, HW.out.f0, HW.out.f1, HW.out.fk, HW.out.ne⟩, (Turn.refl F _).set b 5 HW.out.fb _⟩
end
end Go.Proofs.Ytagejkolgicecaa
