/- Walk, Stop. -/
import Derived.Test.YtagejkolgicecaaA
namespace Go.Proofs.Ytagejkolgicecaa
open Go Go.RowKit Go.Maps
def Tb.walkE (S : Tb) : Ending := if S.nw = 20 then .returned (.tuple #[.int .i64 0, .int .i64 9]) else .returned (.tuple #[.int .i64 S.bg, .int .i64 0])
def Tb.walk (S : Tb) : Tb := if S.nw = 20 then S else { S with bg := S.bg + 1, nw := S.nw + 1, wk := upd S.wk S.bg (some 0) }
def Tb.over (S : Tb) (x : Int) : Tb := { S with nw := S.nw - 1, wk := upd S.wk x none }
theorem wf_nat {n : Nat} (h : n < 4611686018427387904) : WF (n : Int) := WalkArith.wf_i64 (by omega)
theorem no_walk {S : Tb} (h : Ok S) (hb : S.bg < 4611686018427387904) : S.wk S.bg = none := by
  cases hw : S.wk S.bg with
  | none => rfl
  | some p => have := (h.won S.bg (wf_nat hb) (by rw [hw]; rfl)).2; omega
theorem Ok.walk {S : Tb} (h : Ok S) (hb : S.bg < 4611686018427387904) : Ok S.walk := by
  unfold Tb.walk; split
  · exact h
  · rename_i hn
    refine ⟨h.nd, h.wf, h.mem, h.inc, h.lo, h.len, by have := h.wlen; show S.nw + 1 ≤ 20; omega, fun x hx hs => ?_⟩
    show 0 ≤ x ∧ x < ((S.bg + 1 : Nat) : Int)
    by_cases e : x = S.bg
    · omega
    · have := h.won x hx (by simpa [upd, e] using hs); omega
theorem Ok.over {S : Tb} (h : Ok S) (x : Int) : Ok (S.over x) := by
  refine ⟨h.nd, h.wf, h.mem, h.inc, h.lo, h.len, by have := h.wlen; show S.nw - 1 ≤ 20; omega, fun y hy hs => ?_⟩
  by_cases e : y = x
  · simp [Tb.over, upd, e] at hs
  · exact h.won y hy (by simpa [Tb.over, upd, e] using hs)
section
variable {F : Nat → Prop} {b : Nat} {S : Tb}
set_option maxRecDepth 100000 in
theorem t24 (w : World) (h : Tab F w b S) (hb : S.bg < 4611686018427387904) : Calls Try.prog 24 #[.pointer (some ⟨b, 0, none⟩)] w fun e w' => e = S.walkE ∧ Tab F w' b S.walk ∧ Turn F w w' := by
  obtain ⟨hO, m0, m1, kv, hW⟩ := h
  have q0 := hW.blk.cell 0 rfl
  have q3 := hW.blk.cell 3 rfl
  have q4 := hW.blk.cell 4 rfl
  have e4 := hW.blk.free 4
  have hl := fun ty => hW.walks.len Try.underlying67 ty
  have C55 := Lib.hid (t55 b m0 w q0)
  have HW := Lib.hid hW
  have hwl := hO.wlen
  have hK := Lib.hid (no_walk hO hb)
  have HX := Lib.hid (wf_nat hb)
  have HO := Lib.hid hO
  have HB := Lib.hid hb
  have hO2 := Lib.hid (hO.walk hb)
  have HE : Hid (S.walkE = if S.nw = 20 then .returned (.tuple #[.int .i64 0, .int .i64 9]) else .returned (.tuple #[.int .i64 S.bg, .int .i64 0])) := rfl
  have HS : Hid (S.walk = if S.nw = 20 then S else { S with bg := S.bg + 1, nw := S.nw + 1, wk := upd S.wk S.bg (some 0) }) := rfl
  clear hO hW
  obtain ⟨n, hn⟩ : ∃ n, n = S.nw := ⟨_, rfl⟩
  rw [← hn] at hl hwl HE HS
  have hnw := Lib.hid hn
  clear hn
  by_cases h20 : n = 20
  · subst h20
    go_enter Try.func24, Try.ntmps24
    go_wp2_with (go_at_call 55; refine C55.out.mono ?_; rintro e w' ⟨rfl, rfl⟩)
    go_ret2
    refine ⟨?_, ?_, Turn.refl _ _⟩
    · rw [HE.out]; rfl
    · rw [HS.out]; exact ⟨HO.out, m0, m1, kv, HW.out⟩
  · have h20' : ¬ ((n : Int) = 20) := by omega
    have H20 := Lib.hid h20
    clear h20
    go_enter Try.func24, Try.ntmps24
    go_wp2_with (first | (go_at_call 55; refine C55.out.mono ?_; rintro e w' ⟨rfl, rfl⟩) | (at_mapUpdate; refine wpList_put _ rfl _ _ _ 67 rfl 3 Try.underlying67 m1 _ _ rfl (HW.out.walks.set HW.out.ne1.symm 4 _) (by have := hnw.out; unfold maxLen; omega) S.bg 0 rfl rfl HX.out ?_; intro w2 hm2 ht2))
    go_ret2
    have h2 : IMap numK w2 m1 (S.nw + 1) (upd S.wk S.bg (some 0)) := by have h3 := hm2; rw [hK.out] at h3; exact h3
    refine ⟨?_, ?_, ((Turn.refl F _).set b 4 HW.out.fb _).trans (mturn ht2 HW.out.f1)⟩
    · rw [HE.out, if_neg H20.out]; rfl
    · have hOw := hO2.out
      rw [HS.out, if_neg H20.out] at hOw ⊢
      have T2 : Turn (fun i => i = m1) _ w2 := mturn ht2 rfl
      have hnb : b ≠ m1 := HW.out.ne1
      have hX : Turn (fun i => i = b) w' (w'.setCell ⟨b, 4, none⟩ (.int .i64 (S.bg + 1))) := turnSet _ b 4 _
      refine ⟨hOw, m0, m1, kv, mblk ht2 (HW.out.blk.set 4 _) hnb, ?_, ?_, ?_, HW.out.fb, HW.out.f0, HW.out.f1, HW.out.fk, HW.out.ne⟩
      · exact (HW.out.rows.set HW.out.ne0.symm 4 _).turn T2 HW.out.ne
      · have e := hnw.out; subst e; exact h2
      · exact ownsRow_turn (ownsRow_turn HW.out.keys hX (fun g hg e => HW.out.kne.1 (by rw [hg, e]))) T2 (fun g hg e => HW.out.kne.2.2 (by rw [hg, e]))
def Tb.stopE (S : Tb) (x : Int) : Int := if (S.wk x).isSome then 0 else 1
def Tb.stop (S : Tb) (x : Int) : Tb := if (S.wk x).isSome then S.over x else S
theorem Wit.over {F : Nat → Prop} {w w2 : World} {b m0 m1 : Nat} {kv : Value} {S : Tb} {x : Int} (h : Wit F w b S m0 m1 kv) (hs : (S.wk x).isSome = true) (hm : IMap numK w2 m1 (S.nw - if (S.wk x).isSome then 1 else 0) (upd S.wk x none)) (ht : w.mapTurned w2 m1) : Wit F w2 b (S.over x) m0 m1 kv := by
  rw [hs] at hm
  have T2 : Turn (fun i => i = m1) w w2 := mturn ht rfl
  exact ⟨mblk ht h.blk h.ne1, h.rows.turn T2 h.ne, hm, ownsRow_turn h.keys T2 (fun g hg e => h.kne.2.2 (by rw [hg, e])), h.fb, h.f0, h.f1, h.fk, h.ne⟩
set_option maxRecDepth 100000 in
theorem t27 (w : World) (h : Tab F w b S) {x : Int} (hx : WF x) : Calls Try.prog 27 #[.pointer (some ⟨b, 0, none⟩), .int .i64 x] w fun e w' => e = .returned (.int .i64 (S.stopE x)) ∧ Tab F w' b (S.stop x) ∧ Turn F w w' := by
  obtain ⟨hO, m0, m1, kv, hW⟩ := h
  have q0 := hW.blk.cell 0 rfl
  have q3 := hW.blk.cell 3 rfl
  have C55 := Lib.hid (t55 b m0 w q0)
  have C67 := Lib.hid (t67 w hW hx)
  have HW := Lib.hid hW
  have HO := Lib.hid hO
  have HX := Lib.hid hx
  clear hO hW hx
  cases hr : (S.wk x).isSome with
  | false =>
    have HE : Hid (S.stopE x = 1) := by show _ = _; unfold Tb.stopE; rw [hr]; rfl
    have HS : Hid (S.stop x = S) := by show _ = _; unfold Tb.stop; rw [hr]; rfl
    rw [hr] at C67
    clear hr
    go_enter Try.func27, Try.ntmps27
    go_wp2_with (first | (go_at_call 55; refine C55.out.mono ?_; rintro e w' ⟨rfl, rfl⟩) | (go_at_call 67; refine C67.out.mono ?_; rintro e w' ⟨rfl, rfl⟩))
    go_ret
    exact ⟨(by rw [HE.out]; rfl), by rw [HS.out]; exact ⟨HO.out, m0, m1, kv, HW.out⟩, Turn.refl _ _⟩
  | true =>
    have HR : Hid ((S.wk x).isSome = true) := hr
    have HE : Hid (S.stopE x = 0) := by show _ = _; unfold Tb.stopE; rw [hr]; rfl
    have HS : Hid (S.stop x = S.over x) := by show _ = _; unfold Tb.stop; rw [hr]; rfl
    rw [hr] at C67
    clear hr
    go_enter Try.func27, Try.ntmps27
    go_wp2_with (first | (go_at_call 55; refine C55.out.mono ?_; rintro e w' ⟨rfl, rfl⟩) | (go_at_call 67; refine C67.out.mono ?_; rintro e w' ⟨rfl, rfl⟩) | (at_delete; refine wpList_drop _ rfl _ _ 67 rfl 3 Try.underlying67 m1 _ _ rfl HW.out.walks x rfl HX.out ?_; intro w2 hm2 ht2))
    go_ret
    exact ⟨(by rw [HE.out]; rfl), by rw [HS.out]; exact ⟨HO.out.over x, m0, m1, kv, HW.out.over HR.out hm2 ht2⟩, mturn ht2 HW.out.f1⟩
end
end Go.Proofs.Ytagejkolgicecaa
