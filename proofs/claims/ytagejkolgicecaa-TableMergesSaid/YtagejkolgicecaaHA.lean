/- Next. -/
import Derived.Test.YtagejkolgicecaaC
import Derived.Test.YtagejkolgicecaaG
import Derived.Test.YtagejkolgicecaaH
namespace Go.Proofs.Ytagejkolgicecaa
open Go Go.RowKit Go.Maps
def Tb.front (S : Tb) (p : Nat) : Option Int := S.ks.find? (fun k => decide (p < S.pl k))
def tup3 (a c d : Int) : Ending := .returned (.tuple #[.int .i64 a, .int .i64 c, .int .i64 d])
def Tb.nextE (S : Tb) (x : Int) : Ending := match S.wk x with
  | none => tup3 0 0 1
  | some p => match S.front p with
    | none => tup3 0 0 14
    | some k => tup3 k (S.vl k) 0
def Tb.next (S : Tb) (x : Int) : Tb := match S.wk x with
  | none => S
  | some p => match S.front p with
    | none => S.over x
    | some k => { S with wk := upd S.wk x (some (S.pl k)) }
theorem behind_at (S : Tb) (h : Ok S) (p : Nat) : S.ks[S.behind p]? = S.front p := countP_find S.pl p S.ks h.inc
theorem Ok.step {S : Tb} (h : Ok S) {x : Int} (hx : (S.wk x).isSome = true) (p : Nat) : Ok { S with wk := upd S.wk x (some p) } := by
  refine ⟨h.nd, h.wf, h.mem, h.inc, h.lo, h.len, h.wlen, fun y hy hs => ?_⟩
  by_cases e : y = x
  · subst e; exact h.won y hy hx
  · exact h.won y hy (by simpa [upd, e] using hs)
section
variable {F : Nat → Prop} {b : Nat} {S : Tb}
set_option maxRecDepth 100000 in
set_option maxHeartbeats 2000000 in
theorem t25 (w : World) (h : Tab F w b S) {x : Int} (hx : WF x) : Calls Try.prog 25 #[.pointer (some ⟨b, 0, none⟩), .int .i64 x] w fun e w' => e = S.nextE x ∧ Tab F w' b (S.next x) ∧ Turn F w w' := by
  obtain ⟨hO, m0, m1, kv, hW⟩ := h
  have q0 := hW.blk.cell 0 rfl
  have q3 := hW.blk.cell 3 rfl
  have C55 := Lib.hid (t55 b m0 w q0)
  have C67 := Lib.hid (t67 w hW hx)
  have HW := Lib.hid hW
  have HO := Lib.hid hO
  have HX := Lib.hid hx
  have hlk := hW.walks.look Try.underlying67 0 (zero3 w) hx
  change _ = Result.ok (Value.int .i64 _) w at hlk
  cases hr : S.wk x with
  | none =>
    have HE : Hid (S.nextE x = tup3 0 0 1) := by show _ = _; unfold Tb.nextE; rw [hr]
    have HS : Hid (S.next x = S) := by show _ = _; unfold Tb.next; rw [hr]
    rw [hr] at C67
    clear hr hO hW hx hlk
    go_enter Try.func25, Try.ntmps25
    go_wp2_with (first | (go_at_call 55; refine C55.out.mono ?_; rintro e w' ⟨rfl, rfl⟩) | (go_at_call 67; refine C67.out.mono ?_; rintro e w' ⟨rfl, rfl⟩))
    go_ret3
    exact ⟨(by rw [HE.out]; rfl), by rw [HS.out]; exact ⟨HO.out, m0, m1, kv, HW.out⟩, Turn.refl _ _⟩
  | some p =>
    have HR : Hid (S.wk x = some p) := hr
    have C68 := Lib.hid (t68 w hO hW p)
    have C41 := Lib.hid (fun W hW => t41 (F := F) (S := S) (b := b) (m0 := m0) (m1 := m1) (kv := kv) W hO hW (S.behind p))
    have HA := Lib.hid (behind_at S hO p)
    have hb5 : S.behind p ≤ 500 := Nat.le_trans List.countP_le_length hO.len
    rw [hr] at C67 hlk
    change _ = Result.ok (Value.int .i64 (p : Int)) w at hlk
    clear hr hO hW hx
    cases hf : S.front p with
    | none =>
      have HE : Hid (S.nextE x = tup3 0 0 14) := by show _ = _; unfold Tb.nextE; rw [HR.out]; simp only [hf]
      have HS : Hid (S.next x = S.over x) := by show _ = _; unfold Tb.next; rw [HR.out]; simp only [hf]
      have hA : S.atE (S.behind p) = .returned (.tuple #[.int .i64 0, .int .i64 0, .int .i64 3]) := by
        have h1 := HA.out; rw [hf] at h1; simp [Tb.atE, h1]
      rw [hA] at C41
      clear hf hA
      generalize S.behind p = n at *
      go_enter Try.func25, Try.ntmps25
      go_wp2_with (first | (go_at_call 55; refine C55.out.mono ?_; rintro e w' ⟨rfl, rfl⟩) | (go_at_call 67; refine C67.out.mono ?_; rintro e w' ⟨rfl, rfl⟩))
      refine C68.out.mono ?_
      rintro e w1 ⟨rfl, hb1⟩
      have H1 := Lib.hid (HW.out.below hb1)
      have HB1 := Lib.hid hb1
      clear hb1 hlk
      go_wp2_with fail
      refine (C41.out w1 H1.out).mono ?_
      rintro e w2 ⟨rfl, hb2⟩
      have H2 := Lib.hid (H1.out.below hb2)
      have HB2 := Lib.hid (bThen HB1.out hb2)
      have q3' := H2.out.blk.cell 3 rfl
      clear hb2
      go_wp2_with (first | (at_delete; refine wpList_drop _ rfl _ _ 67 rfl 3 Try.underlying67 m1 _ _ rfl H2.out.walks x rfl HX.out ?_; intro w3 hm3 ht3))
      go_ret3
      exact ⟨(by rw [HE.out]; rfl), by rw [HS.out]; exact ⟨HO.out.over x, m0, m1, kv, H2.out.over (by rw [HR.out]; rfl) hm3 ht3⟩, (Turn.of_below HB2.out).trans (mturn ht3 H2.out.f1)⟩
    | some k =>
      have HE : Hid (S.nextE x = tup3 k (S.vl k) 0) := by show _ = _; unfold Tb.nextE; rw [HR.out]; simp only [hf]
      have HS : Hid (S.next x = { S with wk := upd S.wk x (some (S.pl k)) }) := by show _ = _; unfold Tb.next; rw [HR.out]; simp only [hf]
      have HKM : Hid (WF k) := HO.out.wf k (List.mem_of_find?_eq_some hf)
      have hA : S.atE (S.behind p) = .returned (.tuple #[.int .i64 k, .int .i64 (S.vl k), .int .i64 0]) := by
        have h1 := HA.out; rw [hf] at h1; exact atE_some h1
      rw [hA] at C41
      clear hf hA
      generalize S.behind p = n at *
      obtain ⟨vl, hvl⟩ : ∃ v, v = S.vl k := ⟨_, rfl⟩
      obtain ⟨pl, hpl⟩ : ∃ v, v = S.pl k := ⟨_, rfl⟩
      rw [← hvl] at C41
      have HVL := Lib.hid hvl
      have HPL := Lib.hid hpl
      clear hvl hpl
      go_enter Try.func25, Try.ntmps25
      go_wp2_with (first | (go_at_call 55; refine C55.out.mono ?_; rintro e w' ⟨rfl, rfl⟩) | (go_at_call 67; refine C67.out.mono ?_; rintro e w' ⟨rfl, rfl⟩))
      refine C68.out.mono ?_
      rintro e w1 ⟨rfl, hb1⟩
      have H1 := Lib.hid (HW.out.below hb1)
      have HB1 := Lib.hid hb1
      clear hb1 hlk
      go_wp2_with fail
      refine (C41.out w1 H1.out).mono ?_
      rintro e w2 ⟨rfl, hb2⟩
      have H2 := Lib.hid (H1.out.below hb2)
      have HB2 := Lib.hid (bThen HB1.out hb2)
      have q3' := H2.out.blk.cell 3 rfl
      have q0' := H2.out.blk.cell 0 rfl
      have hl2 := H2.out.rows.drew.look Try.underlying65 (0, 0) (zero85 w2.drew) HKM.out
      change _ = Result.ok (Value.agg #[.int .i64 (S.vl k), .int .i64 (S.pl k : Int)]) w2.drew at hl2
      have f1 := field1 (S.vl k) (S.pl k) w2.drew
      rw [← HVL.out, ← HPL.out] at hl2 f1
      obtain ⟨w3, hr3, hm3, ht3⟩ := H2.out.walks.drew.put Try.underlying67 (by have := HO.out.wlen; unfold maxLen; omega) HX.out pl
      change _ = Result.ok () w3 at hr3
      have HM3 := Lib.hid hm3
      have HT3 := Lib.hid ht3
      have hr4 : (Instr.mapUpdate 67 (Value.map (some m1)) (Value.int .i64 x) (Value.int .i64 (pl : Int))).run Try.prog w2.drew = .ok () w3 := hr3
      clear hb2 hm3 ht3 hr3
      go_wp2_with fail
      go_region
      all_goals go_wp2
      all_goals go_ret3
      all_goals
        refine ⟨(by rw [HE.out, ← HVL.out]; rfl), ?_, ((Turn.of_below HB2.out).trans (Turn.of_below (Below.refl _ _).drew)).trans (mturn HT3.out H2.out.f1)⟩
        rw [HS.out, ← HPL.out]
        have T3 : Turn (fun i => i = m1) w2.drew w3 := mturn HT3.out rfl
        have h3 := HM3.out
        rw [HR.out] at h3
        have H2d := H2.out.below ((Below.refl _ _).drew)
        exact ⟨HO.out.step (by rw [HR.out]; rfl) _, m0, m1, kv, mblk HT3.out H2d.blk H2d.ne1, H2d.rows.turn T3 H2d.ne, h3, ownsRow_turn H2d.keys T3 (fun g hg e => H2d.kne.2.2 (by rw [hg, e])), H2d.fb, H2d.f0, H2d.f1, H2d.fk, H2d.ne⟩
end
end Go.Proofs.Ytagejkolgicecaa
