/- Delete. -/
import Derived.Test.YtagejkolgicecaaF
namespace Go.Proofs.Ytagejkolgicecaa
open Go Go.RowKit Go.Maps
def Tb.delE (S : Tb) (k : Int) : Ending :=
  if S.fz then .returned (.tuple #[.int .i64 0, .int .i64 13]) else if S.has k then .returned (.tuple #[.int .i64 (S.vl k), .int .i64 0]) else .returned (.tuple #[.int .i64 0, .int .i64 3])
def Tb.del (S : Tb) (k : Int) : Tb := if S.fz then S else if S.has k then { S with ks := S.ks.filter (fun x => !decide (x = k)), rw := upd S.rw k none } else S
theorem erase_filter {k : Int} : ∀ (l : List Int) (j : Nat), l.Nodup → l[j]? = some k → l.eraseIdx j = l.filter (fun x => !decide (x = k))
  | [], j, _, h => by simp at h
  | x :: l, 0, hn, h => by
    simp at h; subst h
    have hx := (List.nodup_cons.1 hn).1
    rw [List.eraseIdx_zero, List.tail_cons, List.filter_cons]
    simp
    exact (List.filter_eq_self.2 (fun y hy => by simp; rintro rfl; exact hx hy)).symm
  | x :: l, j + 1, hn, h => by
    have hk : l[j]? = some k := by simpa using h
    have hx := (List.nodup_cons.1 hn).1
    have hne : x ≠ k := fun e => hx (e ▸ List.mem_of_getElem? hk)
    rw [List.eraseIdx_cons_succ, erase_filter l j (List.nodup_cons.1 hn).2 hk, List.filter_cons]
    simp [hne]
theorem out_erase {S : Tb} (h : Ok S) {j : Nat} {k : Int} (hj : S.ks[j]? = some k) : S.out j k = { S with ks := S.ks.filter (fun x => !decide (x = k)), rw := upd S.rw k none } := by
  unfold Tb.out
  rw [erase_filter S.ks j h.nd hj]
section
variable {F : Nat → Prop} {b : Nat} {S : Tb}
set_option maxRecDepth 100000 in
theorem t22 (w : World) (h : Tab F w b S) {k : Int} (hk : WF k) : Calls Try.prog 22 #[.pointer (some ⟨b, 0, none⟩), .int .i64 k] w fun e w' => e = S.delE k ∧ Tab F w' b (S.del k) ∧ Turn F w w' := by
  obtain ⟨hO, m0, m1, kv, hW⟩ := h
  have q0 := hW.blk.cell 0 rfl
  have q6 := hW.blk.cell 6 rfl
  have C55 := Lib.hid (t55 b m0 w q0)
  have C42 := Lib.hid (t42 w hO hW hk)
  have C66 := Lib.hid (fun i (hi : S.ks[i]? = some k) => t66 w hO hW i k hi)
  have HO := Lib.hid hO
  have HW := Lib.hid hW
  clear hO hW hk
  cases hfz : S.fz with
  | true =>
    have HE : Hid (S.delE k = .returned (.tuple #[.int .i64 0, .int .i64 13])) := by show _ = _; unfold Tb.delE; rw [hfz]; rfl
    have HS : Hid (S.del k = S) := by show _ = _; unfold Tb.del; rw [hfz]; rfl
    rw [hfz] at q6
    clear hfz
    go_enter Try.func22, Try.ntmps22
    go_wp2_with (go_at_call 55; refine C55.out.mono ?_; rintro e w' ⟨rfl, rfl⟩)
    go_ret2
    exact ⟨HE.out.symm, (by rw [HS.out]; exact ⟨HO.out, m0, m1, kv, HW.out⟩), Turn.refl _ _⟩
  | false =>
    rw [hfz] at q6
    have HF := Lib.hid hfz
    clear hfz
    go_enter Try.func22, Try.ntmps22
    go_wp2_with (go_at_call 55; refine C55.out.mono ?_; rintro e w' ⟨rfl, rfl⟩)
    refine C42.out.mono ?_
    rintro e w1 ⟨⟨h1, rfl⟩ | ⟨j, h1, h2, rfl⟩, rfl⟩
    · have HE : Hid (S.delE k = .returned (.tuple #[.int .i64 0, .int .i64 3])) := by show _ = _; unfold Tb.delE; rw [HF.out, h1]; rfl
      have HS : Hid (S.del k = S) := by show _ = _; unfold Tb.del; rw [HF.out, h1]; rfl
      clear h1
      go_wp2
      go_ret2
      exact ⟨HE.out.symm, (by rw [HS.out]; exact ⟨HO.out, m0, m1, kv, HW.out⟩), Turn.refl _ _⟩
    · have HE : Hid (S.delE k = .returned (.tuple #[.int .i64 (S.vl k), .int .i64 0])) := by show _ = _; unfold Tb.delE; rw [HF.out, h1]; rfl
      have HS : Hid (S.del k = S.out j k) := by show _ = _; unfold Tb.del; rw [out_erase HO.out h2, if_neg (by rw [HF.out]; simp), if_pos h1]
      have C := Lib.hid (C66.out j h2)
      have HJ := Lib.hid h2
      clear h1 h2 C66
      go_wp2_with (go_at_call 66; refine C.out.mono ?_; rintro e w2 ⟨rfl, ⟨kv', h3⟩, h4⟩; have H3 := Lib.hid h3; have H4 := Lib.hid h4; clear h3 h4)
      go_ret2
      exact ⟨HE.out.symm, (by rw [HS.out]; exact ⟨HO.out.out HJ.out, m0, m1, kv', H3.out⟩), H4.out⟩
end
end Go.Proofs.Ytagejkolgicecaa
