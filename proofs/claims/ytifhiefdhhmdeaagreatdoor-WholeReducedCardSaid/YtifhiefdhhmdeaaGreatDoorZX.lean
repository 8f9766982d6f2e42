/- The walk of WholeReduced. -/
import Derived.Test.YtifhiefdhhmdeaaGreatDoorZV
import Derived.Test.YtifhiefdhhmdeaaGreatDoorZO
namespace Go.Proofs.YtifhiefdhhmdeaaGreatDoor
open Go Go.RowKit

theorem rq_use {s t : List UInt8} {x y : Int} {m n : Nat} {none : Value} {R : Int → Nat → Int → Nat → Value} {w w' : World} {e : Ending} (hs : IsRat s x m) (ht : IsRat t y n) (h : RkQ s t none R w e w') : e = .returned (R x m y n) ∧ Below w.heap.size w w' := by
  rcases h with ⟨hv, -, -⟩ | ⟨x', m', y', n', hx, hy, rfl, hb⟩
  · rcases hv with hv | hv
    · exact absurd hs (hv _ _)
    · exact absurd ht (hv _ _)
  · obtain ⟨rfl, rfl⟩ := isRat_unique hx hs
    obtain ⟨rfl, rfl⟩ := isRat_unique hy ht
    exact ⟨rfl, hb⟩
theorem ratS_size {t : Int} {m : Nat} (h : ratOk t m) : (ratS t m).size ≤ 805 := by
  unfold ratS
  rw [if_pos h, bytes_size]
  have h1 := numS_len h.1
  rw [bytes_size] at h1
  unfold ratL
  split
  · omega
  · rename_i hm
    have h2 := numS_len (h.2.resolve_left hm)
    rw [bytes_size] at h2
    rw [List.length_append, List.length_cons]
    omega
theorem ratS_rat {t : Int} {m : Nat} (h : ratOk t m) (hm : 0 < m) (hg : Nat.gcd t.natAbs m = 1) : IsRat (ratS t m).data.toList t m := by
  have e : (ratS t m).data.toList = ratL t m := by unfold ratS; rw [if_pos h]
  rw [e]
  exact isRat_ratL h hm hg
theorem ratS_num {z : Int} (h : fits z) : ratS z 1 = numS z ∧ ratE z 1 = 0 := by
  have hok : ratOk z 1 := ⟨h, .inl rfl⟩
  unfold ratS ratE ratL
  rw [if_pos hok, if_pos hok, if_pos rfl]
  exact ⟨rfl, rfl⟩
/-- a text and no error -/
def StrR (s : ByteArray) (w : World) (e : Ending) (w' : World) : Prop := e = .returned (.tuple #[.string s, .int .i64 0]) ∧ Below w.heap.size w w'
theorem reduced_facts (a b : Int) (ha : Dl a 60) (hb : Dl b 60) (h0 : b ≠ 0) (m0 : Int) (w : World) (hm0 : w.cell? ⟨0, 0, none⟩ = some (.int .i64 m0)) :
    ∃ p : ByteArray, (∀ W, Calls Tryz.prog 30 #[.string (numS a), .string (numS b)] W (StrR p W)) ∧
      (∀ W, Below w.heap.size w W → Calls Tryz.prog 40 #[.string p, .string (numS b)] W (StrR (numS a) W)) ∧
      (∀ W, Below w.heap.size w W → Calls Tryz.prog 41 #[.string (numS a), .string (numS a)] W fun e w' => e = .returned (.tuple #[.int .i64 0, .int .i64 0]) ∧ Below W.heap.size W w') ∧
      (∀ W, Below w.heap.size w W → Calls Tryz.prog 42 #[.string p, .string ⟨#[48]⟩] W (StrR p W)) := by
  have fa := ha.fits (show 60 ≤ 400 by omega)
  have fb := hb.fits (show 60 ≤ 400 by omega)
  obtain ⟨h1, h2, h3, h4, h5⟩ := red_facts a b h0
  have eT : ratioS a b = ratS (redT a b) (redM a b) := if_neg h0
  have eE : ratioE a b = ratE (redT a b) (redM a b) := if_neg h0
  generalize redT a b = T at *
  generalize redM a b = M at *
  have fT : fits T := (Dl_abs h4 ha).fits (show 60 ≤ 400 by omega)
  have fM : fits (M : Int) := (Dl_abs (x := (M : Int)) (y := b) (by rw [Int.natAbs_natCast]; exact h5) hb).fits (show 60 ≤ 400 by omega)
  have hok : ratOk T M := ⟨fT, .inr fM⟩
  have hE0 : ratE T M = 0 := by unfold ratE; rw [if_pos hok]
  have hp := ratS_rat hok h1 h2
  have hps := ratS_size hok
  have sa : (numS a).size < 4294967281 := Nat.lt_of_le_of_lt (numS_len fa) (by omega)
  have sb : (numS b).size < 4294967281 := Nat.lt_of_le_of_lt (numS_len fb) (by omega)
  have hMI : (0 : Int) < (M : Int) := by omega
  refine ⟨ratS T M, fun W => ?_, fun W hW => ?_, fun W hW => ?_, fun W hW => ?_⟩
  · refine (t30 _ _ W).mono fun e w' h => ?_
    have h6 := rk_num fa fb h
    rw [eT, eE, hE0] at h6
    exact h6
  · refine (t40 (ratS T M) (numS b) m0 W (by omega) sb (below_cell hW hm0)).mono fun e w' h => ?_
    have h6 := rq_use hp (isRat_num fb) h
    obtain ⟨e1, e2⟩ := red_unique (T * b) ((M : Int) * ((1 : Nat) : Int)) a 1 (by simpa using Int.ne_of_gt hMI) (by rw [h3]; simp) (by omega) (by simp)
    rw [e1, e2, (ratS_num fa).1, (ratS_num fa).2] at h6
    exact h6
  · refine (t41 (numS a) (numS a) m0 W sa sa (below_cell hW hm0)).mono fun e w' h => ?_
    have h6 := rq_use (isRat_num fa) (isRat_num fa) h
    have e1 : cmpZ (a * ((1 : Nat) : Int)) (a * ((1 : Nat) : Int)) = 0 := by unfold cmpZ; rw [if_neg (by omega), if_neg (by omega)]
    rw [e1] at h6
    exact h6
  · refine (t42 (ratS T M) (numS 0) m0 W (by omega) (Nat.lt_of_le_of_lt (numS_len (show fits 0 by decide)) (by omega)) (below_cell hW hm0)).mono fun e w' h => ?_
    have h6 := rq_use hp (isRat_num (show fits 0 by decide)) h
    obtain ⟨e1, e2⟩ := red_unique (T * ((1 : Nat) : Int) + 0 * (M : Int)) ((M : Int) * ((1 : Nat) : Int)) T M (by simpa using Int.ne_of_gt hMI) (by simp) h1 h2
    rw [e1, e2, hE0] at h6
    exact h6
set_option maxRecDepth 100000 in
set_option maxHeartbeats 8000000 in
theorem t12 (va vb : Value) (xs ys : List Int) (m0 : Int) (w : World) (hva : IntsRead w va xs) (hvb : IntsRead w vb ys) (hx : ∀ x ∈ xs, InInt x) (hy : ∀ x ∈ ys, InInt x) (hT : TabOk w) (hl : xs.length ≤ 9223372036854775807) (hl' : ys.length ≤ 9223372036854775807) (hm : w.cell? ⟨0, 0, none⟩ = some (.int .i64 m0)) :
    Calls Tryz.prog 12 #[va, vb] w fun e w' => e = .returned (.bool true) ∧ Below w.heap.size w w' := by
  have C1 := Lib.hid (a16 va xs 60 w hva hx hT hl (by omega) (by omega))
  have C2 := Lib.hid (fun (W : World) (hb : Below w.heap.size w W) => a16 vb ys 60 W (hvb.below hb) hy (hT.on hb) hl' (by omega) (by omega))
  have HM := Lib.hid hm
  obtain ⟨ao, ca, rfl, -⟩ := hva
  obtain ⟨bo, cb, rfl, -⟩ := hvb
  clear hx hy hT hm
  go_enter Tryz.func12, Tryz.ntmps12
  go_wp2_with fail
  refine C1.out.mono ?_
  rintro e w1 ⟨a, ha, rfl, hb1⟩
  go_wp2_with fail
  refine (C2.out w1 hb1).mono ?_
  rintro e w2 ⟨b, hb, rfl, hb2⟩
  have hB2 := bThen hb1 hb2
  have HA := Lib.hid ha
  have HB := Lib.hid hb
  have HS := Lib.hid (fun W (h : Below w.heap.size w W) => t14 m0 W (below_cell h HM.out))
  clear C1 C2 hb1 hb2 ha hb
  by_cases h0 : b = 0
  · subst h0
    have C3 : Hid (Calls Tryz.prog 30 #[.string (numS a), .string (numS 0)] w2 fun e w' => e = .returned (.tuple #[.string ⟨#[]⟩, .int .i64 11]) ∧ Below w2.heap.size w2 w') := (t30 _ _ w2).mono fun e w' h => rk_num (HA.out.fits (show 60 ≤ 400 by omega)) (show fits 0 by decide) h
    clear HA HB
    go_wp2_with fail
    refine C3.out.mono ?_
    rintro e w3 ⟨rfl, hb3⟩
    have hB3 := bThen hB2 hb3
    rw [numS_zero]
    go_wp2_with fail
    refine (HS.out _ hB3).mono ?_
    rintro e w4 ⟨rfl, hb4⟩
    go_wp2_with fail
    go_ret
    exact ⟨rfl, bThen hB3 hb4⟩
  · have hne0 : numS b ≠ (⟨#[48]⟩ : ByteArray) := numS_ne_zero h0
    have hne1 : ((numS b).toList == [48]) = false := str_ne hne0
    obtain ⟨p, c30, c40, c41, c42⟩ := reduced_facts a b HA.out HB.out h0 m0 w HM.out
    have C3 := Lib.hid c30
    have C4 := Lib.hid c40
    have C5 := Lib.hid c41
    have C6 := Lib.hid c42
    clear c30 c40 c41 c42 HA HB h0
    go_wp2_with fail
    refine (C3.out w2).mono ?_
    rintro e w3 ⟨rfl, hb3⟩
    have hB3 := bThen hB2 hb3
    clear C3 hB2 hb3
    go_wp2_with fail
    refine (C4.out w3 hB3).mono ?_
    rintro e w4 ⟨rfl, hb4⟩
    have hB4 := bThen hB3 hb4
    clear C4 hB3 hb4
    go_wp2_with fail
    refine (C5.out w4 hB4).mono ?_
    rintro e w5 ⟨rfl, hb5⟩
    have hB5 := bThen hB4 hb5
    clear C5 hB4 hb5
    go_wp2_with fail
    refine (C6.out w5 hB5).mono ?_
    rintro e w6 ⟨rfl, hb6⟩
    have hB6 := bThen hB5 hb6
    clear C6 hB5 hb6
    go_wp2_with fail
    refine (HS.out _ hB6).mono ?_
    rintro e w7 ⟨rfl, hb7⟩
    go_wp2_with fail
    go_ret
    exact ⟨rfl, bThen hB6 hb7⟩
end Go.Proofs.YtifhiefdhhmdeaaGreatDoor
