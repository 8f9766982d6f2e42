/- The walk of WholeFloor. -/
import Derived.Lib.SlicesS
import Derived.Test.YtifhiefdhhmdeaaGreatDoorZN
namespace Go.Proofs.YtifhiefdhhmdeaaGreatDoor
open Go Go.RowKit

/-- a string that is another one, as the walk asks -/
theorem str_ne {s : ByteArray} {l : List UInt8} (h : s ≠ ⟨l.toArray⟩) : (s.toList == l) = false := by
  have h1 := (Lib.bytes_beq_false_iff s ⟨l.toArray⟩).2 h
  rw [ByteArray.toList_eq ⟨l.toArray⟩] at h1
  simpa using h1
theorem cmpZ_gt {x y : Int} (h : y < x) : cmpZ x y = 1 := by unfold cmpZ; rw [if_neg (by omega), if_pos h]
theorem cmpZ_lt {x y : Int} (h : x < y) : cmpZ x y = -1 := by unfold cmpZ; rw [if_pos h]
theorem cmpZ_le {x y : Int} (h : x ≤ y) : cmpZ x y ≤ 0 := by unfold cmpZ; split <;> (try split) <;> omega
theorem cmpZ_ge {x y : Int} (h : y ≤ x) : 0 ≤ cmpZ x y := by unfold cmpZ; split <;> (try split) <;> omega
set_option maxRecDepth 100000 in
set_option maxHeartbeats 4000000 in
theorem t10 (va vb : Value) (xs ys : List Int) (m0 : Int) (w : World) (hva : IntsRead w va xs) (hvb : IntsRead w vb ys) (hx : ∀ x ∈ xs, InInt x) (hy : ∀ x ∈ ys, InInt x) (hT : TabOk w) (hl : xs.length ≤ 9223372036854775807) (hl' : ys.length ≤ 9223372036854775807) (hm : w.cell? ⟨0, 0, none⟩ = some (.int .i64 m0)) :
    Calls Tryz.prog 10 #[va, vb] w fun e w' => e = .returned (.bool true) ∧ Below w.heap.size w w' := by
  have C1 := Lib.hid (a16 va xs 150 w hva hx hT hl (by omega) (by omega))
  have C2 := Lib.hid (fun (W : World) (hb : Below w.heap.size w W) => a16 vb ys 80 W (hvb.below hb) hy (hT.on hb) hl' (by omega) (by omega))
  have HM := Lib.hid hm
  obtain ⟨ao, ca, rfl, -⟩ := hva
  obtain ⟨bo, cb, rfl, -⟩ := hvb
  clear hx hy hT hm
  go_enter Tryz.func10, Tryz.ntmps10
  go_wp2_with fail
  refine C1.out.mono ?_
  rintro e w1 ⟨a, ha, rfl, hb1⟩
  go_wp2_with fail
  refine (C2.out w1 hb1).mono ?_
  rintro e w2 ⟨b, hb, rfl, hb2⟩
  have hB2 := bThen hb1 hb2
  have fa := ha.fits (by omega)
  have fb := hb.fits (by omega)
  have HA := Lib.hid ha
  have HB := Lib.hid hb
  clear C1 C2 hb1 hb2 ha hb
  by_cases h0 : b = 0
  · subst h0
    have C3 := Lib.hid (a36z (x := a) w2 fa)
    have HS := Lib.hid (fun W (h : Below w.heap.size w W) => t14 m0 W (below_cell h HM.out))
    clear fa fb HA HB
    go_wp2_with fail
    refine C3.out.mono ?_
    rintro e w3 ⟨rfl, hb3⟩
    have hB3 := bThen hB2 hb3
    rw [numS_zero]
    go_wp2_with fail
    refine (HS.out _ hB3).mono ?_
    rintro e w4 ⟨rfl, hb4⟩
    go_wp2_with fail
    go_ret
    exact ⟨rfl, bThen hB3 hb4⟩
  · have hne0 : numS b ≠ (⟨#[48]⟩ : ByteArray) := numS_ne_zero h0
    have hne1 : ((numS b).toList == [48]) = false := str_ne hne0
    have hpos := numS_pos b
    obtain ⟨he, hp1, hn1⟩ := fqr a b h0
    have dr : Dl (fr a b) 80 := Dl_abs (by rcases Int.lt_or_gt_of_ne h0 with h | h; have := hn1 h; omega; have := hp1 h; omega) HB.out
    have dm : Dl (fq a b * b) 151 := Dl_sum (HA.out) (dr.le (by omega)) (by omega)
    have dq : Dl (fq a b) 151 := Dl_abs (by rw [Int.natAbs_mul]; exact Nat.le_mul_of_pos_right _ (by omega)) dm
    have C3 := Lib.hid (a36 (x := a) w2 fa fb h0)
    have C4 := Lib.hid (fun W => a35 (x := fq a b) (y := b) W (dq.fits (by omega)) fb (dm.fits (by omega)))
    have c5 : ∀ W, Calls Tryz.prog 33 #[.string (numS (fq a b * b)), .string (numS (fr a b))] W (NumR a W) := fun W => by
      have h := a33 (x := fq a b * b) (y := fr a b) W (dm.fits (by omega)) (dr.fits (by omega)) (by rw [he]; exact fa)
      rw [he] at h
      exact h
    have C5 := Lib.hid c5
    have C6 := Lib.hid (fun W => a37 (x := fr a b) (y := b) W (dr.fits (by omega)) fb)
    have C7 := Lib.hid (fun W => a37 (x := fr a b) (y := 0) W (dr.fits (by omega)) (by decide))
    have HS := Lib.hid (fun W (h : Below w.heap.size w W) => t14 m0 W (below_cell h HM.out))
    have HF := Lib.hid (numS_first b)
    have HP1 := Lib.hid hp1
    have HN1 := Lib.hid hn1
    clear fa fb HA HB he dr dm dq c5 hp1 hn1
    generalize fq a b = q at *
    generalize fr a b = r at *
    go_wp2_with fail
    refine C3.out.mono ?_
    rintro e w3 ⟨rfl, hb3⟩
    have hB3 := bThen hB2 hb3
    clear C3 hB2 hb3
    go_wp2_with fail
    refine (C4.out w3).mono ?_
    rintro e w4 ⟨rfl, hb4⟩
    have hB4 := bThen hB3 hb4
    clear C4 hB3 hb4
    go_wp2_with fail
    refine (C5.out w4).mono ?_
    rintro e w5 ⟨rfl, hb5⟩
    have hB5 := bThen hB4 hb5
    clear C5 hB4 hb5
    go_wp2_with fail
    refine (C6.out w5).mono ?_
    rintro e w6 ⟨rfl, hb6⟩
    have hB6 := bThen hB5 hb6
    clear C6 hB5 hb6
    go_wp2_with fail
    refine (C7.out w6).mono ?_
    rintro e w7 ⟨rfl, hb7⟩
    have HB7 := Lib.hid (bThen hB6 hb7)
    clear C7 hB6 hb7
    by_cases hneg : b < 0
    · have hmi : ((numS b)[0].toNat : Int) = 45 := by rw [HF.out.2 hneg]; rfl
      have hc1 : cmpZ r b = 1 := cmpZ_gt (HN1.out hneg).2
      have hc2 : cmpZ r 0 ≤ 0 := cmpZ_le (HN1.out hneg).1
      rw [hc1]
      generalize cmpZ r 0 = z at *
      clear HF
      go_wp2_with fail
      refine (HS.out _ HB7.out).mono ?_
      rintro e w8 ⟨rfl, hb8⟩
      go_wp2_with fail
      go_ret
      exact ⟨rfl, bThen HB7.out hb8⟩
    · have hmi : ¬ ((numS b)[0].toNat : Int) = 45 := fun h => hneg (HF.out.1 (UInt8.toNat_inj.1 (by simp; omega)))
      have hc1 : cmpZ r b = -1 := cmpZ_lt (HP1.out (by omega)).2
      have hc2 : 0 ≤ cmpZ r 0 := cmpZ_ge (HP1.out (by omega)).1
      rw [hc1]
      generalize cmpZ r 0 = z at *
      clear HF
      go_wp2_with fail
      refine (HS.out _ HB7.out).mono ?_
      rintro e w8 ⟨rfl, hb8⟩
      go_wp2_with fail
      go_ret
      exact ⟨rfl, bThen HB7.out hb8⟩
end Go.Proofs.YtifhiefdhhmdeaaGreatDoor
