/- The walk of WholeRoot. -/
import Derived.Test.YtifhiefdhhmdeaaGreatDoorZO
namespace Go.Proofs.YtifhiefdhhmdeaaGreatDoor
open Go Go.RowKit

theorem fr_dvd {x y : Int} (h : y.natAbs ∣ x.natAbs) : fr x y = 0 := by
  have h0 : x.natAbs % y.natAbs = 0 := Nat.mod_eq_zero_of_dvd h
  unfold fr
  rw [h0]
  simp
theorem numS_tail {z : Int} (h : z < 0) : (numS z).extract 1 (numS z).size = numS (-z) := by
  have e : numS z = ⟨(45 :: txt 10 z.natAbs).toArray⟩ := by unfold numS txtZ; rw [if_pos h]
  have e2 : numS (-z) = ⟨(txt 10 z.natAbs).toArray⟩ := by unfold numS txtZ; rw [if_neg (by omega), Int.natAbs_neg]
  rw [e2, e]
  apply ByteArray.ext
  simp [ByteArray.size]
def QuoR (p : Int) (w : World) (e : Ending) (w' : World) : Prop := ∃ q : ByteArray, e = .returned (.tuple #[.string q, .string (numS p), .int .i64 0]) ∧ Below w.heap.size w w'
set_option maxRecDepth 100000 in
set_option maxHeartbeats 4000000 in
/-- from the root on, of a number that is not below 0 -/
theorem root_facts (x b : Int) (h0 : 0 ≤ x) (hx : Dl x 150) (hb : Dl b 100) :
    ∃ r s t d : Int, (∀ W, Calls Tryz.prog 38 #[.string (numS x)] W (NumR r W)) ∧ (∀ W, Calls Tryz.prog 35 #[.string (numS r), .string (numS r)] W (NumR s W)) ∧
      (∀ W, Calls Tryz.prog 33 #[.string (numS r), .string ⟨#[49]⟩] W (NumR (r + 1) W)) ∧ (∀ W, Calls Tryz.prog 35 #[.string (numS (r + 1)), .string (numS (r + 1))] W (NumR t W)) ∧
      (∀ W, Calls Tryz.prog 37 #[.string (numS s), .string (numS x)] W (CmpR s x W)) ∧ (∀ W, Calls Tryz.prog 37 #[.string (numS t), .string (numS x)] W (CmpR t x W)) ∧ s ≤ x ∧ x < t ∧
      (∀ W, Calls Tryz.prog 39 #[.string (numS x), .string (numS b)] W (NumR d W)) ∧ 0 ≤ d ∧ (d = 0 → x = 0 ∧ b = 0) ∧
      (d ≠ 0 → (∀ W, Calls Tryz.prog 36 #[.string (numS x), .string (numS d)] W (QuoR 0 W)) ∧ (∀ W, Calls Tryz.prog 36 #[.string (numS b), .string (numS d)] W (QuoR 0 W))) := by
  have hr := isq_spec x.natAbs
  obtain ⟨r, hrr⟩ : ∃ r : Nat, r = isq x.natAbs := ⟨_, rfl⟩
  rw [← hrr] at hr
  have hr1 : (r : Int) * r ≤ x := by have h1 := hr.1; have : ((r * r : Nat) : Int) ≤ x.natAbs := Int.ofNat_le.2 h1; rw [Int.natCast_mul] at this; omega
  have hr2 : x < ((r : Int) + 1) * ((r : Int) + 1) := by have h1 := hr.2; have : (x.natAbs : Int) < (((r + 1) * (r + 1) : Nat) : Int) := Int.ofNat_lt.2 h1; push_cast at this; omega
  have hrl : (r : Int) ≤ x := by
    rcases Nat.eq_zero_or_pos r with h | h
    · subst h; omega
    · have h9 : r * 1 ≤ r * r := Nat.mul_le_mul_left _ h
      have : ((r : Nat) : Int) ≤ ((r * r : Nat) : Int) := by omega
      rw [Int.natCast_mul] at this; omega
  have dr : Dl r 150 := Dl_abs (by omega) hx
  have ds : Dl ((r : Int) * r) 150 := Dl_abs (by have : (0 : Int) ≤ (r : Int) * r := Int.mul_nonneg (by omega) (by omega); omega) hx
  have dm : Dl ((r : Int) + 1) 151 := Dl_add dr (show Dl 1 150 by show (dgs 10 1).length ≤ 150; decide)
  have dt := Dl_mul dm dm
  have hg : ∃ d : Nat, d = Nat.gcd x.natAbs b.natAbs := ⟨_, rfl⟩
  obtain ⟨d, hd⟩ := hg
  have fx : fits x := hx.fits (by omega)
  have fb : fits b := hb.fits (by omega)
  refine ⟨r, r * r, (r + 1) * (r + 1), d, fun W => ?_, fun W => a35 W (dr.fits (by omega)) (dr.fits (by omega)) (ds.fits (by omega)), fun W => ?_, fun W => a35 W (dm.fits (by omega)) (dm.fits (by omega)) (dt.fits (by omega)), fun W => a37 W (ds.fits (by omega)) fx, fun W => a37 W (dt.fits (by omega)) fx, hr1, hr2, fun W => ?_, by omega, fun h => ?_, fun h => ?_⟩
  · have h := a38 W fx h0
    rw [← hrr] at h
    exact h
  · exact numS_one ▸ a33 (x := r) (y := 1) W (dr.fits (by omega)) (by decide) (dm.fits (by omega))
  · have h := a39 W fx fb
    rw [← hd] at h
    exact h
  · have h1 : Nat.gcd x.natAbs b.natAbs = 0 := by omega
    have := Nat.gcd_eq_zero_iff.1 h1
    omega
  · have fd : fits (d : Int) := by
      show (dgs 10 (Int.natAbs _)).length ≤ 400
      rw [Int.natAbs_natCast, hd]
      rcases Nat.eq_zero_or_pos x.natAbs with h1 | h1
      · rw [h1, Nat.gcd_zero_left]; exact fb
      · exact Nat.le_trans (dgs_length_mono (by omega) (Nat.gcd_le_left _ h1)) fx
    have e1 : fr x d = 0 := fr_dvd (by rw [Int.natAbs_natCast, hd]; exact Nat.gcd_dvd_left _ _)
    have e2 : fr b d = 0 := fr_dvd (by rw [Int.natAbs_natCast, hd]; exact Nat.gcd_dvd_right _ _)
    refine ⟨fun W => (a36 W fx fd h).mono fun e w' hh => ?_, fun W => (a36 W fb fd h).mono fun e w' hh => ?_⟩
    · rw [e1] at hh; exact ⟨_, hh⟩
    · rw [e2] at hh; exact ⟨_, hh⟩
set_option maxRecDepth 100000 in
set_option maxHeartbeats 8000000 in
theorem t11 (va vb : Value) (xs ys : List Int) (m0 : Int) (w : World) (hva : IntsRead w va xs) (hvb : IntsRead w vb ys) (hx : ∀ x ∈ xs, InInt x) (hy : ∀ x ∈ ys, InInt x) (hT : TabOk w) (hl : xs.length ≤ 9223372036854775807) (hl' : ys.length ≤ 9223372036854775807) (hm : w.cell? ⟨0, 0, none⟩ = some (.int .i64 m0)) :
    Calls Tryz.prog 11 #[va, vb] w fun e w' => e = .returned (.bool true) ∧ Below w.heap.size w w' := by
  have C1 := Lib.hid (a16 va xs 150 w hva hx hT hl (by omega) (by omega))
  have C2 := Lib.hid (fun (W : World) (hb : Below w.heap.size w W) => a16 vb ys 100 W (hvb.below hb) hy (hT.on hb) hl' (by omega) (by omega))
  have HS := Lib.hid (fun W (h : Below w.heap.size w W) => t14 m0 W (below_cell h hm))
  obtain ⟨ao, ca, rfl, -⟩ := hva
  obtain ⟨bo, cb, rfl, -⟩ := hvb
  clear hx hy hT hm
  go_enter Tryz.func11, Tryz.ntmps11
  go_wp2_with fail
  refine C1.out.mono ?_
  rintro e w1 ⟨a, ha, rfl, hb1⟩
  go_wp2_with fail
  refine (C2.out w1 hb1).mono ?_
  rintro e w2 ⟨b, hb, rfl, hb2⟩
  have HB2 := Lib.hid (bThen hb1 hb2)
  clear C1 C2 hb1 hb2
  have hpos := numS_pos a
  by_cases hneg : a < 0
  · have hmi : ((numS a)[0].toNat : Int) = 45 := by rw [(numS_first a).2 hneg]; rfl
    have ht := numS_tail hneg
    have h1i : (1 : Int) ≤ (numS a).size := by omega
    have HA : Hid (Dl (-a) 150) := Dl_abs (by omega) ha
    have hxx : 0 ≤ -a := by omega
    clear ha
    go_wp2_with fail
    clear ht h1i
    obtain ⟨r, s, t, d, K1, K2, K3, K4, K5, K6, hs, ht, K7, hd0, hdz, hdn⟩ := root_facts (-a) b hxx HA.out hb
    have J1 := Lib.hid K1
    have J2 := Lib.hid K2
    have J3 := Lib.hid K3
    have J4 := Lib.hid K4
    have J5 := Lib.hid K5
    have J6 := Lib.hid K6
    have J7 := Lib.hid K7
    have HDZ := Lib.hid hdz
    have HDN := Lib.hid hdn
    have hc1 : cmpZ s (-a) ≤ 0 := cmpZ_le hs
    have hc2 : cmpZ t (-a) = 1 := cmpZ_gt ht
    have hpos2 := numS_pos d
    have hmi2 : ¬ ((numS d)[0].toNat : Int) = 45 := fun h => by have := (numS_first d).1 (UInt8.toNat_inj.1 (by simp; omega)); omega
    have hmj : ((((numS d)[0].toNat : Int)) != 45) = true := by simp; omega
    clear K1 K2 K3 K4 K5 K6 K7 hdz hdn hs ht hb
    refine (J1.out _).mono ?_
    rintro e w3 ⟨rfl, hb3⟩
    have hB3 := bThen HB2.out hb3
    clear J1 hb3
    go_wp2_with fail
    refine (J2.out _).mono ?_
    rintro e w4 ⟨rfl, hb4⟩
    have hB4 := bThen hB3 hb4
    clear J2 hB3 hb4
    go_wp2_with fail
    refine (J3.out _).mono ?_
    rintro e w5 ⟨rfl, hb5⟩
    have hB5 := bThen hB4 hb5
    clear J3 hB4 hb5
    go_wp2_with fail
    refine (J4.out _).mono ?_
    rintro e w6 ⟨rfl, hb6⟩
    have hB6 := bThen hB5 hb6
    clear J4 hB5 hb6
    go_wp2_with fail
    refine (J5.out _).mono ?_
    rintro e w7 ⟨rfl, hb7⟩
    have hB7 := bThen hB6 hb7
    clear J5 hB6 hb7
    go_wp2_with fail
    refine (J6.out _).mono ?_
    rintro e w8 ⟨rfl, hb8⟩
    have HB8 := Lib.hid (bThen hB7 hb8)
    clear J6 hB7 hb8
    rw [hc2]
    generalize cmpZ s (-a) = z at *
    go_wp2_with fail
    refine (J7.out _).mono ?_
    rintro e w9 ⟨rfl, hb9⟩
    have HB9 := Lib.hid (bThen HB8.out hb9)
    clear J7 hb9 HB8
    by_cases hz : d = 0
    · obtain ⟨hx0, hb0⟩ := HDZ.out hz
      subst hz hb0
      rw [hx0]
      rw [numS_zero]
      clear HDZ HDN hpos2 hmi2 hmj HA
      go_wp2_with fail
      refine (HS.out _ HB9.out).mono ?_
      rintro e w10 ⟨rfl, hb10⟩
      go_wp2_with fail
      go_ret
      exact ⟨rfl, bThen HB9.out hb10⟩
    · obtain ⟨k1, k2⟩ := HDN.out hz
      have J8 := Lib.hid k1
      have J9 := Lib.hid k2
      have hne0 : numS d ≠ (⟨#[48]⟩ : ByteArray) := numS_ne_zero hz
      have hne1 : ((numS d).toList == [48]) = false := str_ne hne0
      clear HDZ HDN k1 k2
      go_wp2_with fail
      refine (J8.out _).mono ?_
      rintro e w10 ⟨q1, rfl, hb10⟩
      have hB10 := bThen HB9.out hb10
      clear J8 hb10
      rw [numS_zero]
      go_wp2_with fail
      refine (J9.out _).mono ?_
      rintro e w11 ⟨q2, rfl, hb11⟩
      have HB11 := Lib.hid (bThen hB10 hb11)
      clear J9 hB10 hb11
      rw [numS_zero]
      go_wp2_with fail
      refine (HS.out _ HB11.out).mono ?_
      rintro e w12 ⟨rfl, hb12⟩
      go_wp2_with fail
      go_ret
      exact ⟨rfl, bThen HB11.out hb12⟩
  · have hmi : ¬ ((numS a)[0].toNat : Int) = 45 := fun h => hneg ((numS_first a).1 (UInt8.toNat_inj.1 (by simp; omega)))
    have HA := Lib.hid ha
    have hxx : 0 ≤ a := by omega
    clear ha
    go_wp2_with fail
    obtain ⟨r, s, t, d, K1, K2, K3, K4, K5, K6, hs, ht, K7, hd0, hdz, hdn⟩ := root_facts a b hxx HA.out hb
    have J1 := Lib.hid K1
    have J2 := Lib.hid K2
    have J3 := Lib.hid K3
    have J4 := Lib.hid K4
    have J5 := Lib.hid K5
    have J6 := Lib.hid K6
    have J7 := Lib.hid K7
    have HDZ := Lib.hid hdz
    have HDN := Lib.hid hdn
    have hc1 : cmpZ s a ≤ 0 := cmpZ_le hs
    have hc2 : cmpZ t a = 1 := cmpZ_gt ht
    have hpos2 := numS_pos d
    have hmi2 : ¬ ((numS d)[0].toNat : Int) = 45 := fun h => by have := (numS_first d).1 (UInt8.toNat_inj.1 (by simp; omega)); omega
    have hmj : ((((numS d)[0].toNat : Int)) != 45) = true := by simp; omega
    clear K1 K2 K3 K4 K5 K6 K7 hdz hdn hs ht hb
    refine (J1.out _).mono ?_
    rintro e w3 ⟨rfl, hb3⟩
    have hB3 := bThen HB2.out hb3
    clear J1 hb3
    go_wp2_with fail
    refine (J2.out _).mono ?_
    rintro e w4 ⟨rfl, hb4⟩
    have hB4 := bThen hB3 hb4
    clear J2 hB3 hb4
    go_wp2_with fail
    refine (J3.out _).mono ?_
    rintro e w5 ⟨rfl, hb5⟩
    have hB5 := bThen hB4 hb5
    clear J3 hB4 hb5
    go_wp2_with fail
    refine (J4.out _).mono ?_
    rintro e w6 ⟨rfl, hb6⟩
    have hB6 := bThen hB5 hb6
    clear J4 hB5 hb6
    go_wp2_with fail
    refine (J5.out _).mono ?_
    rintro e w7 ⟨rfl, hb7⟩
    have hB7 := bThen hB6 hb7
    clear J5 hB6 hb7
    go_wp2_with fail
    refine (J6.out _).mono ?_
    rintro e w8 ⟨rfl, hb8⟩
    have HB8 := Lib.hid (bThen hB7 hb8)
    clear J6 hB7 hb8
    rw [hc2]
    generalize cmpZ s a = z at *
    go_wp2_with fail
    refine (J7.out _).mono ?_
    rintro e w9 ⟨rfl, hb9⟩
    have HB9 := Lib.hid (bThen HB8.out hb9)
    clear J7 hb9 HB8
    by_cases hz : d = 0
    · obtain ⟨hx0, hb0⟩ := HDZ.out hz
      subst hz hx0 hb0
      have hzz : ((numS 0).toList == [48]) = true := by kernel_rfl
      clear HDZ HDN hpos2 hmi2 hmj HA
      go_wp2_with fail
      refine (HS.out _ HB9.out).mono ?_
      rintro e w10 ⟨rfl, hb10⟩
      go_wp2_with fail
      go_ret
      exact ⟨rfl, bThen HB9.out hb10⟩
    · obtain ⟨k1, k2⟩ := HDN.out hz
      have J8 := Lib.hid k1
      have J9 := Lib.hid k2
      have hne0 : numS d ≠ (⟨#[48]⟩ : ByteArray) := numS_ne_zero hz
      have hne1 : ((numS d).toList == [48]) = false := str_ne hne0
      clear HDZ HDN k1 k2
      go_wp2_with fail
      refine (J8.out _).mono ?_
      rintro e w10 ⟨q1, rfl, hb10⟩
      have hB10 := bThen HB9.out hb10
      clear J8 hb10
      rw [numS_zero]
      go_wp2_with fail
      refine (J9.out _).mono ?_
      rintro e w11 ⟨q2, rfl, hb11⟩
      have HB11 := Lib.hid (bThen hB10 hb11)
      clear J9 hB10 hb11
      rw [numS_zero]
      go_wp2_with fail
      refine (HS.out _ HB11.out).mono ?_
      rintro e w12 ⟨rfl, hb12⟩
      go_wp2_with fail
      go_ret
      exact ⟨rfl, bThen HB11.out hb12⟩
end Go.Proofs.YtifhiefdhhmdeaaGreatDoor
