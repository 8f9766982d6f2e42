/- The walk of WholeLaws. -/
import Derived.Test.YtifhiefdhhmdeaaGreatDoorZO
namespace Go.Proofs.YtifhiefdhhmdeaaGreatDoor
open Go Go.RowKit

theorem law_facts (a b c : Int) (ha : Dl a 120) (hb : Dl b 120) (hc : Dl c 120) :
    (∀ W, Calls Tryz.prog 33 #[.string (numS a), .string (numS b)] W (NumR (a + b) W)) ∧ (∀ W, Calls Tryz.prog 33 #[.string (numS b), .string (numS a)] W (NumR (a + b) W)) ∧
      (∀ W, Calls Tryz.prog 34 #[.string (numS (a + b)), .string (numS b)] W (NumR a W)) ∧ (∀ W, Calls Tryz.prog 35 #[.string (numS a), .string (numS b)] W (NumR (a * b) W)) ∧
      (∀ W, Calls Tryz.prog 35 #[.string (numS b), .string (numS a)] W (NumR (a * b) W)) ∧ (∀ W, Calls Tryz.prog 35 #[.string (numS (a + b)), .string (numS c)] W (NumR ((a + b) * c) W)) ∧
      (∀ W, Calls Tryz.prog 35 #[.string (numS a), .string (numS c)] W (NumR (a * c) W)) ∧ (∀ W, Calls Tryz.prog 35 #[.string (numS b), .string (numS c)] W (NumR (b * c) W)) ∧
      (∀ W, Calls Tryz.prog 33 #[.string (numS (a * c)), .string (numS (b * c))] W (NumR ((a + b) * c) W)) := by
  have fa := ha.fits (show 120 ≤ 400 by omega)
  have fb := hb.fits (show 120 ≤ 400 by omega)
  have fc := hc.fits (show 120 ≤ 400 by omega)
  have dab := Dl_add ha hb
  have fab := dab.fits (show 121 ≤ 400 by omega)
  have fm := (Dl_mul ha hb).fits (show 120 + 120 ≤ 400 by omega)
  have fac := (Dl_mul ha hc).fits (show 120 + 120 ≤ 400 by omega)
  have fbc := (Dl_mul hb hc).fits (show 120 + 120 ≤ 400 by omega)
  have fl := (Dl_mul dab hc).fits (show 121 + 120 ≤ 400 by omega)
  refine ⟨fun W => a33 W fa fb fab, fun W => ?_, fun W => ?_, fun W => a35 W fa fb fm, fun W => ?_, fun W => a35 W fab fc fl, fun W => a35 W fa fc fac, fun W => a35 W fb fc fbc, fun W => ?_⟩
  · have h := a33 W fb fa (by rw [Int.add_comm]; exact fab)
    rw [Int.add_comm b a] at h; exact h
  · have h := a34 W fab fb (by rw [show a + b - b = a by omega]; exact fa)
    rw [show a + b - b = a by omega] at h; exact h
  · have h := a35 W fb fa (by rw [Int.mul_comm]; exact fm)
    rw [Int.mul_comm b a] at h; exact h
  · have h := a33 W fac fbc (by rw [← Int.add_mul]; exact fl)
    rw [← Int.add_mul] at h; exact h
set_option maxRecDepth 100000 in
set_option maxHeartbeats 8000000 in
theorem t9 (va vb vc : Value) (xs ys zs : List Int) (m0 : Int) (w : World) (hva : IntsRead w va xs) (hvb : IntsRead w vb ys) (hvc : IntsRead w vc zs) (hx : ∀ x ∈ xs, InInt x) (hy : ∀ x ∈ ys, InInt x) (hz : ∀ x ∈ zs, InInt x) (hT : TabOk w) (hl : xs.length ≤ 9223372036854775807) (hl' : ys.length ≤ 9223372036854775807) (hl'' : zs.length ≤ 9223372036854775807) (hm : w.cell? ⟨0, 0, none⟩ = some (.int .i64 m0)) :
    Calls Tryz.prog 9 #[.agg #[va, vb, vc]] w fun e w' => e = .returned (.bool true) ∧ Below w.heap.size w w' := by
  have C1 := Lib.hid (fun (W : World) (hb : Below w.heap.size w W) => a16 va xs 120 W (hva.below hb) hx (hT.on hb) hl (by omega) (by omega))
  have C2 := Lib.hid (fun (W : World) (hb : Below w.heap.size w W) => a16 vb ys 120 W (hvb.below hb) hy (hT.on hb) hl' (by omega) (by omega))
  have C3 := Lib.hid (fun (W : World) (hb : Below w.heap.size w W) => a16 vc zs 120 W (hvc.below hb) hz (hT.on hb) hl'' (by omega) (by omega))
  have HS := Lib.hid (fun W (h : Below w.heap.size w W) => t14 m0 W (below_cell h hm))
  obtain ⟨ao, ca, rfl, -⟩ := hva
  obtain ⟨bo, cb, rfl, -⟩ := hvb
  obtain ⟨co, cc, rfl, -⟩ := hvc
  have HK := Lib.hid (Blk.new w #[.slice ao xs.length ca, .slice bo ys.length cb, .slice co zs.length cc] 54)
  have HB0 := Lib.hid (bSelf w (.cells #[.slice ao xs.length ca, .slice bo ys.length cb, .slice co zs.length cc] 54))
  clear hx hy hz hT hm
  go_enter Tryz.func9, Tryz.ntmps9
  go_wp2_with fail
  refine (C1.out _ HB0.out).mono ?_
  rintro e w1 ⟨a, ha, rfl, hb1⟩
  have hB1 := bThen HB0.out hb1
  have hk1 := HK.out.below hb1 HK.out.lt
  have r1 := hk1.cell 1 rfl
  clear hk1
  have HA := Lib.hid ha
  go_wp2_with fail
  refine (C2.out _ hB1).mono ?_
  rintro e w2 ⟨b, hb, rfl, hb2⟩
  have hB2 := bThen hB1 hb2
  have hk2 := (HK.out.below hb1 HK.out.lt).below hb2 (HK.out.below hb1 HK.out.lt).lt
  have r2 := hk2.cell 2 rfl
  clear hk2 r1 hb1
  have HB := Lib.hid hb
  go_wp2_with fail
  refine (C3.out _ hB2).mono ?_
  rintro e w3 ⟨c, hc, rfl, hb3⟩
  have hB3 := bThen hB2 hb3
  obtain ⟨K1, K2, K3, K4, K5, K6, K7, K8, K9⟩ := law_facts a b c HA.out HB.out hc
  have J1 := Lib.hid K1
  have J2 := Lib.hid K2
  have J3 := Lib.hid K3
  have J4 := Lib.hid K4
  have J5 := Lib.hid K5
  have J6 := Lib.hid K6
  have J7 := Lib.hid K7
  have J8 := Lib.hid K8
  have J9 := Lib.hid K9
  clear K1 K2 K3 K4 K5 K6 K7 K8 K9 C1 C2 C3 HA HB r2 hb2 hb3 ha hb hc hB1 hB2 HB0 HK
  generalize a + b = s at *
  generalize a * b = p at *
  generalize s * c = l at *
  generalize a * c = ac at *
  generalize b * c = bc at *
  go_wp2_with fail
  refine (J1.out _).mono ?_
  rintro e w4 ⟨rfl, hb4⟩
  have hB4 := bThen hB3 hb4
  clear J1 hB3 hb4
  go_wp2_with fail
  refine (J2.out _).mono ?_
  rintro e w5 ⟨rfl, hb5⟩
  have hB5 := bThen hB4 hb5
  clear J2 hB4 hb5
  go_wp2_with fail
  refine (J3.out _).mono ?_
  rintro e w6 ⟨rfl, hb6⟩
  have hB6 := bThen hB5 hb6
  clear J3 hB5 hb6
  go_wp2_with fail
  refine (J4.out _).mono ?_
  rintro e w7 ⟨rfl, hb7⟩
  have hB7 := bThen hB6 hb7
  clear J4 hB6 hb7
  go_wp2_with fail
  refine (J5.out _).mono ?_
  rintro e w8 ⟨rfl, hb8⟩
  have hB8 := bThen hB7 hb8
  clear J5 hB7 hb8
  go_wp2_with fail
  refine (J6.out _).mono ?_
  rintro e w9 ⟨rfl, hb9⟩
  have hB9 := bThen hB8 hb9
  clear J6 hB8 hb9
  go_wp2_with fail
  refine (J7.out _).mono ?_
  rintro e w10 ⟨rfl, hb10⟩
  have hB10 := bThen hB9 hb10
  clear J7 hB9 hb10
  go_wp2_with fail
  refine (J8.out _).mono ?_
  rintro e w11 ⟨rfl, hb11⟩
  have hB11 := bThen hB10 hb11
  clear J8 hB10 hb11
  go_wp2_with fail
  refine (J9.out _).mono ?_
  rintro e w12 ⟨rfl, hb12⟩
  have HB12 := Lib.hid (bThen hB11 hb12)
  clear J9 hB11 hb12
  go_wp2_with fail
  have hk := Blk.new w12 #[.int .i64 0, .int .i64 0, .int .i64 0, .int .i64 0, .int .i64 0, .int .i64 0, .int .i64 0, .int .i64 0, .int .i64 0] 35
  have hcell : Hid (∀ k : Nat, k < 9 → (w12.alloc (.cells #[.int .i64 0, .int .i64 0, .int .i64 0, .int .i64 0, .int .i64 0, .int .i64 0, .int .i64 0, .int .i64 0, .int .i64 0] 35)).cell? ⟨w12.heap.size, k, none⟩ = some (.int .i64 0)) := fun k h => hk.cell k (by
    have : k = 0 ∨ k = 1 ∨ k = 2 ∨ k = 3 ∨ k = 4 ∨ k = 5 ∨ k = 6 ∨ k = 7 ∨ k = 8 := by omega
    rcases this with rfl | rfl | rfl | rfl | rfl | rfl | rfl | rfl | rfl <;> rfl)
  have HBE := Lib.hid (bAl HB12.out (.cells #[.int .i64 0, .int .i64 0, .int .i64 0, .int .i64 0, .int .i64 0, .int .i64 0, .int .i64 0, .int .i64 0, .int .i64 0] 35))
  clear hk HB12
  generalize (w12.alloc (.cells #[.int .i64 0, .int .i64 0, .int .i64 0, .int .i64 0, .int .i64 0, .int .i64 0, .int .i64 0, .int .i64 0, .int .i64 0] 35)) = WE at *
  generalize w12.heap.size = ge at *
  go_loopw [25] (fun i wr => ∃ k : Nat, k ≤ 9 ∧ i = .int .i64 k ∧ wr = WE) (fun i _ => 9 - (intOf i).toNat)
  case atStart => exact ⟨0, by omega, rfl, rfl⟩
  case round =>
    obtain ⟨k, hk9, rfl, rfl⟩ := hrel
    by_cases hlt : k < 9
    · have hc := hcell.out k hlt
      have hki : (k : Int) < 9 := by omega
      clear hlt
      go_wp2
      go_roundw
      case rel => exact ⟨k + 1, by omega, by go_num, by trivial⟩
      case measure => first | (simp [intOf]; omega) | simp [intOf]
    · obtain rfl : k = 9 := by omega
      clear hlt hk9
      go_wp2_with fail
      refine (HS.out _ HBE.out).mono ?_
      rintro e w13 ⟨rfl, hb13⟩
      go_wp2_with fail
      go_ret
      exact ⟨rfl, bThen HBE.out hb13⟩
end Go.Proofs.YtifhiefdhhmdeaaGreatDoor
