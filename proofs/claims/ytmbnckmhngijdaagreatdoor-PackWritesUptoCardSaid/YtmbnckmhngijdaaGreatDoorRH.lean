/- Contract of the reference's Size. -/
import Derived.Test.YtmbnckmhngijdaaGreatDoorRG
namespace Go.Proofs.YtmbnckmhngijdaaGreatDoor
open Go Go.RowKit

theorem num_zero {c : UInt8} (h119 : c ≠ 119) (h85 : c ≠ 85) : (numC c && decide (sizeC c = 0)) = false := by
  unfold numC
  by_cases h : sizeC c = 0
  · simp [h, h119, h85]
  · simp [h]
theorem num_wu {c : UInt8} (h : c = 119 ∨ c = 85) : (numC c && decide (sizeC c = 0)) = true := by
  rcases h with rfl | rfl <;> rfl
theorem num_max {c : UInt8} (n k : Nat) (h119 : c ≠ 119) (h85 : c ≠ 85) : (if numC c then k + n * sizeC c else k + n) = k + n * max 1 (sizeC c) := by
  have h := num_zero h119 h85
  cases hn : numC c with
  | true =>
    rw [hn] at h
    have h0 : sizeC c ≠ 0 := by simpa using h
    rw [if_pos rfl, show max 1 (sizeC c) = sizeC c by omega]
  | false =>
    have h0 : sizeC c = 0 := by
      unfold numC at hn
      simp only [Bool.or_eq_false_iff, decide_eq_false_iff_not] at hn
      omega
    rw [if_neg (by decide), h0]; simp
set_option maxRecDepth 100000 in
set_option maxHeartbeats 4000000 in
theorem t28 (s : ByteArray) (w : World) (hs : s.size ≤ 100000) : Calls Tryz.prog 28 #[.string s] w (SizR (sizeF s.data.toList) w) := by
  have C := t32 s w hs
  unfold RfdR at C
  cases hf : formL s.data.toList with
  | none =>
    have HS : Hid (sizeF s.data.toList = .error 4) := by show _ = _; unfold sizeF; rw [hf]
    rw [hf] at C
    clear hf
    go_enter Tryz.func28, Tryz.ntmps28
    go_wp2_with fail
    refine C.mono ?_
    rintro e w1 ⟨hb, v, rfl⟩
    have HB := Lib.hid hb
    clear hb
    go_wp2
    go_ret2
    exact ⟨by rw [HS.out]; rfl, HB.out⟩
  | some ds =>
    have HS : Hid (sizeF s.data.toList = sizeL ds 0) := by show _ = _; unfold sizeF; rw [hf]
    obtain ⟨hdl, hdok⟩ := formL_ok hf
    have HDOK := Lib.hid hdok
    rw [hf] at C
    clear hf hdok
    have hdli : (ds.length : Int) ≤ 50 := by omega
    go_enter Tryz.func28, Tryz.ntmps28
    go_wp2_with fail
    refine C.mono ?_
    rintro e w1 ⟨hb, v, rfl, hds⟩
    have HB := Lib.hid hb
    have HDS := Lib.hid hds
    obtain ⟨al, cl, rfl⟩ := row_slice hds
    clear hb hds C
    go_wp2_with fail
    go_loopw [7, 6] (fun i z wr => SizL ds w1 i z wr) (fun i _ _ => ds.length - (intOf i).toNat)
    case atStart => exact ⟨0, 0, Nat.zero_le _, rfl, rfl, by omega, rfl, Below.refl _ _⟩
    case round =>
      obtain ⟨j, n, hj, rfl, rfl, hn, hsz, hbl⟩ := hrel
      have hB := Lib.hid (bThen HB.out hbl.out)
      by_cases hlt : j < ds.length
      · have hlti : (j : Int) < ds.length := by omega
        obtain ⟨d, hd⟩ : ∃ d, ds[j]? = some d := ⟨ds[j], List.getElem?_eq_getElem hlt⟩
        have hdsr : Dr wr w.heap.size (.slice al ds.length cl) ds := ownsRow_below HDS.out hbl.out
        obtain ⟨gl, cl', hsl, hgl, e0, e1, e2⟩ := hdsr.cell hd
        simp only [Value.slice.injEq] at hsl
        obtain ⟨rfl, _, rfl⟩ := hsl
        have hok := HDOK.out d (List.mem_of_getElem? hd)
        have hdn := hok.fine.n
        have hdrop : ds.drop j = d :: ds.drop (j + 1) := by
          rw [List.drop_eq_getElem_cons hlt]; congr 1
          have := List.getElem?_eq_getElem hlt
          rw [hd] at this; exact (Option.some.inj this).symm
        have hr2 := hsz.out
        rw [hdrop] at hr2
        obtain ⟨m, hm⟩ : ∃ m : Nat, (if d.c = 64 then d.n else if d.c = 72 then n + (d.n + 1) / 2 else if numC d.c then n + d.n * sizeC d.c else n + d.n) = m := ⟨_, rfl⟩
        have hml := nx_le d n hdn
        rw [hm] at hml
        have hgood : (d.all || (numC d.c && decide (sizeC d.c = 0))) = false → Hid (sizeL (ds.drop (j + 1)) m = sizeL ds 0) := fun h => by
          show _ = _; rw [← hr2, sizeL_good h, hm]
        have hbad : (d.all || (numC d.c && decide (sizeC d.c = 0))) = true → Hid (sizeL ds 0 = .error 1) := fun h => by
          show _ = _; rw [← hr2]; exact sizeL_bad h
        have HGOOD := Lib.hid hgood
        have HBAD := Lib.hid hbad
        have hb3 := bSelf wr (.cells #[.int .u8 d.c.toNat, .bool d.gt, .int .i64 d.k] 60)
        have hk3 := Blk.new wr #[.int .u8 d.c.toNat, .bool d.gt, .int .i64 d.k] 60
        go_upto_region 9 with fail
        generalize wr.alloc (.cells #[.int .u8 d.c.toNat, .bool d.gt, .int .i64 d.k] 60) = W3 at *
        have d0 := hk3.cell 0 rfl
        have d2 := hk3.cell 2 rfl
        have HB3 := Lib.hid (bThen hbl.out hb3)
        have HBT := Lib.hid (bThen hB.out hb3)
        have C34 := fun W => t34 d.c W
        have h8 := sizeC_le d.c
        have h8i : (sizeC d.c : Int) ≤ 8 := by omega
        have hni : (n : Int) ≤ 500000 := by omega
        have hnm : n ≤ 500000 := by omega
        have HM := Lib.hid hm
        clear hm hr2 hb3 hk3 hgood hbad e0 e1 e2 hgl hdsr hdrop hd
        by_cases hk1 : d.k = -1
        · have hal : d.all = true := by unfold Dir.all; rw [hk1]; rfl
          have HE := HBAD.out (by rw [hal]; rfl)
          rw [hk1] at d2
          clear HBAD HGOOD hal hk1
          go_wp2
          go_ret2
          exact ⟨by rw [HS.out, HE.out]; rfl, HBT.out⟩
        · have hal : d.all = false := by unfold Dir.all; exact decide_eq_false hk1
          have hcnt : d.k = -2 ∨ ∃ N : Nat, d.k = (N : Int) ∧ N ≤ 1000 := by
            rcases hok.count with h | h | h
            · exact absurd h hk1
            · exact .inl h
            · exact .inr ⟨d.k.toNat, by omega, by omega⟩
          rcases hcnt with hk2 | ⟨N, hkN, hN⟩
          · have hdn1 : d.c ≠ 64 → d.n = 1 := fun h => by unfold Dir.n; rw [if_neg hk1, if_pos hk2, if_neg h]
            have hdn2 : d.c = 64 → d.n = 0 := fun h => by unfold Dir.n; rw [if_neg hk1, if_pos hk2, if_pos h]
            rw [hk2] at d2
            by_cases h119 : d.c = 119
            · have t1 := u8_eq (n := 119) (k := 119) rfl h119
              have HE := HBAD.out (by rw [num_wu (Or.inl h119)]; simp)
              clear HBAD HGOOD hal hk1 hk2 h119 hdn1 hdn2
              go_wp2
              go_ret2
              exact ⟨by rw [HS.out, HE.out]; rfl, HBT.out⟩
            have t1 := u8_ne (n := 119) (k := 119) rfl h119
            by_cases h85 : d.c = 85
            · have t2 := u8_eq (n := 85) (k := 85) rfl h85
              have HE := HBAD.out (by rw [num_wu (Or.inr h85)]; simp)
              clear HBAD HGOOD hal hk1 hk2 h119 h85 hdn1 hdn2
              go_wp2
              go_ret2
              exact ⟨by rw [HS.out, HE.out]; rfl, HBT.out⟩
            have t2 := u8_ne (n := 85) (k := 85) rfl h85
            have HG := HGOOD.out (by rw [hal, num_zero h119 h85]; rfl)
            by_cases h64 : d.c = 64
            · have t3 := u8_eq (n := 64) (k := 64) rfl h64
              have hmv : m = 0 := by rw [← HM.out, if_pos h64, hdn2 h64]
              subst hmv
              have hz : True := trivial
              clear HBAD HGOOD hal hk1 hk2 h119 h85 h64 hdn1 hdn2
              go_wp2
              go_roundw
              case rel => exact ⟨j + 1, 0, by omega, by go_num, by go_num, by omega, HG, HB3⟩
              case measure => simp [intOf]; omega
            have t3 := u8_ne (n := 64) (k := 64) rfl h64
            by_cases h72 : d.c = 72
            · have t4 := u8_eq (n := 72) (k := 72) rfl h72
              have hmv : n + (1 + 1) / 2 = m := by rw [← HM.out, if_neg h64, if_pos h72, hdn1 h64]
              have hmi : (n : Int) + ((1 : Int) + 1) / 2 = (m : Int) := by omega
              have HMI := Lib.hid hmi
              clear HBAD HGOOD hal hk1 hk2 h119 h85 h64 h72 hdn1 hdn2 hmv hmi
              go_wp2
              go_roundw
              case rel => exact ⟨j + 1, m, by omega, by go_num, congrArg (Value.int .i64) HMI.out, by omega, HG, HB3⟩
              case measure => simp [intOf]; omega
            have t4 := u8_ne (n := 72) (k := 72) rfl h72
            obtain ⟨q, hq⟩ : ∃ q, max 1 (sizeC d.c) = q := ⟨_, rfl⟩
            have hmv : n + 1 * q = m := by rw [← HM.out, if_neg h64, if_neg h72, num_max d.n n h119 h85, hdn1 h64, hq]
            have hqi : max (1 : Int) (sizeC d.c : Int) = (q : Int) := by omega
            have hq8 : q ≤ 8 := by omega
            have hq8i : (q : Int) ≤ 8 := by omega
            have hpq : 1 * q ≤ 8000 := Nat.le_trans (Nat.mul_le_mul (show 1 ≤ 1000 by omega) hq8) (by decide)
            have hpi : (0 : Int) ≤ (1 : Int) * q := Int.mul_nonneg (by omega) (by omega)
            have hpj : (1 : Int) * q ≤ 8000 := by exact_mod_cast hpq
            have hmi : (n : Int) + (1 : Int) * q = (m : Int) := by exact_mod_cast hmv
            have HMI := Lib.hid hmi
            clear HBAD HGOOD hal hk1 hk2 h119 h85 h64 h72 hdn1 hdn2 hmv hmi hq hpq
            go_wp2_with (go_at_call 34; refine (C34 _).mono ?_; rintro e4 w4 ⟨rfl, rfl⟩)
            go_roundw
            case rel => exact ⟨j + 1, m, by omega, by go_num, by first | exact congrArg (Value.int .i64) HMI.out | (rw [← HMI.out]; simp), by omega, HG, HB3⟩
            case measure => simp [intOf]; omega
          · have hk2 : d.k ≠ -2 := by omega
            have hdn1 : d.c ≠ 64 → d.n = N := fun _ => by unfold Dir.n; rw [if_neg hk1, if_neg hk2]; omega
            have hdn2 : d.c = 64 → d.n = N := fun _ => by unfold Dir.n; rw [if_neg hk1, if_neg hk2]; omega
            have k1 : ((N : Int) == -1) = false := by rw [beq_eq_false_iff_ne]; omega
            have k2 : ((N : Int) == -2) = false := by rw [beq_eq_false_iff_ne]; omega
            have hNi : (N : Int) ≤ 1000 := by omega
            rw [hkN] at d2
            by_cases h119 : d.c = 119
            · have t1 := u8_eq (n := 119) (k := 119) rfl h119
              have HE := HBAD.out (by rw [num_wu (Or.inl h119)]; simp)
              clear HBAD HGOOD hal hk1 hk2 h119 hdn1 hdn2
              go_wp2
              go_ret2
              exact ⟨by rw [HS.out, HE.out]; rfl, HBT.out⟩
            have t1 := u8_ne (n := 119) (k := 119) rfl h119
            by_cases h85 : d.c = 85
            · have t2 := u8_eq (n := 85) (k := 85) rfl h85
              have HE := HBAD.out (by rw [num_wu (Or.inr h85)]; simp)
              clear HBAD HGOOD hal hk1 hk2 h119 h85 hdn1 hdn2
              go_wp2
              go_ret2
              exact ⟨by rw [HS.out, HE.out]; rfl, HBT.out⟩
            have t2 := u8_ne (n := 85) (k := 85) rfl h85
            have HG := HGOOD.out (by rw [hal, num_zero h119 h85]; rfl)
            by_cases h64 : d.c = 64
            · have t3 := u8_eq (n := 64) (k := 64) rfl h64
              have hmv : m = N := by rw [← HM.out, if_pos h64, hdn2 h64]
              subst hmv
              have hz : max (0 : Int) (m : Int) = m := by omega
              clear HBAD HGOOD hal hk1 hk2 h119 h85 h64 hdn1 hdn2
              go_wp2
              go_roundw
              case rel => exact ⟨j + 1, m, by omega, by go_num, by go_num, by omega, HG, HB3⟩
              case measure => simp [intOf]; omega
            have t3 := u8_ne (n := 64) (k := 64) rfl h64
            by_cases h72 : d.c = 72
            · have t4 := u8_eq (n := 72) (k := 72) rfl h72
              have hmv : n + (N + 1) / 2 = m := by rw [← HM.out, if_neg h64, if_pos h72, hdn1 h64]
              have hmi : (n : Int) + ((N : Int) + 1) / 2 = (m : Int) := by omega
              have HMI := Lib.hid hmi
              clear HBAD HGOOD hal hk1 hk2 h119 h85 h64 h72 hdn1 hdn2 hmv hmi
              go_wp2
              go_roundw
              case rel => exact ⟨j + 1, m, by omega, by go_num, congrArg (Value.int .i64) HMI.out, by omega, HG, HB3⟩
              case measure => simp [intOf]; omega
            have t4 := u8_ne (n := 72) (k := 72) rfl h72
            obtain ⟨q, hq⟩ : ∃ q, max 1 (sizeC d.c) = q := ⟨_, rfl⟩
            have hmv : n + N * q = m := by rw [← HM.out, if_neg h64, if_neg h72, num_max d.n n h119 h85, hdn1 h64, hq]
            have hqi : max (1 : Int) (sizeC d.c : Int) = (q : Int) := by omega
            have hq8 : q ≤ 8 := by omega
            have hq8i : (q : Int) ≤ 8 := by omega
            have hpq : N * q ≤ 8000 := Nat.le_trans (Nat.mul_le_mul (show N ≤ 1000 by omega) hq8) (by decide)
            have hpi : (0 : Int) ≤ (N : Int) * q := Int.mul_nonneg (by omega) (by omega)
            have hpj : (N : Int) * q ≤ 8000 := by exact_mod_cast hpq
            have hmi : (n : Int) + (N : Int) * q = (m : Int) := by exact_mod_cast hmv
            have HMI := Lib.hid hmi
            clear HBAD HGOOD hal hk1 hk2 h119 h85 h64 h72 hdn1 hdn2 hmv hmi hq hpq
            go_wp2_with (go_at_call 34; refine (C34 _).mono ?_; rintro e4 w4 ⟨rfl, rfl⟩)
            go_roundw
            case rel => exact ⟨j + 1, m, by omega, by go_num, by first | exact congrArg (Value.int .i64) HMI.out | (rw [← HMI.out]; simp), by omega, HG, HB3⟩
            case measure => simp [intOf]; omega
      · obtain rfl : ds.length = j := by omega
        have hr2 := hsz.out
        rw [List.drop_length] at hr2
        have HE : Hid (sizeL ds 0 = .ok n) := hr2.symm
        clear hr2 hlt
        go_wp2
        go_ret2
        exact ⟨by rw [HS.out, HE.out]; rfl, hB.out⟩
end Go.Proofs.YtmbnckmhngijdaaGreatDoor
