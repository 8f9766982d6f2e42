/- Contract of number. -/
import Derived.Test.YtmbnckmhngijdaaGreatDoorV
import Derived.Deep.RegionHeld3
namespace Go.Proofs.YtmbnckmhngijdaaGreatDoor
open Go Go.RowKit

theorem size_fix {c : UInt8} (hc : numC c = true) (h85 : c ≠ 85) (h119 : c ≠ 119) : sizeC c = 1 ∨ sizeC c = 2 ∨ sizeC c = 4 ∨ sizeC c = 8 := by
  rcases num_cases hc with rfl | rfl | rfl | rfl | rfl | rfl | rfl | rfl | rfl | rfl | rfl | rfl
  all_goals first | exact absurd rfl h85 | exact absurd rfl h119 | decide
theorem fixE_err {sg gr : Bool} {l : List UInt8} {e : Nat} (h : fixE sg gr l = .error e) : e = 5 := by
  unfold fixE at h
  split at h
  · cases h
  · split at h
    · cases h
    · cases h; rfl
set_option maxRecDepth 100000 in
set_option maxHeartbeats 2000000 in
theorem t94 (d : Dir) (nb al : Bool) (kk : Int) (s : ByteArray) (w : World) (hG : Gl w) (hc : numC d.c = true) (hs : s.size ≤ 1000000) :
    Calls Tryz.prog 94 #[.agg #[.int .u8 d.c.toNat, .bool nb, .int .i64 (sizeC d.c), .bool d.great, .bool al, .int .i64 kk], .string s] w (NumR (numberR chrP d s.data.toList) w) := by
  have hsi : (s.size : Int) ≤ 1000000 := by omega
  have hsl : s.data.toList.length = s.size := rfl
  have h8 := sizeC_le d.c
  have h8i : (sizeC d.c : Int) ≤ 8 := by omega
  have hk0 := Blk.new w #[.int .u8 d.c.toNat, .bool nb, .int .i64 (sizeC d.c), .bool d.great, .bool al, .int .i64 kk] 81
  have hb0 := bSelf w (.cells #[.int .u8 d.c.toNat, .bool nb, .int .i64 (sizeC d.c), .bool d.great, .bool al, .int .i64 kk] 81)
  by_cases hlt : s.size < max (sizeC d.c) 1
  · have HE : Hid (numberR chrP d s.data.toList = .error 14) := by show _ = _; unfold numberR; rw [hsl, if_pos hlt]
    have hlti : (s.size : Int) < max (sizeC d.c : Int) 1 := by omega
    clear hlt hk0
    go_enter Tryz.func94, Tryz.ntmps94
    go_wp2
    go_ret3
    exact NumR.bad HE (by decide) hb0
  · have hlti : decide ((s.size : Int) < max (sizeC d.c : Int) 1) = false := decide_eq_false (by omega)
    have hge : sizeC d.c ≤ s.size := by omega
    have hgei : (sizeC d.c : Int) ≤ s.size := by omega
    have h1s : 0 < s.size := by omega
    have HNM : Hid (numberR chrP d s.data.toList = if d.c = 85 then chrP s.data.toList else if d.c = 119 then sevT s.data.toList else (match fixedR d (s.data.toList.take (sizeC d.c)) with | .error e => .error e | .ok v => .ok (v, sizeC d.c))) := by
      show _ = _; unfold numberR; rw [hsl, if_neg hlt]; rfl
    have hGW := hG.below hb0
    by_cases h85 : d.c = 85
    · have d1 := u8_eq (n := 85) (k := 85) rfl h85
      have HE : Hid (numberR chrP d s.data.toList = chrP s.data.toList) := by show _ = _; rw [HNM.out, if_pos h85]
      have C := fun W hW => t115 s W hW
      clear hlt hk0 h85
      go_enter Tryz.func94, Tryz.ntmps94
      go_wp2_with fail
      refine (C _ hGW).mono ?_
      generalize w.alloc (.cells #[.int .u8 d.c.toNat, .bool nb, .int .i64 (sizeC d.c), .bool d.great, .bool al, .int .i64 kk] 81) = W at *
      rintro e w1 ⟨hb1, hr1⟩
      have HB1 := Lib.hid (bThen hb0 hb1)
      clear hb1 hb0
      cases hres : chrP s.data.toList with
      | error y =>
        rw [hres] at hr1
        obtain ⟨rfl, hy⟩ := hr1
        have HE2 : Hid (numberR chrP d s.data.toList = .error y) := by show _ = _; rw [HE.out, hres]
        clear hres
        go_wp2
        go_ret3
        exact NumR.bad HE2 hy HB1.out
      | ok v =>
        rw [hres] at hr1
        obtain rfl := hr1
        have HE2 : Hid (numberR chrP d s.data.toList = .ok (v.1, v.2)) := by show _ = _; rw [HE.out, hres]
        clear hres
        go_wp2
        go_ret3
        exact NumR.good HE2 HB1.out
    · have d1 := u8_ne (n := 85) (k := 85) rfl h85
      by_cases h119 : d.c = 119
      · have d2 := u8_eq (n := 119) (k := 119) rfl h119
        have HE : Hid (numberR chrP d s.data.toList = sevT s.data.toList) := by show _ = _; rw [HNM.out, if_neg h85, if_pos h119]
        have C := fun W => t116 s W h1s hs
        clear hlt hk0 h85 h119
        go_enter Tryz.func94, Tryz.ntmps94
        go_wp2_with fail
        refine (C _).mono ?_
        generalize w.alloc (.cells #[.int .u8 d.c.toNat, .bool nb, .int .i64 (sizeC d.c), .bool d.great, .bool al, .int .i64 kk] 81) = W at *
        rintro e w1 ⟨hb1, hr1⟩
        have HB1 := Lib.hid (bThen hb0 hb1)
        clear hb1 hb0
        cases hres : sevT s.data.toList with
        | error y =>
          rw [hres] at hr1
          obtain ⟨rfl, hy⟩ := hr1
          have HE2 : Hid (numberR chrP d s.data.toList = .error y) := by show _ = _; rw [HE.out, hres]
          clear hres
          go_wp2
          go_ret3
          exact NumR.bad HE2 hy HB1.out
        | ok v =>
          rw [hres] at hr1
          obtain rfl := hr1
          have HE2 : Hid (numberR chrP d s.data.toList = .ok (v.1, v.2)) := by show _ = _; rw [HE.out, hres]
          clear hres
          go_wp2
          go_ret3
          exact NumR.good HE2 HB1.out
      · have d2 := u8_ne (n := 119) (k := 119) rfl h119
        have HE : Hid (numberR chrP d s.data.toList = match fixedR d (s.data.toList.take (sizeC d.c)) with | .error e => .error e | .ok v => .ok (v, sizeC d.c)) := by show _ = _; rw [HNM.out, if_neg h85, if_neg h119]
        obtain ⟨t, ht⟩ : ∃ t : ByteArray, s.extract 0 (sizeC d.c) = t := ⟨_, rfl⟩
        have htl : t.data.toList = s.data.toList.take (sizeC d.c) := by
          rw [← ht, ByteArray.data_extract, Array.toList_extract]; simp
        have htz : t.size = sizeC d.c := by rw [← ht]; simp; omega
        have hszf := size_fix hc h85 h119
        have C := fun W => t117 d.c nb d.great al (signC d.c) (sizeC d.c) kk t W (by rw [htz]; exact hszf) rfl
        rw [htl, ← fixedR_E] at C
        have HT := Lib.hid ht
        clear hlt h85 h119 ht htl htz hszf
        cases hres : fixedR d (s.data.toList.take (sizeC d.c)) with
        | error y =>
          rw [hres] at C
          obtain rfl := fixE_err (by rw [← fixedR_E]; exact hres)
          have HE2 : Hid (numberR chrP d s.data.toList = .error 5) := by show _ = _; rw [HE.out, hres]
          clear hres
          go_enter Tryz.func94, Tryz.ntmps94
          go_upto_region 7 with fail
          generalize w.alloc (.cells #[.int .u8 d.c.toNat, .bool nb, .int .i64 (sizeC d.c), .bool d.great, .bool al, .int .i64 kk] 81) = W at *
          have S0 := Lib.hid hk0.six
          have HB0 := Lib.hid hb0
          have hzz : s.extract 0 (sizeC d.c) = t := HT.out
          clear hk0 hb0
          go_region_held3 (fun w' => w'.cell? ⟨w.heap.size, 0, none⟩ = some (.int .u8 d.c.toNat) ∧ w'.cell? ⟨w.heap.size, 1, none⟩ = some (.bool nb) ∧ w'.cell? ⟨w.heap.size, 2, none⟩ = some (.int .i64 (sizeC d.c)) ∧ w'.cell? ⟨w.heap.size, 3, none⟩ = some (.bool d.great) ∧ w'.cell? ⟨w.heap.size, 4, none⟩ = some (.bool al) ∧ w'.cell? ⟨w.heap.size, 5, none⟩ = some (.int .i64 kk))
            (first
              | exact S0.out
              | exact S1.out
              | fail "nokeep")
            (first
              | (go_at_call 117; (with_reducible refine (C _).mono ?_); rintro e w1 ⟨⟨v, rfl⟩, hb1⟩; have HB1 := Lib.hid hb1; have S1 := Lib.hid (show w1.cell? ⟨w.heap.size, 0, none⟩ = some (.int .u8 d.c.toNat) ∧ w1.cell? ⟨w.heap.size, 1, none⟩ = some (.bool nb) ∧ w1.cell? ⟨w.heap.size, 2, none⟩ = some (.int .i64 (sizeC d.c)) ∧ w1.cell? ⟨w.heap.size, 3, none⟩ = some (.bool d.great) ∧ w1.cell? ⟨w.heap.size, 4, none⟩ = some (.bool al) ∧ w1.cell? ⟨w.heap.size, 5, none⟩ = some (.int .i64 kk) from ⟨below_cell hb1 S0.out.1, below_cell hb1 S0.out.2.1, below_cell hb1 S0.out.2.2.1, below_cell hb1 S0.out.2.2.2.1, below_cell hb1 S0.out.2.2.2.2.1, below_cell hb1 S0.out.2.2.2.2.2⟩); clear hb1)
              | fail "noarm")
          have HB2 : Hid (Below w.heap.size w w1) := (HB0.out.drew).trans ((show Below W.heap.size W.drew w1 from HB1.out).mono HB0.out.size)
          clear hzz
          go_wp2
          go_ret3
          exact NumR.bad HE2 (by decide) HB2.out
        | ok v =>
          rw [hres] at C
          have HE2 : Hid (numberR chrP d s.data.toList = .ok (v, sizeC d.c)) := by show _ = _; rw [HE.out, hres]
          clear hres
          go_enter Tryz.func94, Tryz.ntmps94
          go_upto_region 7 with fail
          generalize w.alloc (.cells #[.int .u8 d.c.toNat, .bool nb, .int .i64 (sizeC d.c), .bool d.great, .bool al, .int .i64 kk] 81) = W at *
          have S0 := Lib.hid hk0.six
          have HB0 := Lib.hid hb0
          have hzz : s.extract 0 (sizeC d.c) = t := HT.out
          clear hk0 hb0
          go_region_held3 (fun w' => w'.cell? ⟨w.heap.size, 0, none⟩ = some (.int .u8 d.c.toNat) ∧ w'.cell? ⟨w.heap.size, 1, none⟩ = some (.bool nb) ∧ w'.cell? ⟨w.heap.size, 2, none⟩ = some (.int .i64 (sizeC d.c)) ∧ w'.cell? ⟨w.heap.size, 3, none⟩ = some (.bool d.great) ∧ w'.cell? ⟨w.heap.size, 4, none⟩ = some (.bool al) ∧ w'.cell? ⟨w.heap.size, 5, none⟩ = some (.int .i64 kk))
            (first
              | exact S0.out
              | exact S1.out
              | fail "nokeep")
            (first
              | (go_at_call 117; (with_reducible refine (C _).mono ?_); rintro e w1 ⟨rfl, hb1⟩; have HB1 := Lib.hid hb1; have S1 := Lib.hid (show w1.cell? ⟨w.heap.size, 0, none⟩ = some (.int .u8 d.c.toNat) ∧ w1.cell? ⟨w.heap.size, 1, none⟩ = some (.bool nb) ∧ w1.cell? ⟨w.heap.size, 2, none⟩ = some (.int .i64 (sizeC d.c)) ∧ w1.cell? ⟨w.heap.size, 3, none⟩ = some (.bool d.great) ∧ w1.cell? ⟨w.heap.size, 4, none⟩ = some (.bool al) ∧ w1.cell? ⟨w.heap.size, 5, none⟩ = some (.int .i64 kk) from ⟨below_cell hb1 S0.out.1, below_cell hb1 S0.out.2.1, below_cell hb1 S0.out.2.2.1, below_cell hb1 S0.out.2.2.2.1, below_cell hb1 S0.out.2.2.2.2.1, below_cell hb1 S0.out.2.2.2.2.2⟩); clear hb1)
              | fail "noarm")
          have HB2 : Hid (Below w.heap.size w w1) := (HB0.out.drew).trans ((show Below W.heap.size W.drew w1 from HB1.out).mono HB0.out.size)
          obtain ⟨e0, e1, e2, e3, e4, e5⟩ := S1.out
          clear hzz
          go_wp2
          go_quiet (fail)
          go_wp2
          go_ret3
          exact NumR.good HE2 (below_drewN HB2.out _)
end Go.Proofs.YtmbnckmhngijdaaGreatDoor
