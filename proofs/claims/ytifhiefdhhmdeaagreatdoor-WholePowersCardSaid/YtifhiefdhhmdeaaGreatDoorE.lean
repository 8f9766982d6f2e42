/- Contracts of lower and of minus. -/
import Derived.Test.YtifhiefdhhmdeaaGreatDoorD
namespace Go.Proofs.YtifhiefdhhmdeaaGreatDoor
open Go Go.RowKit

theorem t186z (x : Nat) (y : Int) (c : Nat) (w : World) (hx : x < 4294967296) (h0 : 0 ≤ y) (hy : y < 4294967296) (hc : c ≤ 1) :
    Calls Tryz.prog 186 #[.int .u32 x, .int .u32 y, .int .u32 c] w fun e w' => e = .returned (.tuple #[.int .u32 (((x + 4294967296 - (y.toNat + c)) % 4294967296 : Nat) : Int), .int .u32 ((brw x y.toNat c : Nat) : Int)]) ∧ w = w' := by
  obtain ⟨n, rfl⟩ := Int.eq_ofNat_of_zero_le h0
  exact t186 x n c w hx (by omega) hc
theorem brw_eq (x y c : Nat) (hx : x < 4294967296) (hy : y < 4294967296) (hc : c ≤ 1) : x + brw x y c * 4294967296 = (x + 4294967296 - (y + c)) % 4294967296 + y + c := by
  unfold brw; split <;> omega
theorem lower_out {P X K r Y F : Nat} (h : X + (K + r) * P = Y + F) (hY : Y < P) (_hX : X < P) (hF : F < P) (hK : K * P ≤ F) : K = 0 ∧ Y = (X + P - F) % P ∧ (r = 1 ↔ X < F) ∧ r ≤ 1 := by
  have hK0 : K = 0 := by
    rcases Nat.eq_zero_or_pos K with h0 | h0
    · exact h0
    · have : 1 * P ≤ K * P := Nat.mul_le_mul_right _ h0
      omega
  subst hK0
  rw [Nat.zero_add] at h
  have hr : r ≤ 1 := by
    rcases Nat.lt_or_ge r 2 with h0 | h0
    · omega
    · have : 2 * P ≤ r * P := Nat.mul_le_mul_right _ h0
      omega
  have : r = 0 ∨ r = 1 := by omega
  rcases this with rfl | rfl
  · refine ⟨rfl, ?_, by omega, by omega⟩
    have : X + P - F = Y + P := by omega
    rw [this, Nat.add_mod_right, Nat.mod_eq_of_lt hY]
  · refine ⟨rfl, ?_, by omega, by omega⟩
    have : X + P - F = Y := by omega
    rw [this, Nat.mod_eq_of_lt hY]
def LowerP (g n : Nat) (pre post : List Value) (X F : Nat) (w : World) (e : Ending) (w' : World) : Prop :=
  e = .returned (.bool (decide (X < F))) ∧ Blk w' g 143 (pre ++ c32 (pads 4294967296 n ((X + 4294967296 ^ n - F) % 4294967296 ^ n)) ++ post) ∧ w.grownBy w' (some g)

set_option maxRecDepth 100000 in
set_option maxHeartbeats 1000000 in
theorem t163 (g off n cap f : Nat) (pre post : List Value) (xs bs : List Nat) (p : Option Addr) (capb : Nat) (w : World) (hpre : pre.length = off) (hn : xs.length = n) (hc : n ≤ 9223372036854775807) (hbl : bs.length ≤ n) (hf : f < 4294967296)
    (hF : f * val 4294967296 bs < 4294967296 ^ n)
    (hd : ∀ d ∈ xs, d < 4294967296) (hdb : ∀ d ∈ bs, d < 4294967296) (hB : Blk w g 143 (pre ++ c32 xs ++ post)) (hS : Src w g p bs) :
    Calls Tryz.prog 163 #[.slice (some ⟨g, off, none⟩) n cap, .slice p bs.length capb, .int .u32 f] w (LowerP g n pre post (val 4294967296 xs) (f * val 4294967296 bs) w) := by
  have HB := Lib.hid hB
  have HS := Lib.hid hS
  have HP := Lib.hid hpre
  have HN := Lib.hid hn
  have HD := Lib.hid hd
  have HDB := Lib.hid hdb
  have HF := Lib.hid hF
  clear hB hS hpre hn hd hdb hF
  go_enter Tryz.func163, Tryz.ntmps163
  go_wp2
  go_loopw [12, 7, 8] (fun i c r wr => ∃ (k K rv : Nat) (ys : List Nat), k ≤ n ∧ i = .int .i64 k ∧ c = .int .u64 K ∧ r = .int .u32 rv ∧ K < 4294967296 ∧ rv ≤ 1 ∧ Hid (ys.length = n) ∧ Hid (∀ d ∈ ys, d < 4294967296) ∧ Hid (val 4294967296 xs + (K + rv) * 4294967296 ^ k = val 4294967296 ys + f * val 4294967296 (bs.take k)) ∧ Hid (K * 4294967296 ^ k ≤ f * val 4294967296 (bs.take k)) ∧ Hid (Blk wr g 143 (pre ++ c32 ys ++ post)) ∧ w.grownBy wr (some g)) (fun i _ _ _ => n - (intOf i).toNat)
  case atStart => exact ⟨0, 0, 0, xs, by omega, rfl, rfl, rfl, by omega, by omega, HN, HD, by show _ = _; simp, by show _ ≤ _; simp, HB, grown_refl _ _⟩
  case round =>
    obtain ⟨k, K, rv, ys, hk, rfl, rfl, rfl, hK, hrv, hyl, hyd, hyv, hyK, hyb, hgr⟩ := hrel
    by_cases hlt : k < n
    · have hy : k < ys.length := by rw [hyl.out]; exact hlt
      have hcell : wr.cell? ⟨g, off + k, none⟩ = some (.int .u32 ys[k]) := by
        have := hyb.out.cell (pre.length + k) (win_get pre post ys k hy)
        rw [HP.out] at this; exact this
      have hfree : wr.frozen? ⟨g, off + k, none⟩ = false := hyb.out.free _
      have hyk := hyd.out ys[k] (List.getElem_mem hy)
      have hset : ∀ y : Nat, Blk (wr.setCell ⟨g, off + k, none⟩ (.int .u32 y)) g 143 (pre ++ c32 (ys.set k y) ++ post) := fun y => by
        have := hyb.out.set (off + k) (.int .u32 y)
        rw [← HP.out, win_set pre post ys k y hy] at this
        rw [← HP.out]; exact this
      have HSET := Lib.hid hset
      have hstep := fun y r' => lower_step (b := 4294967296) ys bs k K rv f _ y r' hy hyv.out
      have hbnd := lower_bound (b := 4294967296) bs k K f hyK.out
      by_cases hbk : k < bs.length
      · obtain ⟨gb, rfl, hne, hcb⟩ := HS.out k bs[k] (List.getElem?_eq_getElem hbk)
        have hcb' : wr.cell? ⟨gb, k, none⟩ = some (.int .u32 bs[k]) := hgr.cell hcb (by simpa using hne)
        have hg : bs.getD k 0 = bs[k] := by simp [List.getD_eq_getElem?_getD, hbk]
        have hbd := HDB.out bs[k] (List.getElem_mem hbk)
        rw [hg] at hstep hbnd
        generalize hxv : ys[k] = x at hcell hyk hstep
        generalize hbv : bs[k] = d at hcb hcb' hbd hstep hbnd
        have hm1 : d * f ≤ 18446744065119617025 := Nat.le_trans (Nat.mul_le_mul (show d ≤ 4294967295 by omega) (show f ≤ 4294967295 by omega)) (by decide)
        have hz0 : (0 : Int) ≤ (d : Int) * (f : Int) := Int.mul_nonneg (by omega) (by omega)
        have hz1 : (d : Int) * (f : Int) ≤ 18446744065119617025 := by have h := Int.ofNat_le.2 hm1; rw [Int.natCast_mul] at h; omega
        have hz2 : (K : Int) + (d : Int) * (f : Int) ≤ 18446744073709551615 := by omega
        have hz3 : (0 : Int) ≤ (K : Int) + (d : Int) * (f : Int) := by omega
        have hcast : ((K : Int) + (d : Int) * (f : Int)) = ((K + d * f : Nat) : Int) := by push_cast; rfl
        have hq : (K + d * f) / 4294967296 < 4294967296 := by omega
        have HST := Lib.hid hstep
        have HBN := Lib.hid hbnd
        have HC := Lib.hid hcast
        have c := t186z x (((K : Int) + (d : Int) * (f : Int)) % 4294967296) rv wr hyk (by omega) (by omega) hrv
        have HCT : Hid ((((K : Int) + (d : Int) * (f : Int)) % 4294967296).toNat = (K + d * f) % 4294967296) := by show _ = _; rw [hcast]; omega
        have HBR := Lib.hid (brw_eq x ((K + d * f) % 4294967296) rv hyk (by omega) hrv)
        have hble := brw_le x ((K + d * f) % 4294967296) rv
        rw [HCT.out] at c
        generalize brw x ((K + d * f) % 4294967296) rv = r' at *
        clear hstep hbnd hset hxv hbv hcb hg hcast
        go_wp2_with (go_at_call 186; (with_reducible refine c.mono ?_); rintro e w' ⟨rfl, rfl⟩)
        go_roundw
        case rel => exact ⟨k + 1, (K + d * f) / 4294967296, r', ys.set k ((x + 4294967296 - ((K + d * f) % 4294967296 + rv)) % 4294967296), by omega, by go_num, by rw [HC.out]; rfl, rfl, hq, hble, by show _ = _; rw [List.length_set]; exact hyl.out, set_lt ys hyd.out _ _ (by omega), HST.out _ _ (by have := HBR.out; omega), HBN.out, HSET.out _, grown_set hgr _ _⟩
        case measure => simp [intOf]; omega
      · have hg : bs.getD k 0 = 0 := by simp [List.getD_eq_getElem?_getD, Nat.not_lt.1 hbk]
        rw [hg] at hstep hbnd
        simp only [Nat.zero_mul, Nat.add_zero] at hstep hbnd
        generalize hxv : ys[k] = x at hcell hyk hstep
        have HST := Lib.hid hstep
        have HBN := Lib.hid hbnd
        have c := t186 x K rv wr hyk hK hrv
        have HBR := Lib.hid (brw_eq x K rv hyk hK hrv)
        have hble := brw_le x K rv
        generalize brw x K rv = r' at *
        clear hstep hbnd hset hxv hg
        go_wp2_with (go_at_call 186; (with_reducible refine c.mono ?_); rintro e w' ⟨rfl, rfl⟩)
        go_roundw
        case rel => exact ⟨k + 1, K / 4294967296, r', ys.set k ((x + 4294967296 - (K + rv)) % 4294967296), by omega, by go_num, by go_num, rfl, by omega, hble, by show _ = _; rw [List.length_set]; exact hyl.out, set_lt ys hyd.out _ _ (by omega), HST.out _ _ (by have := HBR.out; rw [Nat.mod_eq_of_lt hK]; omega), HBN.out, HSET.out _, grown_set hgr _ _⟩
        case measure => simp [intOf]; omega
    · obtain rfl : k = n := by omega
      have hX : val 4294967296 ys < 4294967296 ^ k := by have := val_lt ys hyd.out; rwa [hyl.out] at this
      have hX2 : val 4294967296 xs < 4294967296 ^ k := by have := val_lt xs HD.out; rwa [HN.out] at this
      have hv := hyv.out
      have hv2 := hyK.out
      rw [List.take_of_length_le (by omega)] at hv hv2
      obtain ⟨hK0, hY, hr, hr1⟩ := lower_out hv hX hX2 HF.out hv2
      have hpd := pads_eq (b := 4294967296) (by omega) hyd.out hyl.out hY
      have hb2 := hyb.out
      rw [hpd] at hb2
      have H1 := Lib.hid hb2
      have H2 := Lib.hid hr
      clear hv hv2 hX hX2 hY hpd hb2 hK0 hr
      by_cases h1 : rv = 1
      · subst h1
        go_wp2
        go_ret
        exact ⟨by have := H2.out.1 (by first | rfl | trivial); simp [this], H1.out, hgr⟩
      · obtain rfl : rv = 0 := by omega
        go_wp2
        go_ret
        refine ⟨?_, H1.out, hgr⟩
        have : ¬ (val 4294967296 xs < f * val 4294967296 bs) := fun h => by have := H2.out.2 h; omega
        simp [this]

/-- the whole block -/
theorem t163f (g n cap X B f : Nat) (q : Option Addr) (cb : Nat) (w : World) (hc : n ≤ 9223372036854775807) (hX : X < 4294967296 ^ n) (hle : Lw B ≤ n) (hf : f < 4294967296) (hF : f * B < 4294967296 ^ n) (hB : Blk w g 143 (c32 (pads 4294967296 n X))) (hS : Src w g q (dgs 4294967296 B)) :
    Calls Tryz.prog 163 #[.slice (some ⟨g, 0, none⟩) n cap, .slice q (Lw B) cb, .int .u32 f] w fun e w' => e = .returned (.bool (decide (X < f * B))) ∧ Blk w' g 143 (c32 (pads 4294967296 n ((X + 4294967296 ^ n - f * B) % 4294967296 ^ n))) ∧ w.grownBy w' (some g) := by
  have h := t163 g 0 n cap f [] [] (pads 4294967296 n X) (dgs 4294967296 B) q cb w rfl (by simp) hc hle hf (by rw [val_dgs (by omega)]; exact hF) (pads_lt (by omega) _ _) (dgs32_lt B) (by simpa using hB) hS
  rw [val_pads_of_lt (by omega) hX, val_dgs (by omega)] at h
  refine h.mono ?_
  rintro e w' ⟨h1, h2, h3⟩
  exact ⟨h1, by simpa using h2, h3⟩

set_option maxRecDepth 100000 in
set_option maxHeartbeats 1000000 in
theorem t139s (p q : Option Addr) (ca cb A B : Nat) (w : World) (hl : Lw A ≤ 1000000) (hle : B ≤ A) (hA : ∀ (w' : World) (g : Nat), Below w.heap.size w w' → w.heap.size ≤ g → Src w' g p (dgs 4294967296 A)) (hB : ∀ (w' : World) (g : Nat), Below w.heap.size w w' → w.heap.size ≤ g → Src w' g q (dgs 4294967296 B)) :
    Calls Tryz.prog 139 #[.slice p (Lw A) ca, .slice q (Lw B) cb] w (NatR (A - B) w) := by
  have HA := Lib.hid hA
  have HB := Lib.hid hB
  have HAL : Hid ((dgs 4294967296 A).length = Lw A) := rfl
  have hlt : Hid (A < 4294967296 ^ Lw A) := lt_Lw A
  have hlt2 : Hid (A - B < 4294967296 ^ Lw A) := by have := hlt.out; show _ < _; omega
  have hlw := Lw_mono hle
  have HM : Hid ((A + 4294967296 ^ Lw A - 1 * B) % 4294967296 ^ Lw A = A - B) := by
    show _ = _
    have e : ∀ P : Nat, A + P - 1 * B = (A - B) + P := fun P => by omega
    rw [e, Nat.add_mod_right, Nat.mod_eq_of_lt hlt2.out]
  have c1 := fun W g hb hs => t163f g (Lw A) (Lw A) A B 1 q cb W (by omega) hlt.out hlw (by omega) (by have := hlt.out; omega) hb hs
  have c2 := fun W g hb => t161f g (Lw A) (A - B) W (by unfold maxLen; omega) hlt2.out hb
  have C1 := Lib.hid c1
  have C2 := Lib.hid c2
  have C3 := Lib.hid (fun (W : World) hb hw => @natR_mk w W (Lw A) (A - B) hb (by unfold maxLen; omega) hlt2.out hw)
  have HP : Hid (dgs 4294967296 A ++ List.replicate 0 0 = pads 4294967296 (Lw A) A) := pads_copy rfl
  clear hA hB c1 c2 hlt hlt2
  generalize Lw A = x at *
  generalize Lw B = y at *
  go_enter Tryz.func139, Tryz.ntmps139
  go_wp2_with (first | (at_make; refine mk32 _ rfl _ _ rfl _ _ x rfl rfl (by omega) (by omega) (by omega) ?_; intro w1 hb1 hbl1) | (with_reducible refine cp32 rfl _ _ 64 65 rfl Tryz.underlying64 w.heap.size x x ca p (List.replicate x 0) (dgs 4294967296 A) x rfl rfl HAL.out hb1.out (by simp) (by rw [HAL.out]; omega) (HA.out _ _ hbl1 (Nat.le_refl _)) w.heap.size w hbl1 (Nat.le_refl _) ?_; intro w2 hb2 hbl2))
  have hb2' : Hid (Blk w2 w.heap.size 143 (c32 (pads 4294967296 x A))) := by
    have := hb2.out
    rw [HAL.out, List.drop_replicate, Nat.sub_self, HP.out] at this
    exact this
  refine (C1.out w2 w.heap.size hb2'.out (HB.out _ _ hbl2 (Nat.le_refl _))).mono ?_
  rintro e w3 ⟨rfl, hb3, hg3⟩
  have hbl3 : Below w.heap.size w w3 := below_grown hbl2 hg3 hbl2.size (Nat.le_refl _)
  rw [HM.out] at hb3
  have hb3' := Lib.hid hb3
  clear hb3
  go_wp2_with fail
  refine (C2.out w3 w.heap.size hb3'.out).mono ?_
  rintro e w4 ⟨rfl, rfl⟩
  go_wp2_with fail
  go_ret
  exact C3.out _ hb3'.out hbl3
theorem t139 (va vb : Value) (A B : Nat) (w : World) (hA : Nt w va A) (hB : Nt w vb B) (hl : Lw A ≤ 1000000) (hle : B ≤ A) :
    Calls Tryz.prog 139 #[va, vb] w (NatR (A - B) w) := by
  obtain ⟨p, ca, rfl, _, _, h1⟩ := hA.later
  obtain ⟨q, cb, rfl, _, _, h2⟩ := hB.later
  exact t139s p q ca cb A B w hl hle h1 h2
end Go.Proofs.YtifhiefdhhmdeaaGreatDoor
