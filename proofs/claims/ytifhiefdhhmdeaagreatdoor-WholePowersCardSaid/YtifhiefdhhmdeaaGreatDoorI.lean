/- Contract of takeAway: one step of a long division. -/
import Derived.Test.YtifhiefdhhmdeaaGreatDoorG
import Derived.Test.YtifhiefdhhmdeaaGreatDoorH
import Derived.Test.YtifhiefdhhmdeaaGreatDoorF
namespace Go.Proofs.YtifhiefdhhmdeaaGreatDoor
open Go Go.RowKit

def TakeP (g n : Nat) (pre post : List Value) (L D : Nat) (w : World) (e : Ending) (w' : World) : Prop :=
  e = .returned (.int .u32 ((L / D : Nat) : Int)) ∧ Blk w' g 143 (pre ++ c32 (pads 4294967296 n (L % D)) ++ post) ∧ w.grownBy w' (some g)
theorem grown_trans {a b c : World} {r : Option Nat} (h : a.grownBy b r) (k : b.grownBy c r) : a.grownBy c r :=
  ⟨k.os.trans h.os, k.tape.trans h.tape, k.output.trans h.output, Nat.le_trans h.size k.size, fun j hj hne => (k.block j (Nat.lt_of_lt_of_le hj h.size) hne).trans (h.block j hj hne)⟩
theorem grown_drewN (w : World) (n : Nat) (r : Option Nat) : w.grownBy (w.drewN n) r :=
  ⟨rfl, rfl, rfl, Nat.le_refl _, fun _ _ _ => rfl⟩
theorem Src.grown {w w' : World} {g : Nat} {p : Option Addr} {bs : List Nat} (h : Src w g p bs) (hg : w.grownBy w' (some g)) : Src w' g p bs := by
  intro k x hx
  obtain ⟨gb, h1, h2, h3⟩ := h k x hx
  exact ⟨gb, h1, h2, hg.cell h3 (by simpa using h2)⟩
/-- the two top words of a window, and what is below them -/
theorem top_two (xs : List Nat) (m : Nat) (hx : ∀ d ∈ xs, d < 4294967296) (hn : xs.length = m + 2) : val 4294967296 xs < ((xs[m + 1]'(by omega)) * 4294967296 + (xs[m]'(by omega)) + 1) * 4294967296 ^ m := by
  rw [val_split 4294967296 xs m, val_drop 4294967296 xs m (by omega), val_drop 4294967296 xs (m + 1) (by omega), List.drop_of_length_le (by omega), val_nil]
  have h1 := val_take_lt (b := 4294967296) (by omega) xs hx m
  have h2 : ∀ P a b : Nat, (a * 4294967296 + b + 1) * P = P * (b + 4294967296 * (a + 4294967296 * 0)) + P := fun P a b => by grind
  rw [h2]; omega
theorem top_one (D m : Nat) (hm : (dgs 4294967296 D).length = m + 1) : ((dgs 4294967296 D)[m]'(by omega)) * 4294967296 ^ m ≤ D ∧ 0 < ((dgs 4294967296 D)[m]'(by omega)) := by
  refine ⟨?_, Nat.pos_of_ne_zero (dgs_last (by omega) m hm)⟩
  have h1 := val_dgs (b := 4294967296) (by omega) D
  rw [val_split 4294967296 _ m, val_drop 4294967296 _ m (by omega), List.drop_of_length_le (by omega), val_nil] at h1
  have h2 : ∀ P a : Nat, P * (a + 4294967296 * 0) = a * P := fun P a => by grind
  rw [h2] at h1
  omega
/-- one time less -/
theorem once_less {P L D f : Nat} (hf : 0 < f) (h : L < f * D) (hF : f * D < P) :
    (decide (P ≤ (L + P - f * D) % P + D) = !decide (L < (f - 1) * D)) ∧ ((L + P - f * D) % P + D) % P = (L + P - (f - 1) * D) % P := by
  obtain ⟨e, rfl⟩ : ∃ e, f = e + 1 := ⟨f - 1, by omega⟩
  rw [Nat.add_sub_cancel]
  have h1 : (e + 1) * D = e * D + D := by rw [Nat.add_mul, Nat.one_mul]
  rw [h1] at h hF ⊢
  rw [Nat.mod_eq_of_lt (by omega : L + P - (e * D + D) < P)]
  constructor
  · rw [Bool.eq_iff_iff]; simp; omega
  · congr 1; omega

theorem Blk.drewN {w : World} {g : Nat} {e : TypeId} {cs : List Value} (h : Blk w g e cs) (n : Nat) : Blk (w.drewN n) g e cs := h
theorem rais_any (g off n cap : Nat) (pre post : List Value) (X B : Nat) (q : Option Addr) (cb : Nat) (w : World) (hpre : pre.length = off) (hc : n ≤ 9223372036854775807) (hle : Lw B ≤ n) (hX : X < 4294967296 ^ n) (hB : Blk w g 143 (pre ++ c32 (pads 4294967296 n X) ++ post)) (hS : Src w g q (dgs 4294967296 B)) :
    Calls Tryz.prog 160 #[.slice (some ⟨g, off, none⟩) n cap, .slice q (Lw B) cb] w fun e w' => e = .returned (.bool (decide (4294967296 ^ n ≤ X + B))) ∧ Blk w' g 143 (pre ++ c32 (pads 4294967296 n ((X + B) % 4294967296 ^ n)) ++ post) ∧ w.grownBy w' (some g) := by
  have h := t160 g off n cap pre post (pads 4294967296 n X) (dgs 4294967296 B) q cb w hpre (by simp) hc hle (pads_lt (by omega) _ _) (dgs32_lt B) hB hS
  rw [val_pads_of_lt (by omega) hX, val_dgs (by omega)] at h
  exact h
theorem low_any (g off n cap : Nat) (pre post : List Value) (xs : List Nat) (B f : Nat) (F : Int) (hz : F = (f : Int)) (q : Option Addr) (cb : Nat) (w : World) (hpre : pre.length = off) (hn : xs.length = n) (hc : n ≤ 9223372036854775807) (hle : Lw B + 1 ≤ n) (hd : ∀ d ∈ xs, d < 4294967296) (hf : f < 4294967296) (hB : Blk w g 143 (pre ++ c32 xs ++ post)) (hS : Src w g q (dgs 4294967296 B)) :
    Calls Tryz.prog 163 #[.slice (some ⟨g, off, none⟩) n cap, .slice q (Lw B) cb, .int .u32 F] w (LowerP g n pre post (val 4294967296 xs) (f * B) w) := by
  subst hz
  have h := t163 g off n cap f pre post xs (dgs 4294967296 B) q cb w hpre hn hc (by have : (dgs 4294967296 B).length = Lw B := rfl; omega) hf (by
    rw [val_dgs (by omega)]
    have h1 := lt_Lw B
    have h2 : f * B < 4294967296 * 4294967296 ^ Lw B := Nat.mul_lt_mul'' hf h1
    have h3 : 4294967296 ^ (Lw B + 1) ≤ 4294967296 ^ n := Nat.pow_le_pow_right (by omega) hle
    rw [Nat.pow_succ, Nat.mul_comm] at h3
    omega) hd (dgs32_lt B) hB hS
  rw [val_dgs (by omega)] at h
  exact h

set_option maxRecDepth 100000 in
set_option maxHeartbeats 4000000 in
theorem t165 (g off m cap : Nat) (pre post : List Value) (xs : List Nat) (D : Nat) (q : Option Addr) (cb : Nat) (w : World) (hpre : pre.length = off) (hn : xs.length = m + 2) (hc : m ≤ 2000000) (hDl : Lw D = m + 1) (hL : val 4294967296 xs < D * 4294967296)
    (hd : ∀ d ∈ xs, d < 4294967296) (hB : Blk w g 143 (pre ++ c32 xs ++ post)) (hS : Src w g q (dgs 4294967296 D)) :
    Calls Tryz.prog 165 #[.slice (some ⟨g, off, none⟩) (m + 2) cap, .slice q (m + 1) cb] w (TakeP g (m + 2) pre post (val 4294967296 xs) D w) := by
  have hDd : (dgs 4294967296 D).length = m + 1 := hDl
  have hDp : 0 < D := by
    rcases Nat.eq_zero_or_pos D with h | h
    · subst h; simp at hDd
    · exact h
  have hcell : ∀ k : Nat, (hk : k < xs.length) → w.cell? ⟨g, off + k, none⟩ = some (.int .u32 (xs[k]'hk : Nat)) := fun k hk => by
    have := hB.cell (pre.length + k) (win_get pre post xs k hk)
    rw [hpre] at this; exact this
  have hc1 := hcell (m + 1) (by omega)
  have hc0 := hcell m (by omega)
  obtain ⟨gb, rfl, hne, hcb⟩ := hS m _ (List.getElem?_eq_getElem (by omega : m < (dgs 4294967296 D).length))
  have hlt := val_lt xs hd
  rw [hn] at hlt
  have hDlt : D < 4294967296 ^ (m + 1) := by rw [← Lw_le]; omega
  have hguess := guess_ge (val 4294967296 xs) D (4294967296 ^ m) (xs[m + 1]'(by omega)) (xs[m]'(by omega)) ((dgs 4294967296 D)[m]'(by omega)) (top_one D m hDd).2 (top_two xs m hd hn) (top_one D m hDd).1
  have hqlt : val 4294967296 xs / D < 4294967296 := by rw [Nat.div_lt_iff_lt_mul hDp, Nat.mul_comm]; exact hL
  have hl1 := hd _ (List.getElem_mem (by omega : m + 1 < xs.length))
  have hl0 := hd _ (List.getElem_mem (by omega : m < xs.length))
  have hdp := (top_one D m hDd).2
  have hdl := dgs32_lt D _ (List.getElem_mem (by omega : m < (dgs 4294967296 D).length))
  generalize xs[m + 1]'(by omega) = hi at hc1 hl1 hguess
  generalize xs[m]'(by omega) = lo at hc0 hl0 hguess
  generalize (dgs 4294967296 D)[m]'(by omega) = dt at hcb hguess hdp hdl
  have HB := Lib.hid hB
  have HS := Lib.hid hS
  have HN := Lib.hid hn
  have HD := Lib.hid hd
  have HP := Lib.hid hpre
  have HDD := Lib.hid hDd
  have HDL := Lib.hid hDl
  have hor := or_hi hi lo hl1 hl0
  clear hcell hB hS hn hd hpre hDd hDl
  have hi0 : (0 : Int) ≤ m := by omega
  have hm0 : (m : Int) < m + 2 := by omega
  have hm1 : (m : Int) + 1 < m + 2 := by omega
  have hm2 : (m : Int) < m + 1 := by omega
  have hG : ((hi : Int) * 4294967296 + lo) / dt = (((hi * 4294967296 + lo) / dt : Nat) : Int) := by rw [Int.natCast_ediv, hi_cast]
  have hsplit : ∃ (f : Nat) (F : Int), Hid (F = f) ∧ val 4294967296 xs / D ≤ f ∧ f < 4294967296 ∧ ((4294967295 < ((hi : Int) * 4294967296 + lo) / dt ∧ F = 4294967295) ∨ (((hi : Int) * 4294967296 + lo) / dt ≤ 4294967295 ∧ 0 ≤ ((hi : Int) * 4294967296 + lo) / dt ∧ F = ((hi : Int) * 4294967296 + lo) / dt)) := by
    rw [hG]
    rcases Nat.lt_or_ge 4294967295 ((hi * 4294967296 + lo) / dt) with h | h
    · exact ⟨4294967295, 4294967295, rfl, by omega, by omega, .inl ⟨Int.ofNat_lt.2 h, rfl⟩⟩
    · exact ⟨_, _, rfl, hguess, by omega, .inr ⟨Int.ofNat_le.2 h, Int.natCast_nonneg _, rfl⟩⟩
  clear hG hguess
  have C3 := Lib.hid (fun W X (hX : X < 4294967296 ^ (m + 2)) (hb : Blk W g 143 (pre ++ c32 (pads 4294967296 (m + 2) X) ++ post)) hS => HDL.out ▸ rais_any g off (m + 2) cap pre post X D (some ⟨gb, 0, none⟩) cb W HP.out (by omega) (by rw [Lw]; rw [HDD.out]; omega) hX hb hS)
  have C2 := Lib.hid (fun W f Fz hz hf (hb : Blk W g 143 (pre ++ c32 xs ++ post)) hS => HDL.out ▸ low_any g off (m + 2) cap pre post xs D f Fz hz (some ⟨gb, 0, none⟩) cb W HP.out HN.out (by omega) (by rw [Lw]; rw [HDD.out]; omega) HD.out hf hb hS)
  obtain ⟨f, F, hF, hqf, hf, (⟨hg, rfl⟩ | ⟨hg, hg0, rfl⟩)⟩ := hsplit
  all_goals
    go_enter Tryz.func165, Tryz.ntmps165
    go_wp2
    go_quiet (fail)
    go_wp2_with fail
    refine (C2.out _ f _ hF.out hf (Blk.drewN HB.out nq) (Src.grown HS.out (grown_drewN w nq _))).mono ?_
    rintro e w3 ⟨rfl, hb3, hg3⟩
    have hgr3 := grown_trans (grown_drewN w nq (some g)) hg3
    have HB3 := Lib.hid hb3
    clear hb3
    go_wp2_with fail
    have hF2 := hF.out
    go_loopw [8, 7] (fun t o wr => ∃ (b : Bool) (k : Nat), t = .bool b ∧ o = .int .u64 k ∧ k < 4294967296 ∧ val 4294967296 xs / D ≤ k ∧ Hid (b = decide (val 4294967296 xs < k * D)) ∧ Hid (Blk wr g 143 (pre ++ c32 (pads 4294967296 (m + 2) ((val 4294967296 xs + 4294967296 ^ (m + 2) - k * D) % 4294967296 ^ (m + 2))) ++ post)) ∧ w.grownBy wr (some g)) (fun _ o _ => (intOf o).toNat)
    case atStart => exact ⟨_, f, rfl, congrArg (Value.int .u64) hF2, hf, hqf, rfl, HB3, hgr3⟩
    case round =>
      clear hF2
      obtain ⟨b, k, rfl, rfl, hk, hqk, hb, hblk, hgr⟩ := hrel
      have hkD : k * D < 4294967296 ^ (m + 2) := by
        have h2 : k * D < 4294967296 * 4294967296 ^ (m + 1) := Nat.mul_lt_mul'' hk hDlt
        rw [Nat.pow_succ 4294967296 (m + 1), Nat.mul_comm (4294967296 ^ (m + 1))]
        exact h2
      cases b with
      | true =>
        have hlt2 : val 4294967296 xs < k * D := of_decide_eq_true hb.out.symm
        have hk0 : 0 < k := by
          rcases Nat.eq_zero_or_pos k with h | h
          · subst h; omega
          · exact h
        have ho := once_less hk0 hlt2 hkD
        have hmod : (val 4294967296 xs + 4294967296 ^ (m + 2) - k * D) % 4294967296 ^ (m + 2) < 4294967296 ^ (m + 2) := Nat.mod_lt _ (Nat.pow_pos (by omega))
        have hqk1 : val 4294967296 xs / D ≤ k - 1 := by
          have : val 4294967296 xs / D < k := by rw [Nat.div_lt_iff_lt_mul hDp]; exact hlt2
          omega
        have c := C3.out wr _ hmod hblk.out (Src.grown HS.out hgr)
        rw [ho.1, ho.2] at c
        have CC := Lib.hid c
        have hk1 : (1 : Int) ≤ k := by omega
        clear ho hmod hlt2 hkD c
        go_wp2_with fail
        refine CC.out.mono ?_
        rintro e w4 ⟨rfl, hb4, hg4⟩
        have HB4 := Lib.hid hb4
        clear hb4
        go_wp2_with fail
        go_roundw
        case rel => exact ⟨_, k - 1, rfl, congrArg (Value.int .u64) (by omega), by omega, hqk1, rfl, HB4, grown_trans hgr hg4⟩
        case measure => first | (simp [intOf]; omega) | simp [intOf]
      | false =>
        have hge : ¬ (val 4294967296 xs < k * D) := of_decide_eq_false hb.out.symm
        have hkq : k = val 4294967296 xs / D := by
          have : k ≤ val 4294967296 xs / D := by rw [Nat.le_div_iff_mul_le hDp]; omega
          omega
        have hmd : (val 4294967296 xs + 4294967296 ^ (m + 2) - k * D) % 4294967296 ^ (m + 2) = val 4294967296 xs % D := by
          have h1 := Nat.div_add_mod (val 4294967296 xs) D
          rw [← hkq, Nat.mul_comm] at h1
          have h2 : val 4294967296 xs + 4294967296 ^ (m + 2) - k * D = val 4294967296 xs % D + 4294967296 ^ (m + 2) := by omega
          rw [h2, Nat.add_mod_right, Nat.mod_eq_of_lt (by omega)]
        rw [hmd] at hblk
        have HK := Lib.hid hkq
        clear hge hkq hmd hkD
        go_wp2_with fail
        go_ret
        exact ⟨by rw [← HK.out]; rfl, hblk.out, hgr⟩
end Go.Proofs.YtifhiefdhhmdeaaGreatDoor
