/- Contracts of compare, overWord, times. -/
import Derived.Test.YtifhiefdhhmdeaaGreatDoorE
namespace Go.Proofs.YtifhiefdhhmdeaaGreatDoor
open Go Go.RowKit

/-- from the top down to i the digits are the same -/
theorem cmp_step (l m : List Nat) (i : Nat) (hi : i < l.length) (hi' : i < m.length) (hd : l.drop (i + 1) = m.drop (i + 1)) (h : l[i] = m[i]) : l.drop i = m.drop i := by
  rw [List.drop_eq_getElem_cons hi, List.drop_eq_getElem_cons hi', hd, h]

theorem t162_q (x y : Nat) (w : World) : Calls Tryz.prog 162 #[.int .u32 x, .int .u32 y] w fun e w' => e = .returned (.int .i64 (cmpN x y)) ∧ w' = w :=
  (t162 x y w).mono fun _ _ ⟨h1, h2⟩ => ⟨h1, h2.symm⟩

set_option maxRecDepth 100000 in
set_option maxHeartbeats 1000000 in
theorem t138s (p q : Option Addr) (ca cb A B : Nat) (w : World) (hl : Lw A ≤ 1000000000000) (_hl' : Lw B ≤ 1000000000000) (hA : ∀ (k x : Nat), (dgs 4294967296 A)[k]? = some x → ∃ g, p = some ⟨g, 0, none⟩ ∧ w.cell? ⟨g, k, none⟩ = some (.int .u32 x)) (hB : ∀ (k x : Nat), (dgs 4294967296 B)[k]? = some x → ∃ g, q = some ⟨g, 0, none⟩ ∧ w.cell? ⟨g, k, none⟩ = some (.int .u32 x)) :
    Calls Tryz.prog 138 #[.slice p (Lw A) ca, .slice q (Lw B) cb] w fun e w' => e = .returned (.int .i64 (cmpN A B)) ∧ ∃ n, w' = w.drewN n := by
  have HA := Lib.hid hA
  have HB := Lib.hid hB
  clear hA hB
  have c0 := t142 (Lw A) (Lw B) w
  by_cases hne : Lw A = Lw B
  · have hc0 : cmpN (Lw A) (Lw B) = 0 := cmpN_eq hne
    rw [hc0] at c0
    have HAL : Hid ((dgs 4294967296 A).length = Lw A) := rfl
    have HBL : Hid ((dgs 4294967296 B).length = Lw A) := hne.symm
    rw [← hne] at c0 ⊢
    clear hne hc0
    generalize Lw A = x at *
    go_enter Tryz.func138, Tryz.ntmps138
    go_wp2_with (go_at_call 142; (with_reducible refine c0.mono ?_); rintro e w' ⟨rfl, rfl⟩)
    go_loopw [6] (fun i wr => ∃ k : Nat, k ≤ x ∧ i = .int .i64 ((k : Int) - 1) ∧ Hid ((dgs 4294967296 A).drop k = (dgs 4294967296 B).drop k) ∧ ∃ n, Hid (wr = w.drewN n)) (fun i _ => (intOf i + 1).toNat)
    case atStart => exact ⟨x, Nat.le_refl _, rfl, by show _ = _; rw [List.drop_of_length_le (by rw [HAL.out]; omega), List.drop_of_length_le (by rw [HBL.out]; omega)], 0, rfl⟩
    case round =>
      obtain ⟨k, hk, rfl, hd, n, hw⟩ := hrel
      by_cases h0 : k = 0
      · subst h0
        have heq : A = B := dgs_inj (b := 4294967296) (by omega) (by simpa using hd.out)
        have HC := Lib.hid (cmpN_eq heq)
        clear heq
        go_wp2
        go_ret
        exact ⟨by rw [HC.out]; rfl, n, hw.out⟩
      · obtain ⟨j, rfl⟩ : ∃ j, k = j + 1 := ⟨k - 1, by omega⟩
        have hja : j < (dgs 4294967296 A).length := by rw [HAL.out]; omega
        have hjb : j < (dgs 4294967296 B).length := by rw [HBL.out]; omega
        obtain ⟨ga, rfl, hca⟩ := HA.out j _ (List.getElem?_eq_getElem hja)
        obtain ⟨gb, rfl, hcb⟩ := HB.out j _ (List.getElem?_eq_getElem hjb)
        have hca' : wr.cell? ⟨ga, j, none⟩ = some (.int .u32 ((dgs 4294967296 A)[j] : Nat)) := by rw [hw.out]; simpa using hca
        have hcb' : wr.cell? ⟨gb, j, none⟩ = some (.int .u32 ((dgs 4294967296 B)[j] : Nat)) := by rw [hw.out]; simpa using hcb
        clear hca hcb
        have hd2 := fun h => cmp_step _ _ j hja hjb hd.out h
        have hd3 := fun h => cmp_val (b := 4294967296) _ _ (dgs32_lt A) (dgs32_lt B) j hja hjb hd.out h
        have hd4 := fun h => cmp_val (b := 4294967296) _ _ (dgs32_lt B) (dgs32_lt A) j hjb hja hd.out.symm h
        rw [val_dgs (by omega), val_dgs (by omega)] at hd3 hd4
        generalize (dgs 4294967296 A)[j] = X at hca' hd2 hd3 hd4
        generalize (dgs 4294967296 B)[j] = Y at hcb' hd2 hd3 hd4
        have hD2 := Lib.hid hd2
        have hD3 := Lib.hid hd3
        have hD4 := Lib.hid hd4
        clear hd2 hd3 hd4
        have hi0 : (0 : Int) ≤ j := by omega
        have hi1 : (j : Int) < x := by omega
        rcases Nat.lt_trichotomy X Y with hlt | heq | hgt
        · have C1 := Lib.hid (fun W => (cmpN_lt hlt) ▸ t162_q X Y W)
          have HC := Lib.hid (cmpN_lt (hD3.out hlt))
          clear hlt
          go_wp2
          go_quiet ((go_at_call 162; exact Calls.quiet_of_same (C1.out _)))
          go_wp2
          go_ret
          exact ⟨by rw [HC.out]; rfl, n + nq, by rw [hw.out, World.drewN_drewN]⟩
        · subst heq
          have C1 := Lib.hid (fun W => (cmpN_eq (rfl : X = X)) ▸ t162_q X X W)
          have hd' := Lib.hid (hD2.out rfl)
          go_wp2
          go_quiet ((go_at_call 162; exact Calls.quiet_of_same (C1.out _)))
          go_wp2
          go_roundw
          case rel => exact ⟨j, by omega, rfl, hd', n + nq, by show _ = _; rw [hw.out, World.drewN_drewN]⟩
          case measure => first | (simp [intOf]; omega) | simp [intOf]
        · have C1 := Lib.hid (fun W => (cmpN_gt hgt) ▸ t162_q X Y W)
          have HC := Lib.hid (cmpN_gt (hD4.out hgt))
          clear hgt
          go_wp2
          go_quiet ((go_at_call 162; exact Calls.quiet_of_same (C1.out _)))
          go_wp2
          go_ret
          exact ⟨by rw [HC.out]; rfl, n + nq, by rw [hw.out, World.drewN_drewN]⟩
  · have hne2 : ¬ (cmpN (Lw A) (Lw B) = 0) := by unfold cmpN; split; decide; split; decide; omega
    have he : Hid (cmpN (Lw A) (Lw B) = cmpN A B) := by
      show _ = _
      rcases Nat.lt_or_gt_of_ne hne with h | h
      · rw [cmpN_lt h, cmpN_lt (cmp_len (by omega) A B h)]
      · rw [cmpN_gt h, cmpN_gt (cmp_len (by omega) B A h)]
    generalize Lw A = x at *
    generalize Lw B = y at *
    generalize cmpN x y = c at *
    have hne3 : (c != 0) = true := by simp [hne2]
    clear hne
    go_enter Tryz.func138, Tryz.ntmps138
    go_wp2_with (go_at_call 142; (with_reducible refine c0.mono ?_); rintro e w' ⟨rfl, rfl⟩)
    go_ret
    exact ⟨by rw [he.out]; rfl, 0, rfl⟩
theorem Nt.cells {w : World} {v : Value} {n : Nat} (h : Nt w v n) : ∃ p cap, v = .slice p (Lw n) cap ∧ Lw n ≤ cap ∧ cap ≤ maxLen ∧ ∀ (k x : Nat), (dgs 4294967296 n)[k]? = some x → ∃ g, p = some ⟨g, 0, none⟩ ∧ g < w.heap.size ∧ w.cell? ⟨g, k, none⟩ = some (.int .u32 x) := by
  rcases h.read with ⟨rfl, rfl⟩ | ⟨gb, cap, rfl, h1, h2, h3, h4⟩
  · exact ⟨none, 0, rfl, by simp [Lw], by simp, fun k x hx => by simp at hx⟩
  · exact ⟨_, cap, rfl, h1, h2, fun k x hx => ⟨gb, rfl, h3, h4 k x hx⟩⟩
theorem Lw_cap {n cap : Nat} (h : Lw n ≤ cap) (h2 : cap ≤ maxLen) : Lw n ≤ 9223372036854775807 := by unfold maxLen at h2; omega
theorem t138 (va vb : Value) (A B : Nat) (w : World) (hA : Nt w va A) (hB : Nt w vb B) (hl : Lw A ≤ 1000000) (hl' : Lw B ≤ 1000000) :
    Calls Tryz.prog 138 #[va, vb] w fun e w' => e = .returned (.int .i64 (cmpN A B)) ∧ ∃ n, w' = w.drewN n := by
  obtain ⟨p, ca, rfl, _, _, h1⟩ := hA.cells
  obtain ⟨q, cb, rfl, _, _, h2⟩ := hB.cells
  exact t138s p q ca cb A B w (by omega) (by omega) (fun k x hx => by obtain ⟨g, a, _, c⟩ := h1 k x hx; exact ⟨g, a, c⟩) (fun k x hx => by obtain ⟨g, a, _, c⟩ := h2 k x hx; exact ⟨g, a, c⟩)
end Go.Proofs.YtifhiefdhhmdeaaGreatDoor
