/- Contract of times. -/
import Derived.Test.YtifhiefdhhmdeaaGreatDoorE
namespace Go.Proofs.YtifhiefdhhmdeaaGreatDoor
open Go Go.RowKit

theorem mul_cast (x y : Nat) : ((x * y : Nat) : Int) = (x : Int) * (y : Int) := Int.natCast_mul x y
/-- a row of a product: its bounds -/
theorem row_bound {c p x y : Nat} (hc : c < 4294967296) (hp : p < 4294967296) (hx : x < 4294967296) (hy : y < 4294967296) : c + (p + x * y) ≤ 18446744073709551615 := by
  have : x * y ≤ 18446744065119617025 := Nat.le_trans (Nat.mul_le_mul (show x ≤ 4294967295 by omega) (show y ≤ 4294967295 by omega)) (by decide)
  omega
theorem getElem_zero {l : List Nat} {k n : Nat} (h : ∀ i, n ≤ i → l.getD i 0 = 0) (hk : k < l.length) (hn : n ≤ k) : l[k] = 0 := by
  have := h k hn
  simpa [List.getD_eq_getElem?_getD, hk] using this
theorem getD_set_ne {l : List Nat} {i k x : Nat} (h : i ≠ k) : (l.set k x).getD i 0 = l.getD i 0 := by
  simp [List.getD_eq_getElem?_getD, Ne.symm h]

set_option maxRecDepth 100000 in
set_option maxHeartbeats 4000000 in
theorem t140s (p q : Option Addr) (ca cb A B : Nat) (w : World) (hl : Lw A ≤ 1000000) (hl' : Lw B ≤ 1000000) (hA : ∀ (w' : World) (g : Nat), Below w.heap.size w w' → w.heap.size ≤ g → Src w' g p (dgs 4294967296 A)) (hB : ∀ (w' : World) (g : Nat), Below w.heap.size w w' → w.heap.size ≤ g → Src w' g q (dgs 4294967296 B)) :
    Calls Tryz.prog 140 #[.slice p (Lw A) ca, .slice q (Lw B) cb] w (NatR (A * B) w) := by
  have HA := Lib.hid hA
  have HB := Lib.hid hB
  have HAL : Hid ((dgs 4294967296 A).length = Lw A) := rfl
  have HBL : Hid ((dgs 4294967296 B).length = Lw B) := rfl
  have HAV : Hid (val 4294967296 (dgs 4294967296 A) = A) := val_dgs (by omega) A
  have HBV : Hid (val 4294967296 (dgs 4294967296 B) = B) := val_dgs (by omega) B
  have hlt' : Hid (A * B < 4294967296 ^ (Lw A + Lw B)) := Lw_le.1 (Lw_mul A B)
  have hblt : Hid (B < 4294967296 ^ Lw B) := lt_Lw B
  clear hA hB
  generalize Lw A = x at *
  generalize Lw B = y at *
  go_enter Tryz.func140, Tryz.ntmps140
  go_wp2_with (at_make; refine mk32 _ rfl _ _ rfl _ _ (x + y) rfl rfl (by omega) (by omega) (by omega) ?_; intro w1 hb1 hbl1)
  go_loopw [19] (fun i wr => ∃ (k : Nat) (ps : List Nat), k ≤ x ∧ i = .int .i64 k ∧ Hid (ps.length = x + y) ∧ Hid (∀ z ∈ ps, z < 4294967296) ∧ Hid (val 4294967296 ps = val 4294967296 ((dgs 4294967296 A).take k) * B) ∧ Hid (∀ i, k + y ≤ i → ps.getD i 0 = 0) ∧ Hid (Blk wr w.heap.size 143 (c32 ps)) ∧ Below w.heap.size w wr) (fun i _ => x - (intOf i).toNat)
  case atStart => exact ⟨0, List.replicate (x + y) 0, by omega, rfl, by show _ = _; simp, by intro z hz; rw [(List.mem_replicate.1 hz).2]; omega, by show _ = _; rw [val_replicate]; simp, by intro i _; simp [List.getD_eq_getElem?_getD, List.getElem?_replicate]; split <;> rfl, hb1, hbl1⟩
  case round =>
    obtain ⟨k, ps, hk, rfl, hpl, hpd, hpv, hpz, hpb, hbl⟩ := hrel
    by_cases hlt : k < x
    · obtain ⟨wo, rfl⟩ : ∃ wo : World, wo = wr := ⟨_, rfl⟩
      have hja : k < (dgs 4294967296 A).length := by rw [HAL.out]; omega
      obtain ⟨ga, rfl, hne, hca⟩ := HA.out wo w.heap.size hbl (Nat.le_refl _) k _ (List.getElem?_eq_getElem hja)
      have HTK := Lib.hid (val_take_succ 4294967296 (dgs 4294967296 A) k hja)
      have hXl := dgs32_lt A _ (List.getElem_mem hja)
      generalize (dgs 4294967296 A)[k] = X at hca HTK hXl
      go_wp2
      go_loopw [26, 8] (fun i c wr => ∃ (j C : Nat) (qs : List Nat), j ≤ y ∧ i = .int .i64 j ∧ c = .int .u64 C ∧ C < 4294967296 ∧ Hid (qs.length = x + y) ∧ Hid (∀ z ∈ qs, z < 4294967296) ∧ Hid (val 4294967296 qs + C * 4294967296 ^ (k + j) = val 4294967296 ps + X * 4294967296 ^ k * val 4294967296 ((dgs 4294967296 B).take j)) ∧ Hid (∀ i, k + y ≤ i → qs.getD i 0 = 0) ∧ Hid (Blk wr w.heap.size 143 (c32 qs)) ∧ Below w.heap.size w wr) (fun i _ _ => y - (intOf i).toNat)
      case atStart => exact ⟨0, 0, ps, by omega, rfl, rfl, by omega, hpl, hpd, by show _ = _; simp, hpz, hpb, hbl⟩
      case round =>
        obtain ⟨j, C, qs, hj, rfl, rfl, hC, hql, hqd, hqv, hqz, hqb, hbl2⟩ := hrel
        by_cases hjlt : j < y
        · have hjb : j < (dgs 4294967296 B).length := by rw [HBL.out]; omega
          have hkj : k + j < qs.length := by rw [hql.out]; omega
          obtain ⟨gb, rfl, hneb, hcb⟩ := HB.out wr w.heap.size hbl2 (Nat.le_refl _) j _ (List.getElem?_eq_getElem hjb)
          have hcq := hqb.out.cell (k + j) (c32_get (List.getElem?_eq_getElem hkj))
          have hfree : wr.frozen? ⟨w.heap.size, k + j, none⟩ = false := hqb.out.free _
          have hset : ∀ z : Nat, Blk (wr.setCell ⟨w.heap.size, k + j, none⟩ (.int .u32 z)) w.heap.size 143 (c32 (qs.set (k + j) z)) := fun z => by
            have := hqb.out.set (k + j) (.int .u32 z)
            rw [c32, ← List.map_set] at this
            exact this
          have HSET := Lib.hid hset
          have hstep := times_step (b := 4294967296) qs (dgs 4294967296 B) k j X C _ hkj hqv.out
          have hYl := dgs32_lt B _ (List.getElem_mem hjb)
          have hgd : (dgs 4294967296 B).getD j 0 = (dgs 4294967296 B)[j] := by simp [List.getD_eq_getElem?_getD, hjb]
          rw [hgd] at hstep
          have hQl := hqd.out _ (List.getElem_mem hkj)
          generalize (dgs 4294967296 B)[j] = Y at hcb hstep hYl
          generalize qs[k + j] = Q at hcq hstep hQl
          have HST := Lib.hid hstep
          have hbd := row_bound hC hQl hXl hYl
          have HC1 : Hid (((C : Int) + (Q + X * Y)) / 4294967296 = (((C + (Q + X * Y)) / 4294967296 : Nat) : Int)) := by show _ = _; omega
          have HC2 : Hid (((C : Int) + (Q + X * Y)) % 4294967296 = (((C + (Q + X * Y)) % 4294967296 : Nat) : Int)) := by show _ = _; omega
          clear hset hstep hgd
          go_wp2
          go_roundw
          case rel => exact ⟨j + 1, (C + (Q + X * Y)) / 4294967296, qs.set (k + j) ((C + (Q + X * Y)) % 4294967296), by omega, by go_num, congrArg (Value.int .u64) HC1.out, by omega, by show _ = _; rw [List.length_set]; exact hql.out, set_lt qs hqd.out _ _ (Nat.mod_lt _ (by omega)), HST.out, by intro i hi; rw [getD_set_ne (by omega)]; exact hqz.out i hi, by show Blk _ _ _ _; rw [HC2.out]; exact HSET.out _, hbl2.setCell (Nat.le_refl _) _⟩
          case measure => first | (simp [intOf]; omega) | simp [intOf]
        · obtain rfl : j = y := by omega
          have hkj : k + j < qs.length := by rw [hql.out]; omega
          have hz := getElem_zero hqz.out hkj (Nat.le_refl _)
          have hcq := hqb.out.cell (k + j) (c32_get (List.getElem?_eq_getElem hkj))
          rw [hz] at hcq
          have hfree : wr.frozen? ⟨w.heap.size, k + j, none⟩ = false := hqb.out.free _
          have HSET : Hid (Blk (wr.setCell ⟨w.heap.size, k + j, none⟩ (.int .u32 C)) w.heap.size 143 (c32 (qs.set (k + j) C))) := by
            have := hqb.out.set (k + j) (.int .u32 C)
            rw [c32, ← List.map_set] at this
            exact this
          have HVAL : Hid (val 4294967296 (qs.set (k + j) C) = val 4294967296 ((dgs 4294967296 A).take (k + 1)) * B) := by
            show _ = _
            have h1 := val_set 4294967296 qs (k + j) C hkj
            have h2 := hqv.out
            rw [List.take_of_length_le (by rw [HBL.out]; omega), HBV.out, hpv.out] at h2
            have h3 := HTK.out
            rw [hz] at h1
            rw [h3, Nat.add_mul]
            have h4 : X * 4294967296 ^ k * B = 4294967296 ^ k * X * B := by rw [Nat.mul_comm X]
            have h5 : C * 4294967296 ^ (k + j) = 4294967296 ^ (k + j) * C := Nat.mul_comm _ _
            omega
          clear hz
          go_wp2
          go_roundw
          case rel => exact ⟨k + 1, qs.set (k + j) C, by omega, by go_num, by show _ = _; rw [List.length_set]; exact hql.out, set_lt qs hqd.out _ _ hC, HVAL.out, by intro i hi; rw [getD_set_ne (by omega)]; exact hqz.out i (by omega), HSET.out, hbl2.setCell (Nat.le_refl _) _⟩
          case measure => first | (simp [intOf]; omega) | simp [intOf]
    · obtain rfl : k = x := by omega
      have hv : val 4294967296 ps = A * B := by
        rw [hpv.out, List.take_of_length_le (by rw [HAL.out]; omega), HAV.out]
      have hpd2 := pads_eq (b := 4294967296) (by omega) hpd.out hpl.out hv
      have hpb2 := hpb.out
      rw [hpd2] at hpb2
      have C := Lib.hid (t161f w.heap.size (k + y) (A * B) wr (by unfold maxLen; omega) hlt'.out hpb2)
      have HN := Lib.hid (natR_mk hpb2 (by unfold maxLen; omega) hlt'.out hbl)
      clear hv hpd2 hpb2
      go_wp2_with (go_at_call 161; (with_reducible refine C.out.mono ?_); rintro e w' ⟨rfl, rfl⟩)
      go_ret
      exact HN.out
theorem t140 (va vb : Value) (A B : Nat) (w : World) (hA : Nt w va A) (hB : Nt w vb B) (hl : Lw A ≤ 1000000) (hl' : Lw B ≤ 1000000) :
    Calls Tryz.prog 140 #[va, vb] w (NatR (A * B) w) := by
  obtain ⟨p, ca, rfl, _, _, h1⟩ := hA.later
  obtain ⟨q, cb, rfl, _, _, h2⟩ := hB.later
  exact t140s p q ca cb A B w hl hl' h1 h2
end Go.Proofs.YtifhiefdhhmdeaaGreatDoor
