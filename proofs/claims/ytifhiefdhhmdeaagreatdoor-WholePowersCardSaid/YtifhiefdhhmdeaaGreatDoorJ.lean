/- Contract of over: the long division. -/
import Derived.Test.YtifhiefdhhmdeaaGreatDoorI
import Derived.Test.YtifhiefdhhmdeaaGreatDoorShelf
import Derived.Test.YtifhiefdhhmdeaaGreatDoorMb
namespace Go.Proofs.YtifhiefdhhmdeaaGreatDoor
open Go Go.RowKit

theorem Nt.drewN {w : World} {v : Value} {n : Nat} (h : Nt w v n) (k : Nat) : Nt (w.drewN k) v n := h.below (below_drewN (Below.refl _ _) k)
theorem dgs_one {n : Nat} (h0 : 0 < n) (h : n < 4294967296) : dgs 4294967296 n = [n] := by
  rw [dgs_pos (by omega) h0, Nat.mod_eq_of_lt h, Nat.div_eq_of_lt h]; rfl
theorem nt_one (w : World) {n : Nat} (h0 : 0 < n) (h : n < 4294967296) : Nt (w.alloc (.cells #[.int .u32 n] 143)) (.slice (some ⟨w.heap.size, 0, none⟩) 1 1) n := by
  have h1 := (Blk.new w #[.int .u32 n] 143).row (base := 0) (n := 1) (Nat.zero_le _) (by simp) (by simp [maxLen])
  unfold Nt
  rw [dgs_one h0 h]
  exact h1
/-- the shift that sets a divisor's top bit -/
theorem scale_ok {B m z : Nat} (hm : Lw B = m + 1) (hz : ((dgs 4294967296 B)[m]'(by unfold Lw at hm; omega)) < 2 ^ (32 - z)) (hz2 : z < 32) : Lw (B * 2 ^ z) = m + 1 := by
  have h2 : B < (((dgs 4294967296 B)[m]'(by unfold Lw at hm; omega)) + 1) * 4294967296 ^ m := by
    have h1 := val_dgs (b := 4294967296) (by omega) B
    have hl : (dgs 4294967296 B).length = m + 1 := hm
    rw [val_split 4294967296 _ m, val_drop 4294967296 _ m (by omega), List.drop_of_length_le (by omega), val_nil] at h1
    have h3 := val_take_lt (b := 4294967296) (by omega) (dgs 4294967296 B) (dgs32_lt B) m
    have h4 : ∀ P a : Nat, (a + 1) * P = P * (a + 4294967296 * 0) + P := fun P a => by grind
    rw [h4]; omega
  generalize (dgs 4294967296 B)[m]'(by unfold Lw at hm; omega) = t at hz h2
  have h5 : B * 2 ^ z < 4294967296 ^ (m + 1) := by
    have h6 : (t + 1) * 4294967296 ^ m * 2 ^ z ≤ 2 ^ (32 - z) * 4294967296 ^ m * 2 ^ z := Nat.mul_le_mul_right _ (Nat.mul_le_mul_right _ hz)
    have h7 : 2 ^ (32 - z) * 4294967296 ^ m * 2 ^ z = 4294967296 ^ (m + 1) := by
      have h8 : 2 ^ (32 - z) * 2 ^ z = 4294967296 := by rw [← Nat.pow_add, show 32 - z + z = 32 by omega]
      rw [Nat.mul_right_comm, h8, Nat.pow_succ, Nat.mul_comm]
    have h9 : B * 2 ^ z < (t + 1) * 4294967296 ^ m * 2 ^ z := Nat.mul_lt_mul_of_pos_right h2 (Nat.pow_pos (by omega))
    omega
  have h10 : Lw (B * 2 ^ z) ≤ m + 1 := Lw_le.2 h5
  have h11 : Lw B ≤ Lw (B * 2 ^ z) := Lw_mono (Nat.le_mul_of_pos_right _ (Nat.pow_pos (by omega)))
  omega
theorem bitLen_spec (t : Nat) (h0 : 0 < t) (h : t < 2 ^ 64) : 1 ≤ Lib.bitLen t ∧ t < 2 ^ Lib.bitLen t ∧ 2 ^ Lib.bitLen t ≤ 2 * t := by
  induction t using Nat.strongRecOn with
  | _ t ih =>
    rw [Lib.bitLen_half t (by omega) h]
    by_cases h1 : t / 2 = 0
    · have : t = 1 := by omega
      subst this
      refine ⟨by omega, by decide, by decide⟩
    · obtain ⟨a, b, c⟩ := ih (t / 2) (by omega) (by omega) (by omega)
      rw [Nat.pow_add]
      refine ⟨by omega, by omega, by omega⟩
def OverR (A B : Nat) (w : World) (e : Ending) (w' : World) : Prop := ∃ v u, e = .returned (.tuple #[v, u]) ∧ Nt w' v (A / B) ∧ Nt w' u (A % B) ∧ Below w.heap.size w w'
theorem nt_nil (w : World) : Nt w (.slice none 0 0) 0 := World.ownsRow_nil w 0 143 1

set_option maxRecDepth 100000 in
set_option maxHeartbeats 1000000 in
theorem t141_lt (va vb : Value) (A B : Nat) (w : World) (hA : Nt w va A) (hB : Nt w vb B) (hl : Lw A ≤ 1000000) (hl' : Lw B ≤ 1000000) (h : A < B) :
    Calls Tryz.prog 141 #[va, vb] w (OverR A B w) := by
  have c := t138 va vb A B w hA hB hl hl'
  rw [cmpN_lt h] at c
  have HQ : Hid (A / B = 0) := Nat.div_eq_of_lt h
  have HM : Hid (A % B = A) := Nat.mod_eq_of_lt h
  have HA := Lib.hid hA
  clear hA hB
  go_enter Tryz.func141, Tryz.ntmps141
  go_wp2_with (go_at_call 138; (with_reducible refine c.mono ?_); rintro e w' ⟨rfl, n, rfl⟩)
  go_ret2
  refine ⟨_, _, rfl, ?_, ?_, below_drewN (Below.refl _ _) n⟩
  · rw [HQ.out]; exact nt_nil _
  · rw [HM.out]; exact HA.out.drewN n

set_option maxRecDepth 100000 in
set_option maxHeartbeats 4000000 in
theorem t141_ge (va : Value) (p : Option Addr) (cb : Nat) (A B m r : Nat) (w : World) (hA : Nt w va A) (hB : Nt w (.slice p (m + 1) cb) B) (hl : Lw A ≤ 900000) (hBl : Lw B = m + 1) (hAl : Lw A = m + 1 + r) (h : B ≤ A) :
    Calls Tryz.prog 141 #[va, .slice p (m + 1) cb] w (OverR A B w) := by
  have c := t138 va _ A B w hA hB (by omega) (by omega)
  have hcz : ((cmpN A B : Int) < 0) = False := by
    unfold cmpN; rw [if_neg (by omega)]; split <;> simp
  have hcz2 : ¬ (cmpN A B : Int) < 0 := by rw [hcz]; exact not_false
  have hBd : (dgs 4294967296 B).length = m + 1 := hBl
  obtain ⟨pa, ca, rfl, _, _, hAs⟩ := hA.later
  obtain ⟨q, cq, hq, _, _, hBs⟩ := hB.cells
  obtain ⟨rfl, hqq, rfl⟩ : p = q ∧ m + 1 = Lw B ∧ cb = cq := by simpa using hq
  clear hqq
  obtain ⟨gb, rfl, hgb, hcb⟩ := hBs m _ (List.getElem?_eq_getElem (by omega : m < (dgs 4294967296 B).length))
  have htl := dgs32_lt B _ (List.getElem_mem (by omega : m < (dgs 4294967296 B).length))
  have htp := (top_one B m hBd).2
  have HSC := Lib.hid (fun z hz hz2 => @scale_ok B m z hBl hz hz2)
  generalize (dgs 4294967296 B)[m]'(by omega) = t at hcb htl htp HSC
  have clz := Tryz.bits_LeadingZeros32 t
  rw [hAl] at c ⊢
  generalize cmpN A B = cv at *
  have HA := Lib.hid hA
  have HB := Lib.hid hB
  have HAS := Lib.hid hAs
  have HBL := Lib.hid hBl
  have HAL := Lib.hid hAl
  have HBD := Lib.hid hBd
  have CLZ := Lib.hid clz
  have hm1 : (m : Int) < (m : Int) + 1 := by omega
  have hb1 := bitLen_spec t htp (by omega)
  have hb2 : Lib.bitLen t ≤ 32 := Lib.bitLen_le t 32 (by omega) htl
  have hsz : m + 1 + r ≤ 900000 := by omega
  clear hcz hA hB hAs hBl hAl hBd clz hq hBs hl
  go_enter Tryz.func141, Tryz.ntmps141
  go_wp2_with (go_at_call 138; (with_reducible refine c.mono ?_); rintro e w' ⟨rfl, n, rfl⟩)
  have cz := CLZ.out (w.drewN n) (by omega) (by omega)
  rw [show ((t : Int)).toNat = t from Int.toNat_natCast t] at cz
  generalize Lib.bitLen t = bl at *
  obtain ⟨hb3, hb4, hb5⟩ := hb1
  have HB4 := Lib.hid hb4
  have HB5 := Lib.hid hb5
  have CZ := Lib.hid cz
  clear cz hb4 hb5
  go_wp2_with fail
  refine CZ.out.mono ?_
  rintro e w' ⟨rfl, rfl⟩
  go_wp2_with fail
  obtain ⟨s, hs⟩ : ∃ s : Nat, s = 2 ^ (32 - bl) := ⟨_, rfl⟩
  have hs0 : 0 < s := by rw [hs]; exact Nat.pow_pos (by omega)
  have hs1 : s < 4294967296 := by
    have : 2 ^ (32 - bl) ≤ 2 ^ 31 := Nat.pow_le_pow_right (by omega) (by omega)
    omega
  have hsI : (2 : Int) ^ (32 - bl) % 4294967296 = (s : Int) := by
    have : (2 : Int) ^ (32 - bl) = (s : Int) := by rw [hs]; exact (Int.natCast_pow 2 _).symm
    rw [this]; omega
  have HLD : Hid (Lw (B * s) = m + 1) := by
    show _ = _
    rw [hs]; exact HSC.out (32 - bl) (by rw [show 32 - (32 - bl) = bl by omega]; exact HB4.out) (by omega)
  have hDs : Hid (0 < B * s) := by
    show _ < _
    rcases Nat.eq_zero_or_pos (B * s) with h0 | h0
    · have := HLD.out; rw [h0] at this; simp [Lw] at this
    · exact h0
  rw [hsI]
  have HBs : Nt ((w.drewN n).alloc (.cells #[.int .u32 (s : Int)] 143)) (.slice (some ⟨w.heap.size, 0, none⟩) 1 1) s := nt_one (w.drewN n) hs0 hs1
  have hb0 : Below w.heap.size w ((w.drewN n).alloc (.cells #[.int .u32 (s : Int)] 143)) := (below_drewN (Below.refl _ _) n).alloc (Nat.le_refl _) _
  have c1 := t140 _ _ B s _ (HB.out.below hb0) HBs (by rw [HBL.out]; omega) (Nat.le_trans (Lw_small hs1) (by omega))
  have CC1 := Lib.hid c1
  have HB0 := Lib.hid hb0
  have HS := Lib.hid hs
  clear c1 HBs hb0 hs hsI
  refine CC1.out.mono ?_
  rintro e w1 ⟨vd, rfl, hD, hb1, hfr1⟩
  obtain ⟨pd, cd, hvd, hcd1, hcd2, hDs1⟩ := hD.later
  rw [HLD.out] at hvd
  subst hvd
  have hB1 : Below w.heap.size w w1 := HB0.out.trans (hb1.mono HB0.out.size)
  have HD1 := Lib.hid hD
  have HDS := Lib.hid hDs1
  clear hD hDs1 hb1 hfr1
  have hsz1 := hB1.size
  go_wp2_with (at_make; refine mk32 _ rfl _ _ rfl _ _ (m + 1 + r + 1) rfl rfl (by omega) (by omega) (by omega) ?_; intro w2 hbk2 hbl2)
  have hB2 : Below w.heap.size w w2 := hB1.trans (hbl2.mono hsz1)
  have hB2a : Below w.heap.size w (w2.alloc (.cells #[.int .u32 (s : Int)] 143)) := hB2.alloc hB2.size _
  have hgl := hbk2.out.lt
  have hA2 : Nt (w2.alloc (.cells #[.int .u32 (s : Int)] 143)) (.slice pa (m + 1 + r) ca) A := by
    have := HA.out
    rw [HAL.out] at this
    exact this.below hB2a
  have c2 := t140 _ _ A s _ hA2 (nt_one w2 hs0 hs1) (by rw [HAL.out]; omega) (Nat.le_trans (Lw_small hs1) (by omega))
  have CC2 := Lib.hid c2
  clear c2 hA2
  refine CC2.out.mono ?_
  rintro e w3 ⟨vp, rfl, hPr, hb3', hfr3⟩
  have hB3 : Below w.heap.size w w3 := hB2a.trans (hb3'.mono hB2a.size)
  have HBL3 : Hid (Below w1.heap.size w1 w3) := (hbl2.alloc hbl2.size _).trans (hb3'.mono (by simp; have := hbl2.size; omega))
  have hblk3 := Lib.hid ((hbk2.out.alloc (.cells #[.int .u32 (s : Int)] 143)).below hb3' (by simp; omega))
  obtain ⟨pp, cp, rfl, hcp1, hcp2, hPs⟩ := hPr.cells
  have HSrc : Hid (Src w3 w1.heap.size pp (dgs 4294967296 (A * s))) := by
    intro k x hx
    obtain ⟨gg, h1, h2, h3⟩ := hPs k x hx
    refine ⟨gg, h1, ?_, h3⟩
    have := hfr3 gg (by rw [h1]; rfl)
    simp at this
    omega
  have hLP : Lw (A * s) ≤ m + 1 + r + 1 := by
    have h1 := Lw_mul A s
    have h2 := Lw_small hs1
    rw [HAL.out] at h1
    omega
  have HPL : Hid ((dgs 4294967296 (A * s)).length = Lw (A * s)) := rfl
  have HPA : Hid (dgs 4294967296 (A * s) ++ List.drop (Lw (A * s)) (List.replicate (m + 1 + r + 1) 0) = pads 4294967296 (m + 1 + r + 1) (A * s)) := by
    show _ = _
    rw [List.drop_replicate]
    apply pads_copy
    rw [HPL.out]; omega
  clear hPr hPs hfr3 hcp1 hcp2 hB2a
  generalize hPx : Lw (A * s) = px at *
  clear hPx
  go_wp2_with (first | (with_reducible refine cp32 rfl _ _ 64 65 rfl Tryz.underlying64 w1.heap.size (m + 1 + r + 1) (m + 1 + r + 1) cp pp (List.replicate (m + 1 + r + 1) 0) (dgs 4294967296 (A * s)) px rfl rfl HPL.out hblk3.out (by simp) (by rw [HPL.out]; omega) HSrc.out w1.heap.size w1 HBL3.out (Nat.le_refl _) ?_; intro w4 hb4 hbl4) | (at_make; refine mk32 _ rfl _ _ rfl _ _ (r + 1) rfl rfl (by omega) (by omega) (by omega) ?_; intro w5 hbk5 hbl5))
  have hgw : w1.heap.size < w4.heap.size := hb4.out.lt
  have hL5 : Hid (Blk w5 w1.heap.size 143 (c32 (pads 4294967296 (m + 1 + r + 1) (A * s)))) := by
    have := hb4.out
    rw [HPL.out, HPA.out] at this
    exact this.below hbl5 hgw
  have hB5 : Below w1.heap.size w1 w5 := hbl4.trans (hbl5.mono hbl4.size)
  have HDlt : Hid (B * s ≤ 4294967296 ^ (m + 1)) := by
    have := Lw_le.1 (Nat.le_of_eq HLD.out)
    show _ ≤ _; omega
  have HST0 : Hid (A * s < B * s * 4294967296 ^ (r + 1)) := by
    exact start_lt 4294967296 A B s m r (Lw_le.1 (Nat.le_of_eq HAL.out)) (pow_le_of_length (by omega) B m (by rw [HBD.out]; omega)) hs0
  clear c hbl2 hb3' hblk3 HSrc hb4 hbl4 hB2 hB3 HPA HPL hLP
  go_loopw [10] (fun i wr => ∃ (k L : Nat) (ws : List Nat), k ≤ r + 1 ∧ i = .int .i64 ((k : Int) - 1) ∧ Hid (ws.length = r + 1) ∧ Hid (∀ z ∈ ws, z < 4294967296) ∧ Hid (A * s = L + B * s * (4294967296 ^ k * val 4294967296 (ws.drop k))) ∧ Hid (L < B * s * 4294967296 ^ k) ∧ Hid (Blk wr w1.heap.size 143 (c32 (pads 4294967296 (m + 1 + r + 1) L))) ∧ Hid (Blk wr w4.heap.size 143 (c32 ws)) ∧ Below w1.heap.size w1 wr) (fun i _ => (intOf i + 1).toNat)
  case atStart => exact ⟨r + 1, A * s, List.replicate (r + 1) 0, Nat.le_refl _, congrArg (Value.int .i64) (by omega), by show _ = _; simp, by intro z hz; rw [(List.mem_replicate.1 hz).2]; omega, by show _ = _; rw [List.drop_of_length_le (by rw [List.length_replicate]; omega), val_nil, Nat.mul_zero, Nat.mul_zero, Nat.add_zero], HST0.out, hL5, hbk5, hB5⟩
  case round =>
    obtain ⟨k, L, ws, hk, rfl, hwl, hwd, hv, hLlt, hbL, hbW, hbl⟩ := hrel
    by_cases h0 : k = 0
    · subst h0
      have hB0 : 0 < B := by
        rcases Nat.eq_zero_or_pos B with h1 | h1
        · have := hDs.out; rw [h1, Nat.zero_mul] at this; omega
        · exact h1
      obtain ⟨hq, hr⟩ := div_end 4294967296 A B s L ws hs0 hB0 hv.out hLlt.out
      have hLb : L < 4294967296 ^ (m + 1 + r + 1) := by
        have h1 : Lw L ≤ m + 1 := by
          rw [hr]
          have h2 : A % B < B := Nat.mod_lt _ hB0
          have h3 : A % B * s ≤ B * s := Nat.mul_le_mul_right _ (Nat.le_of_lt h2)
          have := Lw_mono h3
          rw [HLD.out] at this
          exact this
        exact Lw_le.1 (by omega)
      have hLw : Lw L ≤ m + 1 + r + 1 := Lw_le.2 hLb
      have c6 := t161f w1.heap.size (m + 1 + r + 1) L wr (by unfold maxLen; omega) hLb hbL.out
      have hn6 := nt_pads hbL.out (by unfold maxLen; omega) hLb
      have c7 := t144 _ L s wr hn6 (by omega) hs0 hs1
      have HR7 : Hid (L / s = A % B) := by show _ = _; rw [hr, Nat.mul_div_cancel _ hs0]
      have hpd := pads_eq (b := 4294967296) (by omega) hwd.out hwl.out hq
      have hQb : A / B < 4294967296 ^ (r + 1) := by
        rw [← hq]
        have := val_lt ws hwd.out
        rw [hwl.out] at this
        exact this
      have hW8 := hbW.out
      rw [hpd] at hW8
      have HW8 := Lib.hid hW8
      have HQB := Lib.hid hQb
      have C6 := Lib.hid c6
      have C7 := Lib.hid c7
      clear hq hr hLb c6 hn6 c7 hpd hQb hW8
      go_wp2_with fail
      refine C6.out.mono ?_
      rintro e w6 ⟨rfl, rfl⟩
      go_wp2_with fail
      refine C7.out.mono ?_
      rintro e w7 ⟨v7, rfl, hn7, hb7⟩
      have hW9 : Blk w7 w4.heap.size 143 (c32 (pads 4294967296 (r + 1) (A / B))) := HW8.out.below hb7 HW8.out.lt
      have C9 := Lib.hid (t161f w4.heap.size (r + 1) (A / B) w7 (by unfold maxLen; omega) HQB.out hW9)
      have HN9 := Lib.hid (nt_pads hW9 (by unfold maxLen; omega) HQB.out)
      have hBL7 : Below w.heap.size w w7 := hB1.trans ((hbl.mono hsz1).trans (hb7.mono (Nat.le_trans hsz1 hbl.size)))
      rw [HR7.out] at hn7
      have HN7 := Lib.hid hn7
      clear hn7 hW9
      go_wp2_with fail
      refine C9.out.mono ?_
      rintro e w8 ⟨rfl, rfl⟩
      go_wp2_with fail
      go_ret2
      exact ⟨_, _, rfl, HN9.out, HN7.out, hBL7⟩
    · obtain ⟨j, rfl⟩ : ∃ j, k = j + 1 := ⟨k - 1, by omega⟩
      have hw := longw 4294967296 m r j L (B * s) (by omega) HDlt.out hDs.out (by omega) hLlt.out
      obtain ⟨pre, xs, post, HEQ, hpre, hxs, hxd, hwin, hnew⟩ := hw
      have HEQ2 := hbL.out
      rw [HEQ] at HEQ2
      have c5 := t165 w1.heap.size j m (m + 1 + r + 1 - j) (c32 pre) (c32 post) xs (B * s) pd cd wr (by rw [List.length_map]; exact hpre) hxs (by omega) HLD.out hwin.1 hxd (by simpa using HEQ2) (HDS.out wr w1.heap.size hbl (Nat.le_refl _))
      have C5 := Lib.hid c5
      have HPRE := Lib.hid hpre
      have HXS := Lib.hid hxs
      have HXD := Lib.hid hxd
      have HWIN := Lib.hid hwin
      have HNEW := Lib.hid hnew
      have HQ2 := Lib.hid HEQ
      have hjr : (j : Int) ≤ r := by omega
      clear c5 hpre hxs hxd hwin hnew HEQ HEQ2
      obtain ⟨L', hn1, hn2, hn3⟩ := HNEW.out
      have HN1 := Lib.hid hn1
      have HN2 := Lib.hid hn2
      have HN3 := Lib.hid (hn3 (val 4294967296 (ws.drop (j + 1))))
      clear hn1 hn2 hn3
      go_wp2_with fail
      rw [show j + (m + 1) + 1 - j = m + 2 by omega]
      refine C5.out.mono ?_
      rintro e w6 ⟨rfl, hb6, hg6⟩
      have hjw : j < ws.length := by rw [hwl.out]; omega
      have hbL6 : Hid (Blk w6 w1.heap.size 143 (c32 (pads 4294967296 (m + 1 + r + 1) L'))) := by
        show Blk _ _ _ _
        rw [← HN1.out]
        simpa using hb6
      have hbW6 : Hid (Blk w6 w4.heap.size 143 (c32 ws)) := (hg6.block w4.heap.size hbW.out.lt (by simp; omega)).trans hbW.out
      have hbl6 : Below w1.heap.size w1 w6 := below_grown hbl hg6 hbl.size (Nat.le_refl _)
      have hcell : w6.cell? ⟨w4.heap.size, j, none⟩ = some (.int .u32 (ws[j] : Nat)) := hbW6.out.cell j (c32_get (List.getElem?_eq_getElem hjw))
      have hfree : w6.frozen? ⟨w4.heap.size, j, none⟩ = false := hbW6.out.free _
      generalize hq : val 4294967296 xs / (B * s) = q at *
      have hset : Hid (Blk (w6.setCell ⟨w4.heap.size, j, none⟩ (.int .u32 (q : Nat))) w4.heap.size 143 (c32 (ws.set j q))) := by
        have := hbW6.out.set j (.int .u32 (q : Nat))
        rw [c32, ← List.map_set] at this
        exact this
      have hset2 : Hid (Blk (w6.setCell ⟨w4.heap.size, j, none⟩ (.int .u32 (q : Nat))) w1.heap.size 143 (c32 (pads 4294967296 (m + 1 + r + 1) L'))) := hbL6.out.setOther _ _ (by simp; omega)
      have HRV := Lib.hid (round_val 4294967296 (B * s) L' j q (A * s) ws hjw (hv.out.trans HN3.out))
      clear hb6 hg6 hq
      go_wp2_with fail
      go_roundw
      case rel => exact ⟨j, L', ws.set j q, by omega, rfl, by show _ = _; rw [List.length_set]; exact hwl.out, set_lt ws hwd.out _ _ HWIN.out.2, HRV.out, HN2.out, hset2, hset, hbl6.setCell (Nat.le_of_lt hgw) _⟩
      case measure => first | (simp [intOf]; omega) | simp [intOf]
end Go.Proofs.YtifhiefdhhmdeaaGreatDoor
