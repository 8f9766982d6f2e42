/- Contracts of over, commonDivisor, bits, powerOfTwo, powerOfTen, root. -/
import Derived.Test.YtifhiefdhhmdeaaGreatDoorJ
namespace Go.Proofs.YtifhiefdhhmdeaaGreatDoor
open Go Go.RowKit

theorem Lw_pos_iff {n : Nat} : 0 < Lw n ↔ 0 < n := by
  constructor
  · intro h
    rcases Nat.eq_zero_or_pos n with h0 | h0
    · subst h0; simp [Lw] at h
    · exact h0
  · exact Lw_pos
theorem t141 (va vb : Value) (A B : Nat) (w : World) (hA : Nt w va A) (hB : Nt w vb B) (hl : Lw A ≤ 900000) (hl' : Lw B ≤ 900000) (h0 : 0 < B) :
    Calls Tryz.prog 141 #[va, vb] w (OverR A B w) := by
  by_cases h : A < B
  · exact t141_lt va vb A B w hA hB (by omega) (by omega) h
  · obtain ⟨p, cb, rfl, _, _, _⟩ := hB.cells
    have h1 : 0 < Lw B := Lw_pos h0
    have h2 := Lw_mono (show B ≤ A by omega)
    obtain ⟨m, hm⟩ : ∃ m, Lw B = m + 1 := ⟨Lw B - 1, by omega⟩
    rw [hm] at hB ⊢
    exact t141_ge va p cb A B m (Lw A - (m + 1)) w hA hB hl hm (by omega) (by omega)

/-- one slice stands for one natural -/
theorem Nt.inj {w : World} {v : Value} {m n : Nat} (h : Nt w v m) (k : Nt w v n) : m = n := by
  have key : c32 (dgs 4294967296 m) = c32 (dgs 4294967296 n) := by
    rcases row_cases h with ⟨h1, h2 | ⟨g, cs, h2, h3, h4, h5, h6, h7, h8⟩⟩
    · rcases row_cases k with ⟨k1, k2 | ⟨g', cs', k2, k3, k4, k5, k6, k7, k8⟩⟩
      · rw [h2.2.2, k2.2.2]
      · rw [h2.1] at k2; cases k2
    · rcases row_cases k with ⟨k1, k2 | ⟨g', cs', k2, k3, k4, k5, k6, k7, k8⟩⟩
      · rw [k2.1] at h2; cases h2
      · rw [h2] at k2
        simp only [Value.slice.injEq, Option.some.injEq, Addr.mk.injEq] at k2
        obtain ⟨⟨rfl, _⟩, hl, _⟩ := k2
        have h9 : some (Obj.cells cs.toArray 143 (0, 0)) = some (Obj.cells cs'.toArray 143 (0, 0)) := h5.symm.trans k5
        simp at h9
        subst h9
        rw [← h8, ← k8, hl]
  have key2 : dgs 4294967296 m = dgs 4294967296 n := (List.map_inj_right (fun a b hab => by simp at hab; omega)).1 key
  exact dgs_inj (b := 4294967296) (by omega) key2
open Classical in
noncomputable def natOf (w : World) (v : Value) : Nat := if h : ∃ n, Nt w v n then h.choose else 0
theorem natOf_eq {w : World} {v : Value} {n : Nat} (h : Nt w v n) : natOf w v = n := by
  unfold natOf
  have he : ∃ n, Nt w v n := ⟨n, h⟩
  rw [dif_pos he]
  exact he.choose_spec.inj h
theorem top_lt (D m : Nat) (hm : (dgs 4294967296 D).length = m + 1) : D < (((dgs 4294967296 D)[m]'(by omega)) + 1) * 4294967296 ^ m := by
  have h1 := val_dgs (b := 4294967296) (by omega) D
  rw [val_split 4294967296 _ m, val_drop 4294967296 _ m (by omega), List.drop_of_length_le (by omega), val_nil] at h1
  have h3 := val_take_lt (b := 4294967296) (by omega) (dgs 4294967296 D) (dgs32_lt D) m
  have h4 : ∀ P a : Nat, (a + 1) * P = P * (a + 4294967296 * 0) + P := fun P a => by grind
  rw [h4]; omega
/-- a function that returns a natural -/
def NatW (n : Nat) (w : World) (e : Ending) (w' : World) : Prop := ∃ v, e = .returned v ∧ Nt w' v n ∧ Below w.heap.size w w'

set_option maxRecDepth 100000 in
set_option maxHeartbeats 1000000 in
theorem t104 (va vb : Value) (A B : Nat) (w : World) (hA : Nt w va A) (hB : Nt w vb B) (hl : Lw A ≤ 900000) (hl' : Lw B ≤ 900000) :
    Calls Tryz.prog 104 #[va, vb] w (NatW (Nat.gcd A B) w) := by
  have HA := Lib.hid hA
  have HB := Lib.hid hB
  clear hA hB
  go_enter Tryz.func104, Tryz.ntmps104
  go_wp2
  go_loopw [0, 1] (fun u v wr => ∃ X Y : Nat, Hid (Nt wr u X) ∧ Hid (Nt wr v Y) ∧ Lw X ≤ 900000 ∧ Lw Y ≤ 900000 ∧ Hid (Nat.gcd X Y = Nat.gcd A B) ∧ Below w.heap.size w wr) (fun _ v wr => natOf wr v)
  case atStart => exact ⟨A, B, HA, HB, hl, hl', rfl, Below.refl _ _⟩
  case round =>
    obtain ⟨X, Y, hX, hY, hlX, hlY, hg, hbl⟩ := hrel
    by_cases h0 : Y = 0
    · subst h0
      obtain ⟨p, cb, rfl, -, -, -⟩ := hY.out.cells
      have hz : Lw 0 = 0 := rfl
      rw [hz]
      have HG : Hid (X = Nat.gcd A B) := by show _ = _; rw [← hg.out, Nat.gcd_zero_right]
      clear hz
      go_wp2
      go_ret
      refine ⟨_, rfl, ?_, hbl⟩
      rw [← HG.out]
      exact hX.out
    · rename_i u v
      obtain ⟨p, cb, hv, _, _, _⟩ := hY.out.cells
      subst hv
      have hpos := Lw_pos (show 0 < Y by omega)
      have c := t141 u0 _ X Y wr hX.out hY.out hlX hlY (by omega)
      have hgt : (0 : Int) < Lw Y := by omega
      have HN := Lib.hid (natOf_eq hY.out)
      have hG2 : Hid (Nat.gcd Y (X % Y) = Nat.gcd A B) := by
        show _ = _
        rw [← hg.out, Nat.gcd_comm Y, ← Nat.gcd_rec, Nat.gcd_comm]
      have hlm := Lw_mono (Nat.le_of_lt (Nat.mod_lt X (show 0 < Y by omega)))
      have HY0 : Hid (0 < Y) := by show _ < _; omega
      clear h0
      go_wp2_with fail
      with_reducible refine c.mono ?_
      rintro e w2 ⟨vq, vr, rfl, hq, hr, hb2⟩
      have HR := Lib.hid hr
      have HY2 := Lib.hid (hY.out.below hb2)
      have hB2 := hbl.trans (hb2.mono hbl.size)
      clear hq hr hb2
      go_wp2_with fail
      go_roundw
      case rel => exact ⟨Y, X % Y, HY2, HR, hlY, by omega, hG2, hB2⟩
      case measure => rw [natOf_eq HR.out, HN.out]; exact Nat.mod_lt _ HY0.out

theorem Lw_two (n : Nat) : Lw (2 ^ n) ≤ n / 32 + 1 := by
  rw [Lw_le]
  have h1 : (4294967296 : Nat) = 2 ^ 32 := by decide
  rw [h1, ← Nat.pow_mul]
  exact Nat.pow_lt_pow_right (by omega) (by omega)
theorem val_two (B n k r : Nat) (hn : n = 32 * k + r) (hB : B = 2 ^ 32) : val B ((List.replicate (k + 1) 0).set k (2 ^ r)) = 2 ^ n := by
  have h1 := val_set B (List.replicate (k + 1) 0) k (2 ^ r) (by simp)
  rw [val_replicate, List.getElem_replicate, Nat.mul_zero, Nat.add_zero, Nat.zero_add] at h1
  rw [h1, hB, ← Nat.pow_mul, ← Nat.pow_add, hn]
theorem last_two (k x : Nat) : ((List.replicate (k + 1) 0).set k x).getLast? = some x := by
  rw [List.getLast?_eq_getElem?]
  simp
theorem dgs_two (n : Nat) : dgs 4294967296 (2 ^ n) = (List.replicate (n / 32 + 1) 0).set (n / 32) (2 ^ (n % 32)) := by
  rw [← val_two 4294967296 n (n / 32) (n % 32) (by omega) (by decide)]
  refine dgs_val (by omega) _ (set_lt _ (fun d hd => by rw [(List.mem_replicate.1 hd).2]; omega) _ _ ?_) (fun x hx => ?_)
  · exact Nat.lt_of_lt_of_le (Nat.pow_lt_pow_right (by omega) (show n % 32 < 32 by omega)) (by decide)
  · rw [last_two] at hx
    have : 2 ^ (n % 32) = x := by simpa using hx
    have := Nat.pow_pos (n := n % 32) (show 0 < 2 by omega)
    omega
theorem two_cast (n : Nat) : (1 : Int) * 2 ^ n = ((2 ^ n : Nat) : Int) := by rw [Int.one_mul]; exact (Int.natCast_pow 2 n).symm

set_option maxRecDepth 100000 in
set_option maxHeartbeats 1000000 in
theorem t143 (n : Nat) (w : World) (hn : n ≤ 100000000) :
    Calls Tryz.prog 143 #[.int .i64 n] w (NatW (2 ^ n) w) := by
  have hr1 : 2 ^ (n % 32) < 4294967296 := Nat.lt_of_lt_of_le (Nat.pow_lt_pow_right (by omega) (show n % 32 < 32 by omega)) (by decide)
  have hI : (2 : Int) ^ (n % 32) = ((2 ^ (n % 32) : Nat) : Int) := (Int.natCast_pow 2 (n % 32)).symm
  have HD := Lib.hid (dgs_two n)
  have HI := Lib.hid hI
  have h0 : (0 : Int) ≤ n := by omega
  clear hI
  go_enter Tryz.func143, Tryz.ntmps143
  go_wp2_with (at_make; refine mk32 _ rfl _ _ rfl _ _ (n / 32 + 1) rfl rfl (by omega) (by omega) (by omega) ?_; intro w1 hb1 hbl1; have hcell : w1.cell? ⟨w.heap.size, n / 32, none⟩ = some (.int .u32 (0 : Nat)) := hb1.out.cell (n / 32) (c32_get (by simp)); have hfree : w1.frozen? ⟨w.heap.size, n / 32, none⟩ = false := hb1.out.free _)
  go_ret
  refine ⟨_, rfl, ?_, hbl1.setCell (Nat.le_refl _) _⟩
  have hI2 : (2 : Int) ^ (n % 32) % 4294967296 = ((2 ^ (n % 32) : Nat) : Int) := by rw [HI.out]; exact Int.emod_eq_of_lt (Int.natCast_nonneg _) (Int.ofNat_lt.2 hr1)
  have h2 := hb1.out.set (n / 32) (.int .u32 ((2 ^ (n % 32) : Nat) : Int))
  rw [c32, ← List.map_set, ← HD.out] at h2
  have hL : (dgs 4294967296 (2 ^ n)).length = n / 32 + 1 := by rw [HD.out]; simp
  have h3 := h2.row (base := 0) (n := n / 32 + 1) (Nat.zero_le _) (by rw [List.length_map, hL]; omega) (by rw [List.length_map, hL]; unfold maxLen; omega)
  rw [hI2]
  unfold Nt
  rw [hL]
  rw [List.length_map, hL, List.take_of_length_le (by rw [List.length_map, hL]; omega)] at h3
  exact h3

theorem Lw_ten (n : Nat) : Lw (10 ^ n) ≤ n + 1 := by
  rw [Lw_le]
  exact Nat.lt_of_le_of_lt (Nat.pow_le_pow_left (show 10 ≤ 4294967296 by omega) n) (Nat.pow_lt_pow_right (by omega) (by omega))
set_option maxRecDepth 100000 in
set_option maxHeartbeats 1000000 in
theorem t146 (n : Nat) (w : World) (hn : n ≤ 100000) :
    Calls Tryz.prog 146 #[.int .i64 n] w (NatW (10 ^ n) w) := by
  go_enter Tryz.func146, Tryz.ntmps146
  go_wp2
  go_loopw [6, 3] (fun i v wr => ∃ k : Nat, k ≤ n ∧ i = .int .i64 k ∧ Hid (Nt wr v (10 ^ k)) ∧ Below w.heap.size w wr) (fun i _ _ => n - (intOf i).toNat)
  case atStart => exact ⟨0, by omega, rfl, nt_one w (n := 1) (by omega) (by omega), (Below.refl _ _).alloc (Nat.le_refl _) _⟩
  case round =>
    obtain ⟨k, hk, rfl, hv, hbl⟩ := hrel
    by_cases hlt : k < n
    · have hb1 : Below w.heap.size w (wr.alloc (.cells #[.int .u32 ((10 : Nat) : Int)] 143)) := hbl.alloc hbl.size _
      have c := t140 u3 _ (10 ^ k) 10 _ (hv.out.below ((Below.refl _ _).alloc (Nat.le_refl _) (.cells #[.int .u32 ((10 : Nat) : Int)] 143))) (nt_one wr (n := 10) (by omega) (by omega)) (Nat.le_trans (Lw_ten k) (by omega)) (Nat.le_trans (Lw_small (by omega)) (by omega))
      have C := Lib.hid c
      have HB1 := Lib.hid hb1
      clear c hb1
      go_wp2_with fail
      refine C.out.mono ?_
      rintro e w2 ⟨v, rfl, hN, hb2, -⟩
      have HN := Lib.hid hN
      have hB2 := HB1.out.trans (hb2.mono HB1.out.size)
      clear hN hb2
      go_wp2_with fail
      go_roundw
      case rel => exact ⟨k + 1, by omega, by go_num, by rw [Nat.pow_succ]; exact HN, hB2⟩
      case measure => first | (simp [intOf]; omega) | simp [intOf]
    · obtain rfl : k = n := by omega
      go_wp2
      go_ret
      exact ⟨_, rfl, hv.out, hbl⟩

set_option maxRecDepth 100000 in
set_option maxHeartbeats 1000000 in
theorem t122 (va : Value) (A : Nat) (w : World) (hA : Nt w va A) (hl : Lw A ≤ 1000000) :
    Calls Tryz.prog 122 #[va] w fun e w' => e = .returned (.int .i64 ((dgs 2 A).length : Nat)) ∧ w = w' := by
  obtain ⟨p, ca, rfl, -, -, hc⟩ := hA.cells
  by_cases h0 : A = 0
  · subst h0
    rw [show Lw 0 = 0 from rfl, show (dgs 2 0).length = 0 from rfl]
    clear hc hA
    go_enter Tryz.func122, Tryz.ntmps122
    go_wp2
    go_ret
    exact ⟨rfl, rfl⟩
  · have h1 : 0 < Lw A := Lw_pos (by omega)
    obtain ⟨m, hm⟩ : ∃ m, Lw A = m + 1 := ⟨Lw A - 1, by omega⟩
    have hAd : (dgs 4294967296 A).length = m + 1 := hm
    obtain ⟨gb, rfl, -, hcb⟩ := hc m _ (List.getElem?_eq_getElem (by omega : m < (dgs 4294967296 A).length))
    have htl := dgs32_lt A _ (List.getElem_mem (by omega : m < (dgs 4294967296 A).length))
    have ht1 := top_one A m hAd
    have ht2 := top_lt A m hAd
    generalize (dgs 4294967296 A)[m]'(by omega) = t at hcb htl ht1 ht2
    obtain ⟨hb0, hb1, hb2⟩ := bitLen_spec t ht1.2 (by omega)
    have hb3 : Lib.bitLen t ≤ 32 := Lib.bitLen_le t 32 (by omega) htl
    have hN := Lib.hid (bits_of (N := A) (k := m) (t := t) (m := Lib.bitLen t) ht1.1 ht2 hb1 hb2 ht1.2)
    have c := Tryz.bits_Len32 t w (by omega) (by omega)
    rw [show ((t : Int)).toNat = t from Int.toNat_natCast t] at c
    rw [hm]
    generalize Lib.bitLen t = bl at *
    have C := Lib.hid c
    have hi : (m : Int) < (m : Int) + 1 := by omega
    have hmb : m ≤ 1000000 := by omega
    clear c hm hAd hA ht1 ht2 hb1 hb2
    go_enter Tryz.func122, Tryz.ntmps122
    go_wp2_with fail
    refine C.out.mono ?_
    rintro e w' ⟨rfl, rfl⟩
    go_wp2_with fail
    go_ret
    exact ⟨by rw [hN.out]; go_num, rfl⟩

theorem root_pos {N G : Nat} (hN : 0 < N) (h : N < (G + 1) * (G + 1)) : 0 < G := by
  rcases Nat.eq_zero_or_pos G with h0 | h0
  · subst h0; omega
  · exact h0
theorem cmpN_ge {x y : Nat} (h : y ≤ x) : ¬ (cmpN x y < 0) ∧ (0 ≤ cmpN x y) := by
  unfold cmpN; rw [if_neg (by omega)]; split <;> decide
set_option maxRecDepth 100000 in
set_option maxHeartbeats 4000000 in
theorem t102 (va : Value) (A : Nat) (w : World) (hA : Nt w va A) (hl : Lw A ≤ 400000) :
    Calls Tryz.prog 102 #[va] w (NatW (isq A) w) := by
  by_cases h0 : A = 0
  · subst h0
    obtain ⟨p, ca, rfl, -, -, -⟩ := hA.cells
    rw [show Lw 0 = 0 from rfl, show isq 0 = 0 from rfl]
    clear hA
    go_enter Tryz.func102, Tryz.ntmps102
    go_wp2
    go_ret
    exact ⟨_, rfl, nt_nil _, Below.refl _ _⟩
  · have c1 := t122 va A w hA (by omega)
    obtain ⟨p, ca, rfl, -, -, -⟩ := hA.cells
    have h1 : 0 < Lw A := Lw_pos (by omega)
    have hbl2 : (dgs 2 A).length ≤ 32 * Lw A := by
      rw [dgs_length_le (by omega), Nat.pow_mul]
      exact lt_Lw A
    have hst : A < (2 ^ (((dgs 2 A).length + 1) / 2) + 1) * (2 ^ (((dgs 2 A).length + 1) / 2) + 1) := start_ge A _ (lt_pow_dgs (by omega) A)
    have hG0 := Lw_two (((dgs 2 A).length + 1) / 2)
    generalize (dgs 2 A).length = bl at *
    have HST := Lib.hid hst
    have HA := Lib.hid hA
    have HA0 : Hid (0 < A) := by show _ < _; omega
    have hlx : ((Lw A : Nat) : Int) ≠ 0 := by omega
    generalize hX : Lw A = X at *
    have HX := Lib.hid hX
    clear hst hX hA h0
    go_enter Tryz.func102, Tryz.ntmps102
    go_wp2_with (go_at_call 122; (with_reducible refine c1.mono ?_); rintro e w' ⟨rfl, rfl⟩)
    have e1 : ((bl : Int) + 1) / 2 = (((bl + 1) / 2 : Nat) : Int) := by omega
    rw [e1]
    have c2 := t143 ((bl + 1) / 2) w (by omega)
    generalize 2 ^ ((bl + 1) / 2) = G0 at *
    have C2 := Lib.hid c2
    clear c2 e1 c1
    refine C2.out.mono ?_
    rintro e w1 ⟨v1, rfl, hG, hb1⟩
    have HG := Lib.hid hG
    clear hG
    go_wp2_with fail
    go_loopw [3] (fun u wr => ∃ G : Nat, Hid (Nt wr u G) ∧ Lw G ≤ 500000 ∧ Hid (A < (G + 1) * (G + 1)) ∧ Below w.heap.size w wr) (fun u wr => natOf wr u)
    case atStart => exact ⟨G0, HG, by omega, HST, hb1⟩
    case round =>
      obtain ⟨G, hG, hlG, hlt, hbl⟩ := hrel
      have hG0 := root_pos HA0.out hlt.out
      have c3 := t141 _ u3 A G wr (HA.out.below hbl) hG.out (by rw [HX.out]; omega) (by omega) hG0
      have C3 := Lib.hid c3
      have hQ1 : Lw (A / G) ≤ X := by rw [← HX.out]; exact Lw_mono (Nat.div_le_self _ _)
      have hS1 := Lw_add G (A / G)
      have hS2 : Lw ((G + A / G) / 2) ≤ Lw (G + A / G) := Lw_mono (Nat.div_le_self _ _)
      have HNEW := Lib.hid (newton_ge A G hG0)
      have HSTOP := Lib.hid (newton_stop A G)
      have HNAT := Lib.hid (natOf_eq hG.out)
      clear c3
      go_wp2_with fail
      refine C3.out.mono ?_
      rintro e w2 ⟨vq, vr, rfl, hq, -, hb2⟩
      have c4 := t137 u3 vq G (A / G) w2 (hG.out.below hb2) hq (by omega) (by omega)
      have C4 := Lib.hid c4
      have HB2 := Lib.hid (hbl.trans (hb2.mono hbl.size))
      have HG2 := Lib.hid (hG.out.below hb2)
      clear c4 hq hb2
      go_wp2_with fail
      refine C4.out.mono ?_
      rintro e w3 ⟨vs, rfl, hs, hb3, -⟩
      have c5 := t144 vs (G + A / G) 2 w3 hs (by omega) (by omega) (by omega)
      have C5 := Lib.hid c5
      have HB3 := Lib.hid (HB2.out.trans (hb3.mono HB2.out.size))
      have HG3 := Lib.hid (HG2.out.below hb3)
      clear c5 hs hb3
      go_wp2_with fail
      refine C5.out.mono ?_
      rintro e w4 ⟨vn, rfl, hn, hb4⟩
      have HB4 := Lib.hid (HB3.out.trans (hb4.mono HB3.out.size))
      have HG4 := Lib.hid (HG3.out.below hb4)
      have HN4 := Lib.hid hn
      have C6 := Lib.hid (t138 vn u3 ((G + A / G) / 2) G w4 hn HG4.out (by omega) (by omega))
      clear hn hb4
      go_wp2_with fail
      refine C6.out.mono ?_
      rintro e w5 ⟨rfl, n5, rfl⟩
      have hB5 : Below w.heap.size w (w4.drewN n5) := below_drewN HB4.out n5
      by_cases hge : G ≤ (G + A / G) / 2
      · have hc := cmpN_ge hge
        have HR : Hid (G = isq A) := isRoot_unique ⟨HSTOP.out hge, hlt.out⟩ (isq_spec A)
        generalize cmpN ((G + A / G) / 2) G = cv at *
        obtain ⟨hc1, hc2⟩ := hc
        clear hge
        go_wp2_with fail
        go_ret
        refine ⟨_, rfl, ?_, hB5⟩
        rw [← HR.out]
        exact HG4.out.drewN n5
      · have hc := cmpN_lt (show (G + A / G) / 2 < G by omega)
        rw [hc]
        have HM : Hid ((G + A / G) / 2 < G) := by show _ < _; omega
        clear hc hge
        go_wp2_with fail
        go_roundw
        case rel => exact ⟨(G + A / G) / 2, HN4.out.drewN n5, Nat.le_trans (Lw_mono (Nat.le_of_lt HM.out)) hlG, HNEW.out, hB5⟩
        case measure => rw [natOf_eq (HN4.out.drewN n5), HNAT.out]; exact HM.out
end Go.Proofs.YtifhiefdhhmdeaaGreatDoor
