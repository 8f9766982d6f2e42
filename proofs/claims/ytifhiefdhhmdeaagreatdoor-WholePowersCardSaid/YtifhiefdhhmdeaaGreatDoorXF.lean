/- Pow, the program's and the reference's; small lemmas for Mod. -/
import Derived.Test.YtifhiefdhhmdeaaGreatDoorXD
import Derived.Test.YtifhiefdhhmdeaaGreatDoorZO
import Derived.Deep.RegionHeld3
namespace Go.Proofs.YtifhiefdhhmdeaaGreatDoor
open Go Go.RowKit

theorem ten_two : ∀ a b : Nat, a = 400 → b = 1329 → 10 ^ a < 2 ^ b := by
  rintro _ _ rfl rfl
  decide +kernel
theorem fits_iff {z : Int} : fits z ↔ ∀ a, a = 400 → z.natAbs < 10 ^ a := by
  constructor
  · intro h a ha
    exact Dl_iff.1 (show Dl z a by rw [ha]; exact h)
  · intro h
    obtain ⟨a, ha⟩ : ∃ a : Nat, a = 400 := ⟨_, rfl⟩
    have h1 : Dl z a := Dl_iff.2 (h a ha)
    rw [ha] at h1
    exact h1
/-- what has so many binary digits is no number -/
theorem bits_fits {z : Int} (h : 1330 ≤ (dgs 2 z.natAbs).length) : ¬ fits z := by
  intro hf
  obtain ⟨a, ha⟩ : ∃ a : Nat, a = 400 := ⟨_, rfl⟩
  obtain ⟨b, hb⟩ : ∃ b : Nat, b = 1329 := ⟨_, rfl⟩
  have h1 := ten_two a b ha hb
  have h2 := fits_iff.1 hf a ha
  have h3 := pow_le_of_length (b := 2) (by omega) z.natAbs b (by omega)
  omega
theorem pow_abs (x : Int) (n : Nat) : (x ^ n).natAbs = x.natAbs ^ n := Int.natAbs_pow x n
/-- once it is too long it stays too long -/
theorem pow_more {x : Int} {k n : Nat} (h : k ≤ n) (hf : ¬ fits (x ^ k)) : ¬ fits (x ^ n) := by
  intro hn
  refine hf (fits_iff.2 fun a ha => ?_)
  have h1 := fits_iff.1 hn a ha
  rw [pow_abs] at h1 ⊢
  rcases Nat.eq_zero_or_pos x.natAbs with h0 | h0
  · rw [h0]
    cases k with
    | zero => rw [Nat.pow_zero, ha]; decide +kernel
    | succ k => rw [Nat.zero_pow (by omega)]; exact Nat.pow_pos (by omega)
  · exact Nat.lt_of_le_of_lt (Nat.pow_le_pow_right h0 h) h1
theorem told_not {y z : Int} (hy : ¬ fits y) (hz : ¬ fits z) : toldS y = toldS z ∧ toldE y = toldE z := by
  unfold toldS toldE
  rw [if_neg hy, if_neg hz, if_neg hy, if_neg hz]
  exact ⟨rfl, rfl⟩
theorem told_none {z : Int} (hz : ¬ fits z) : toldS z = ⟨#[]⟩ ∧ toldE z = 2 := by
  unfold toldS toldE
  rw [if_neg hz, if_neg hz]
  exact ⟨rfl, rfl⟩
/-- a power modulo y, from what is reached so far -/
def pmF (y : Int) : Nat → Nat → Int → Int → Int
  | 0, _, p, _ => p
  | F + 1, n, p, f => if n = 0 then p else pmF y F (n / 2) (if n % 2 = 1 then fr (p * f) y else p) (fr (f * f) y)
theorem pmF_fuel (y : Int) : ∀ F G n p f, n ≤ F → n ≤ G → pmF y F n p f = pmF y G n p f
  | 0, 0, n, p, f, _, _ => rfl
  | 0, G + 1, n, p, f, h, _ => by simp [pmF, show n = 0 by omega]
  | F + 1, 0, n, p, f, _, h => by simp [pmF, show n = 0 by omega]
  | F + 1, G + 1, n, p, f, h, k => by
    unfold pmF
    by_cases h0 : n = 0
    · rw [if_pos h0, if_pos h0]
    · rw [if_neg h0, if_neg h0]
      exact pmF_fuel y F G _ _ _ (by omega) (by omega)
def pm (y : Int) (n : Nat) (p f : Int) : Int := pmF y n n p f
theorem pm_zero (y p f : Int) : pm y 0 p f = p := rfl
theorem pm_step (y : Int) (n : Nat) (p f : Int) (h : 0 < n) : pm y n p f = pm y (n / 2) (if n % 2 = 1 then fr (p * f) y else p) (fr (f * f) y) := by
  unfold pm
  obtain ⟨m, rfl⟩ : ∃ m, n = m + 1 := ⟨n - 1, by omega⟩
  rw [show pmF y (m + 1) (m + 1) p f = if m + 1 = 0 then p else pmF y m ((m + 1) / 2) (if (m + 1) % 2 = 1 then fr (p * f) y else p) (fr (f * f) y) from rfl, if_neg (by omega)]
  exact pmF_fuel y _ _ _ _ _ (by omega) (by omega)
theorem fr_small {x y : Int} (h : 0 < y) (hf : fits y) : fits (fr x y) := by
  obtain ⟨-, h1, -⟩ := fqr x y (by omega)
  have h2 := h1 h
  exact Dl_abs (x := fr x y) (y := y) (by omega) hf
/-- the power, or one on the way to it that is too long -/
def PowZ (x : Int) (n : Nat) (z : Int) : Prop := z = x ^ n ∨ (1330 ≤ (dgs 2 z.natAbs).length ∧ ∃ k, k ≤ n ∧ z = x ^ k)
def PowR (x : Int) (n : Nat) (w : World) (e : Ending) (w' : World) : Prop := ∃ z v, PowZ x n z ∧ Lw z.natAbs ≤ 50000 ∧ e = .returned (.agg #[.bool (decide (z < 0)), v]) ∧ Nt w' v z.natAbs ∧ Below w.heap.size w w'
theorem Lw_bits (n : Nat) : Lw n ≤ (dgs 2 n).length := by
  rw [Lw_le]
  exact Nat.lt_of_lt_of_le (lt_pow_dgs (b := 2) (by omega) n) (Nat.pow_le_pow_left (by omega) _)
theorem bThen0 {w X Y : World} (h : Below w.heap.size w X) (k : Below X.heap.size X Y) : Below w.heap.size w Y := h.trans (k.mono h.size)
/-- what lies in memory while power runs -/
structure Pw (w W : World) (b : Bool) (va : Value) (x : Int) (gp : Nat) (c : Bool) (v : Value) (z : Int) : Prop where
  ka : Blk W w.heap.size 67 [.bool b, va]
  kr : Blk W (w.heap.size + 1) 67 [.bool false, .slice none 0 0]
  kp : Blk W gp 67 [.bool c, v]
  na : Nt W va x.natAbs
  nz : Nt W v z.natAbs
  bel : Below w.heap.size w W
theorem Pw.next {w W W' : World} {b c : Bool} {va v : Value} {x z : Int} {gp : Nat} (h : Pw w W b va x gp c v z) (hb : Below W.heap.size W W') : Pw w W' b va x gp c v z :=
  ⟨h.ka.below hb h.ka.lt, h.kr.below hb h.kr.lt, h.kp.below hb h.kp.lt, h.na.below hb, h.nz.below hb, bThen0 h.bel hb⟩
/-- a new number is stored -/
theorem Pw.put {w W : World} {b c : Bool} {va v : Value} {x z : Int} {gp : Nat} (h : Pw w W b va x gp c v z) (hg : w.heap.size + 2 ≤ gp) (c' : Bool) (u : Value) (y : Int) (hu : Nt W u y.natAbs) :
    Pw w ((W.setCell ⟨gp, 0, none⟩ (.bool c')).setCell ⟨gp, 1, none⟩ u) b va x gp c' u y :=
  ⟨(h.ka.setOther ⟨gp, 0, none⟩ _ (by show w.heap.size ≠ gp; omega)).setOther ⟨gp, 1, none⟩ _ (by show w.heap.size ≠ gp; omega), (h.kr.setOther ⟨gp, 0, none⟩ _ (by show w.heap.size + 1 ≠ gp; omega)).setOther ⟨gp, 1, none⟩ _ (by show w.heap.size + 1 ≠ gp; omega), (h.kp.set 0 _).set 1 _,
    (h.na.setCell (h.na.ne67 h.kp)).setCell (h.na.ne67 h.kp), (hu.setCell (hu.ne67 h.kp)).setCell (hu.ne67 h.kp), (h.bel.setCell (by show w.heap.size ≤ gp; omega) _).setCell (by show w.heap.size ≤ gp; omega) _⟩
set_option maxRecDepth 100000 in
set_option maxHeartbeats 4000000 in
theorem t57 (x : Int) (b : Bool) (va : Value) (n : Nat) (w : World) (hb : b = decide (x < 0)) (hA : Nt w va x.natAbs) (hl : Lw x.natAbs ≤ 40000) (hn : n ≤ 1000) :
    Calls Tryz.prog 57 #[.agg #[.bool b, va], .int .i64 n] w (PowR x n w) := by
  obtain ⟨pa, ca, rfl, -, -, -⟩ := hA.cells
  have HB := Lib.hid hb
  have hB0 : Below w.heap.size w ((w.alloc (.cells #[.bool b, .slice pa (Lw x.natAbs) ca] 67)).alloc (.cells #[.bool false, .slice none 0 0] 67)) := ((Below.refl _ _).alloc (Nat.le_refl _) _).alloc (by simp) _
  have HKA := Lib.hid ((Blk.new w #[.bool b, .slice pa (Lw x.natAbs) ca] 67).alloc (.cells #[.bool false, .slice none 0 0] 67))
  have HKR : Hid (Blk ((w.alloc (.cells #[.bool b, .slice pa (Lw x.natAbs) ca] 67)).alloc (.cells #[.bool false, .slice none 0 0] 67)) (w.heap.size + 1) 67 [.bool false, .slice none 0 0]) := by
    have := Blk.new (w.alloc (.cells #[.bool b, .slice pa (Lw x.natAbs) ca] 67)) #[.bool false, .slice none 0 0] 67
    show Blk _ _ _ _
    simpa using this
  have HNA := Lib.hid (hA.below hB0)
  have HB0 := Lib.hid hB0
  have HL := Lib.hid hl
  clear hb hA hB0 hl
  go_enter Tryz.func57, Tryz.ntmps57
  go_wp2_with fail
  refine (t123 _).mono ?_
  rintro e w1 ⟨v1, rfl, hv1, hb1⟩
  obtain ⟨p1, c1, rfl, -, -, -⟩ := hv1.cells
  have hsz : w.heap.size + 2 ≤ w1.heap.size := by have := hb1.size; simp at this; omega
  have HS0 : Hid (Pw w (w1.alloc (.cells #[.bool false, .slice p1 (Lw 1) c1] 67)) b (.slice pa (Lw x.natAbs) ca) x w1.heap.size false (.slice p1 (Lw 1) c1) 1) := by
    have hS : Below w1.heap.size w1 (w1.alloc (.cells #[.bool false, .slice p1 (Lw 1) c1] 67)) := (Below.refl _ _).alloc (Nat.le_refl _) _
    have k := HKA.out.below hb1 HKA.out.lt
    have k2 := HKR.out.below hb1 HKR.out.lt
    exact ⟨k.below hS k.lt, k2.below hS k2.lt, Blk.new w1 #[.bool false, .slice p1 (Lw 1) c1] 67, (HNA.out.below hb1).below hS, hv1.below hS, bThen0 (bThen0 HB0.out hb1) hS⟩
  clear hv1 hb1 HKA HKR HNA HB0
  go_wp2_with fail
  generalize w1.alloc (.cells #[.bool false, .slice p1 (Lw 1) c1] 67) = W1 at *
  generalize w1.heap.size = gp at *
  go_loopw [8] (fun i wr => ∃ (k : Nat) (z : Int) (c : Bool) (v : Value), k ≤ n ∧ i = .int .i64 k ∧ Hid (z = x ^ k) ∧ Hid (c = decide (z < 0)) ∧ Lw z.natAbs ≤ 50000 ∧ Hid (Pw w wr b (.slice pa (Lw x.natAbs) ca) x gp c v z)) (fun i _ => n - (intOf i).toNat)
  case atStart => exact ⟨0, 1, false, _, Nat.zero_le _, rfl, (by show _ = _; rw [Int.pow_zero]), rfl, by rw [show Lw (Int.natAbs 1) = 1 by rfl]; omega, HS0⟩
  case round =>
    obtain ⟨k, z, c, v, hk, rfl, HZ, HC, hlz, hS⟩ := hrel
    obtain ⟨wo, rfl⟩ : ∃ wo : World, wo = wr := ⟨_, rfl⟩
    clear HS0
    by_cases hlt : k < n
    · have C122 := Lib.hid (t122 v z.natAbs wo hS.out.nz (by omega))
      obtain ⟨L, hL⟩ : ∃ L : Nat, L = (dgs 2 z.natAbs).length := ⟨_, rfl⟩
      rw [← hL] at C122
      have HLL := Lib.hid hL
      have hLb : L ≤ 2000000 := by
        rw [hL]
        have h1 := (dgs_length_le (b := 2) (by omega) z.natAbs (32 * Lw z.natAbs)).2 (by rw [Nat.pow_mul]; exact lt_Lw _)
        omega
      obtain ⟨pz, cz, rfl, -, -, -⟩ := hS.out.nz.cells
      have r0 := hS.out.kp.cell 0 rfl
      have r1 := hS.out.kp.cell 1 rfl
      clear hL
      by_cases hbig : 1330 ≤ L
      · go_wp2_with fail
        refine C122.out.mono ?_
        rintro e w2 ⟨rfl, rfl⟩
        clear r0 r1
        have HS := hS
        have r0 := HS.out.kp.cell 0 rfl
        have r1 := HS.out.kp.cell 1 rfl
        have s0 := HS.out.kr.cell 0 rfl
        have s1 := HS.out.kr.cell 1 rfl
        have f0 := HS.out.kr.free 0
        have f1 := HS.out.kr.free 1
        go_wp2
        have g0 : (wo.setCell ⟨w.heap.size + 1, 0, none⟩ (.bool c)).cell? ⟨w.heap.size + 1, 0, none⟩ = some (.bool c) := (HS.out.kr.set 0 _).cell 0 rfl
        have g1 : ((wo.setCell ⟨w.heap.size + 1, 0, none⟩ (.bool c)).setCell ⟨w.heap.size + 1, 1, none⟩ (.slice pz (Lw z.natAbs) cz)).cell? ⟨w.heap.size + 1, 1, none⟩ = some (.slice pz (Lw z.natAbs) cz) := ((HS.out.kr.set 0 _).set 1 _).cell 1 rfl
        refine bodyPost_ret (v := .agg #[.bool c, .slice pz (Lw z.natAbs) cz]) (by simp [results, Tryz.results57, go_sem, g0, g1]) rfl ?_
        exact ⟨z, _, .inr ⟨by rw [← HLL.out]; exact hbig, k, by omega, HZ.out⟩, hlz, by rw [HC.out], (HS.out.nz.setCell (HS.out.nz.ne67 HS.out.kr)).setCell (HS.out.nz.ne67 HS.out.kr), (HS.out.bel.setCell (by show w.heap.size ≤ w.heap.size + 1; omega) _).setCell (by show w.heap.size ≤ w.heap.size + 1; omega) _⟩
      · have hsm : (L : Int) < 1330 := by omega
        have h2 := hS.out.ka.cell 0 rfl
        have h3 := hS.out.ka.cell 1 rfl
        have hlw : Lw z.natAbs ≤ 1330 := by have h1 := Lw_bits z.natAbs; have h2 := HLL.out; omega
        have D := Lib.hid (t95I z x c b _ _ wo HC.out HB.out hS.out.nz hS.out.na (by omega) (Nat.le_trans HL.out (by omega)))
        have hly : Lw (z * x).natAbs ≤ 50000 := by rw [Int.natAbs_mul]; have h1 := Lw_mul z.natAbs x.natAbs; have h2 := HL.out; omega
        have HZ2 : Hid (z * x = x ^ (k + 1)) := by show _ = _; rw [HZ.out, Int.pow_succ]
        clear hbig hlw
        generalize z * x = y at *
        obtain ⟨cy, hcy⟩ : ∃ cy : Bool, cy = decide (y < 0) := ⟨_, rfl⟩
        have D2 : Hid (Calls Tryz.prog 95 #[.agg #[.bool c, .slice pz (Lw z.natAbs) cz], .agg #[.bool b, .slice pa (Lw x.natAbs) ca]] wo fun e w' => ∃ v, e = .returned (.agg #[.bool cy, v]) ∧ Nt w' v y.natAbs ∧ Below wo.heap.size wo w') := D.out.mono fun _ _ h => by rw [hcy]; exact h
        have HCY := Lib.hid hcy
        clear D hcy
        go_wp2_with fail
        refine C122.out.mono ?_
        rintro e w2 ⟨rfl, rfl⟩
        go_wp2_with fail
        refine D2.out.mono ?_
        rintro e w3 ⟨v3, rfl, hv3, hb3⟩
        obtain ⟨p3, c3, rfl, -, -, -⟩ := hv3.cells
        have HS3 := Lib.hid (hS.out.next hb3)
        have q0 := HS3.out.kp.cell 0 rfl
        have q1 := HS3.out.kp.cell 1 rfl
        have f0 := HS3.out.kp.free 0
        have f1 := HS3.out.kp.free 1
        have HV3 := Lib.hid hv3
        clear r0 r1 h2 h3 hv3 hb3
        go_wp2
        go_roundw
        case rel => exact ⟨k + 1, y, cy, _, by omega, by go_num, HZ2, HCY, hly, HS3.out.put hsz cy _ y HV3.out⟩
        case measure => simp [intOf]; omega
    · obtain rfl : k = n := by omega
      clear hlt
      have HS := hS
      obtain ⟨pz, cz, rfl, -, -, -⟩ := HS.out.nz.cells
      have r0 := HS.out.kp.cell 0 rfl
      have r1 := HS.out.kp.cell 1 rfl
      have s0 := HS.out.kr.cell 0 rfl
      have s1 := HS.out.kr.cell 1 rfl
      have f0 := HS.out.kr.free 0
      have f1 := HS.out.kr.free 1
      go_wp2
      have g0 : (wo.setCell ⟨w.heap.size + 1, 0, none⟩ (.bool c)).cell? ⟨w.heap.size + 1, 0, none⟩ = some (.bool c) := (HS.out.kr.set 0 _).cell 0 rfl
      have g1 : ((wo.setCell ⟨w.heap.size + 1, 0, none⟩ (.bool c)).setCell ⟨w.heap.size + 1, 1, none⟩ (.slice pz (Lw z.natAbs) cz)).cell? ⟨w.heap.size + 1, 1, none⟩ = some (.slice pz (Lw z.natAbs) cz) := ((HS.out.kr.set 0 _).set 1 _).cell 1 rfl
      refine bodyPost_ret (v := .agg #[.bool c, .slice pz (Lw z.natAbs) cz]) (by simp [results, Tryz.results57, go_sem, g0, g1]) rfl ?_
      exact ⟨z, _, .inl HZ.out, hlz, by rw [HC.out], (HS.out.nz.setCell (HS.out.nz.ne67 HS.out.kr)).setCell (HS.out.nz.ne67 HS.out.kr), (HS.out.bel.setCell (by show w.heap.size ≤ w.heap.size + 1; omega) _).setCell (by show w.heap.size ≤ w.heap.size + 1; omega) _⟩
def PowQ (l : List UInt8) (n : Int) (w : World) (e : Ending) (w' : World) : Prop :=
  ((vldL l = false ∨ n < 0 ∨ 1000 < n) ∧ e = .returned (.tuple #[.string ⟨#[]⟩, .int .i64 1]) ∧ Below w.heap.size w w') ∨
  (∃ z, IsNum l z ∧ 0 ≤ n ∧ n ≤ 1000 ∧ e = .returned (.tuple #[.string (toldS (z ^ n.toNat)), .int .i64 (toldE (z ^ n.toNat))]) ∧ Below w.heap.size w w')
theorem powZ_told {x z : Int} {n : Nat} (h : PowZ x n z) : toldS z = toldS (x ^ n) ∧ toldE z = toldE (x ^ n) := by
  rcases h with rfl | ⟨h1, k, hk, rfl⟩
  · exact ⟨rfl, rfl⟩
  · have h2 := bits_fits h1
    exact told_not h2 (pow_more hk h2)
set_option maxRecDepth 100000 in
set_option maxHeartbeats 4000000 in
theorem t18 (s : ByteArray) (n : Int) (w : World) : Calls Tryz.prog 18 #[.string s, .int .i64 n] w (PowQ s.data.toList n w) := by
  by_cases hb : 0 ≤ n ∧ n ≤ 1000
  · obtain ⟨m, rfl⟩ := Int.eq_ofNat_of_zero_le hb.1
    have h1 : m ≤ 1000 := by omega
    have h1i : (m : Int) ≤ 1000 := hb.2
    have HB := Lib.hid hb
    clear hb
    go_enter Tryz.func18, Tryz.ntmps18
    go_wp2_with fail
    refine (t56 s w).mono ?_
    rintro e w1 (⟨hv, rfl, hb1⟩ | ⟨z, v, hz, rfl, hn, hb1⟩)
    · have HV := Lib.hid hv
      have HB1 := Lib.hid (hb1.alloc hb1.size (.cells #[.bool false, .slice none 0 0] 67))
      clear hv hb1
      go_wp2_with fail
      go_ret2
      exact .inl ⟨.inl HV.out, rfl, HB1.out⟩
    · have HZ := Lib.hid hz
      obtain ⟨p1, c1, rfl, -, -, -⟩ := hn.cells
      obtain ⟨c, hc⟩ : ∃ c : Bool, c = decide (z < 0) := ⟨_, rfl⟩
      rw [← hc]
      have hB1 := hb1.alloc hb1.size (.cells #[.bool c, .slice p1 (Lw z.natAbs) c1] 67)
      have C := Lib.hid (t57 z c _ m (w1.alloc (.cells #[.bool c, .slice p1 (Lw z.natAbs) c1] 67)) hc (hn.below ((Below.refl _ _).alloc (Nat.le_refl _) _)) (Nat.le_trans (fits_Lw hz.2) (by omega)) h1)
      have HB1 := Lib.hid hB1
      clear hz hn hb1 hB1 hc h1
      go_wp2_with fail
      refine C.out.mono ?_
      rintro e w2 ⟨y, u, hpz, hly, rfl, hu, hb2⟩
      obtain ⟨p2, c2, rfl, -, -, -⟩ := hu.cells
      have HT := Lib.hid (powZ_told hpz)
      have D := Lib.hid (t58 y (decide (y < 0)) _ w2 rfl hu (by omega))
      obtain ⟨d, hd⟩ : ∃ d : Bool, d = decide (y < 0) := ⟨_, rfl⟩
      rw [← hd] at D ⊢
      have hB2 := HB1.out.trans (hb2.mono HB1.out.size)
      clear hpz hu hb2 hd hly
      go_wp2_with fail
      refine D.out.mono ?_
      rintro e w3 ⟨rfl, hb3⟩
      have hB3 := hB2.trans (hb3.mono hB2.size)
      go_wp2_with fail
      go_ret2
      exact .inr ⟨z, HZ.out, HB.out.1, HB.out.2, by rw [HT.out.1, HT.out.2]; rfl, hB3⟩
  · have HB2 : Hid (n < 0 ∨ 1000 < n) := by show _ ∨ _; omega
    by_cases hneg : n < 0
    · clear hb
      go_enter Tryz.func18, Tryz.ntmps18
      go_wp2_with fail
      refine (t56 s w).mono ?_
      rintro e w1 (⟨hv, rfl, hb1⟩ | ⟨z, v, hz, rfl, hn, hb1⟩)
      · have HB1 := Lib.hid (hb1.alloc hb1.size (.cells #[.bool false, .slice none 0 0] 67))
        clear hv hb1
        go_wp2_with fail
        go_ret2
        exact .inl ⟨.inr HB2.out, rfl, HB1.out⟩
      · obtain ⟨p1, c1, rfl, -, -, -⟩ := hn.cells
        have HB1 := Lib.hid (hb1.alloc hb1.size (.cells #[.bool (decide (z < 0)), .slice p1 (Lw z.natAbs) c1] 67))
        clear hz hn hb1
        go_wp2_with fail
        go_ret2
        exact .inl ⟨.inr HB2.out, rfl, HB1.out⟩
    · have h0 : 0 ≤ n := by omega
      have hbig : 1000 < n := by omega
      clear hb hneg
      go_enter Tryz.func18, Tryz.ntmps18
      go_wp2_with fail
      refine (t56 s w).mono ?_
      rintro e w1 (⟨hv, rfl, hb1⟩ | ⟨z, v, hz, rfl, hn, hb1⟩)
      · have HB1 := Lib.hid (hb1.alloc hb1.size (.cells #[.bool false, .slice none 0 0] 67))
        clear hv hb1
        go_wp2_with fail
        go_ret2
        exact .inl ⟨.inr HB2.out, rfl, HB1.out⟩
      · obtain ⟨p1, c1, rfl, -, -, -⟩ := hn.cells
        have HB1 := Lib.hid (hb1.alloc hb1.size (.cells #[.bool (decide (z < 0)), .slice p1 (Lw z.natAbs) c1] 67))
        clear hz hn hb1
        go_wp2_with fail
        go_ret2
        exact .inl ⟨.inr HB2.out, rfl, HB1.out⟩

theorem one_dg' (w : World) : Dg (w.alloc (.cells #[.int .i64 1] 3)) (.slice (some ⟨w.heap.size, 0, none⟩) 1 1) 1 := by
  have h := ownsRow_mono (built_row w 1) (Nat.zero_le _)
  simpa [Dg, dgs, dgsF] using h
/-- what lies in memory while the reference's Pow runs -/
structure Pv (w W : World) (ga : Nat) (b : Bool) (va : Value) (x : Int) (gp : Nat) (c : Bool) (v : Value) (z : Int) : Prop where
  ka : Blk W ga 73 [.bool b, va]
  kp : Blk W gp 73 [.bool c, v]
  na : Dg W va x.natAbs
  nz : Dg W v z.natAbs
  bel : Below w.heap.size w W
theorem Dg.ne73' {w : World} {v : Value} {n g : Nat} {cs : List Value} (h : Dg w v n) (hb : Blk w g 73 cs) : v.ownBlock ≠ some g := by
  intro hg
  rcases row_cases h with ⟨_, h2 | ⟨g', cs', h2, _, _, h5, _⟩⟩
  · rw [h2.1] at hg; cases hg
  · rw [h2] at hg
    simp [Value.ownBlock] at hg
    subst hg
    have h9 : some (Obj.cells cs'.toArray 3 (0, 0)) = some (Obj.cells cs.toArray 73 (0, 0)) := h5.symm.trans hb
    simp at h9
theorem Pv.next {w W W' : World} {b c : Bool} {va v : Value} {x z : Int} {ga gp : Nat} (h : Pv w W ga b va x gp c v z) (hb : Below W.heap.size W W') : Pv w W' ga b va x gp c v z :=
  ⟨h.ka.below hb h.ka.lt, h.kp.below hb h.kp.lt, h.na.below hb, h.nz.below hb, bThen0 h.bel hb⟩
theorem Pv.put {w W : World} {b c : Bool} {va v : Value} {x z : Int} {ga gp : Nat} (h : Pv w W ga b va x gp c v z) (hne : ga ≠ gp) (hg : w.heap.size ≤ gp) (c' : Bool) (u : Value) (y : Int) (hu : Dg W u y.natAbs) :
    Pv w ((W.setCell ⟨gp, 0, none⟩ (.bool c')).setCell ⟨gp, 1, none⟩ u) ga b va x gp c' u y :=
  ⟨(h.ka.setOther ⟨gp, 0, none⟩ _ hne).setOther ⟨gp, 1, none⟩ _ hne, (h.kp.set 0 _).set 1 _,
    (h.na.setCell (h.na.ne73' h.kp)).setCell (h.na.ne73' h.kp), (hu.setCell (hu.ne73' h.kp)).setCell (hu.ne73' h.kp), (h.bel.setCell (by show w.heap.size ≤ gp; omega) _).setCell (by show w.heap.size ≤ gp; omega) _⟩
set_option maxRecDepth 100000 in
set_option maxHeartbeats 4000000 in
theorem t19 (s : ByteArray) (n : Int) (w : World) (hs : s.size ≤ 9223372036854775807) : Calls Tryz.prog 19 #[.string s, .int .i64 n] w (PowQ s.data.toList n w) := by
  have HC0 := all1 s w hs
  have HB0 : Hid (Below w.heap.size w (w.alloc (.cells #[.string s] 9))) := bSelf0 w _
  clear hs
  cases hv : vldL s.data.toList with
  | false =>
    rw [hv] at HC0
    have HC := Lib.hid HC0
    have HV := Lib.hid hv
    clear hv HC0
    go_enter Tryz.func19, Tryz.ntmps19
    go_wp2_with fail
    refine HC.out.mono ?_
    rintro e w1 ⟨rfl, rfl⟩
    go_wp2_with fail
    go_ret2
    exact .inl ⟨.inl HV.out, rfl, HB0.out⟩
  | true =>
    rw [hv] at HC0
    have HC := Lib.hid HC0
    obtain ⟨x, hx⟩ := vldL_num _ hv
    have HX := Lib.hid hx
    clear hv HC0 hx
    by_cases hneg : n < 0
    · have HB2 : Hid (n < 0 ∨ 1000 < n) := .inl hneg
      go_enter Tryz.func19, Tryz.ntmps19
      go_wp2_with fail
      refine HC.out.mono ?_
      rintro e w1 ⟨rfl, rfl⟩
      go_wp2_with fail
      go_ret2
      exact .inl ⟨.inr HB2.out, rfl, HB0.out⟩
    · by_cases hbig : 1000 < n
      · have HB2 : Hid (n < 0 ∨ 1000 < n) := .inr hbig
        have h0 : 0 ≤ n := by omega
        clear hneg
        go_enter Tryz.func19, Tryz.ntmps19
        go_wp2_with fail
        refine HC.out.mono ?_
        rintro e w1 ⟨rfl, rfl⟩
        go_wp2_with fail
        go_ret2
        exact .inl ⟨.inr HB2.out, rfl, HB0.out⟩
      · obtain ⟨m, rfl⟩ := Int.eq_ofNat_of_zero_le (show 0 ≤ n by omega)
        have HBN : Hid (0 ≤ (m : Int) ∧ (m : Int) ≤ 1000) := by show _ ∧ _; omega
        have hm : (m : Int) ≤ 1000 := by omega
        clear hneg hbig
        go_enter Tryz.func19, Tryz.ntmps19
        go_wp2_with fail
        refine HC.out.mono ?_
        rintro e w1 ⟨rfl, rfl⟩
        go_wp2_with fail
        refine (t60 s x _ HX.out).mono ?_
        rintro e w2 ⟨va, rfl, hva, hb2⟩
        obtain ⟨pa, ca, rfl, -, -, -⟩ := hva.cells
        obtain ⟨b, hb⟩ : ∃ b : Bool, b = decide (x < 0) := ⟨_, rfl⟩
        rw [← hb]
        have HBX := Lib.hid hb
        have hB2 := bThen0 HB0.out hb2
        have HS0 : Hid (Pv w (((w2.alloc (.cells #[.bool b, .slice pa (Ld x.natAbs) ca] 73)).alloc (.cells #[.int .i64 1] 3)).alloc (.cells #[.bool false, .slice (some ⟨w2.heap.size + 1, 0, none⟩) 1 1] 73)) w2.heap.size b (.slice pa (Ld x.natAbs) ca) x (w2.heap.size + 1 + 1) false (.slice (some ⟨w2.heap.size + 1, 0, none⟩) 1 1) 1) := by
          have b1 := bSelf0 w2 (.cells #[.bool b, .slice pa (Ld x.natAbs) ca] 73)
          have k1 := Blk.new w2 #[.bool b, .slice pa (Ld x.natAbs) ca] 73
          have b2 := bSelf0 (w2.alloc (.cells #[.bool b, .slice pa (Ld x.natAbs) ca] 73)) (.cells #[.int .i64 1] 3)
          have o2 : Dg ((w2.alloc (.cells #[.bool b, .slice pa (Ld x.natAbs) ca] 73)).alloc (.cells #[.int .i64 1] 3)) (.slice (some ⟨w2.heap.size + 1, 0, none⟩) 1 1) 1 := by
            have := one_dg' (w2.alloc (.cells #[.bool b, .slice pa (Ld x.natAbs) ca] 73))
            simpa using this
          have b3 := bSelf0 ((w2.alloc (.cells #[.bool b, .slice pa (Ld x.natAbs) ca] 73)).alloc (.cells #[.int .i64 1] 3)) (.cells #[.bool false, .slice (some ⟨w2.heap.size + 1, 0, none⟩) 1 1] 73)
          have k3 := Blk.new ((w2.alloc (.cells #[.bool b, .slice pa (Ld x.natAbs) ca] 73)).alloc (.cells #[.int .i64 1] 3)) #[.bool false, .slice (some ⟨w2.heap.size + 1, 0, none⟩) 1 1] 73
          have k1' := k1.below b2 k1.lt
          refine ⟨k1'.below b3 k1'.lt, ?_, (((hva.below b1).below b2).below b3), o2.below b3, bThen0 (bThen0 (bThen0 hB2 b1) b2) b3⟩
          simpa using k3
        have hgp : w.heap.size ≤ w2.heap.size + 1 + 1 := by have := hB2.size; omega
        have hgne : w2.heap.size ≠ w2.heap.size + 1 + 1 := by omega
        clear hva hb2 hB2 hb
        go_wp2_with fail
        generalize (((w2.alloc (.cells #[.bool b, .slice pa (Ld x.natAbs) ca] 73)).alloc (.cells #[.int .i64 1] 3)).alloc (.cells #[.bool false, .slice (some ⟨w2.heap.size + 1, 0, none⟩) 1 1] 73)) = W1 at *
        generalize hgg : w2.heap.size + 1 + 1 = gp at *
        generalize hga : w2.heap.size = ga at *
        clear hgg hga
        go_loopw [8] (fun i wr => ∃ (k : Nat) (z : Int) (c : Bool) (v : Value), k ≤ m ∧ i = .int .i64 k ∧ Hid (z = x ^ k) ∧ Hid (c = decide (z < 0)) ∧ Ld z.natAbs ≤ 400 ∧ Hid (Pv w wr ga b (.slice pa (Ld x.natAbs) ca) x gp c v z)) (fun i _ => m - (intOf i).toNat)
        case atStart => exact ⟨0, 1, false, _, Nat.zero_le _, rfl, (by show _ = _; rw [Int.pow_zero]), rfl, by rw [show Ld (Int.natAbs 1) = 1 by rfl]; omega, HS0⟩
        case round =>
          obtain ⟨k, z, c, v, hk, rfl, HZ, HC, hlz, hS⟩ := hrel
          obtain ⟨wo, rfl⟩ : ∃ wo : World, wo = wr := ⟨_, rfl⟩
          clear HS0
          by_cases hlt : k < m
          · obtain ⟨pz, cz, rfl, -, -, -⟩ := hS.out.nz.cells
            have r0 := hS.out.kp.cell 0 rfl
            have r1 := hS.out.kp.cell 1 rfl
            have h2 := hS.out.ka.cell 0 rfl
            have h3 := hS.out.ka.cell 1 rfl
            have D := Lib.hid (t61 z x c b _ _ wo HC.out HBX.out hS.out.nz hS.out.na (by omega) (ldf HX.out.2))
            have HZ2 : Hid (z * x = x ^ (k + 1)) := by show _ = _; rw [HZ.out, Int.pow_succ]
            generalize z * x = y at *
            obtain ⟨cy, hcy⟩ : ∃ cy : Bool, cy = decide (y < 0) := ⟨_, rfl⟩
            have D2 : Hid (Calls Tryz.prog 61 #[.agg #[.bool c, .slice pz (Ld z.natAbs) cz], .agg #[.bool b, .slice pa (Ld x.natAbs) ca]] wo fun e w' => ∃ v, e = .returned (.agg #[.bool cy, v]) ∧ Dg w' v y.natAbs ∧ Below wo.heap.size wo w') := D.out.mono fun _ _ h => by rw [hcy]; exact h
            have HCY := Lib.hid hcy
            clear D hcy
            go_wp2_with fail
            refine D2.out.mono ?_
            rintro e w3 ⟨v3, rfl, hv3, hb3⟩
            obtain ⟨p3, c3, rfl, -, -, -⟩ := hv3.cells
            have HS3 := Lib.hid (hS.out.next hb3)
            have q0 := HS3.out.kp.cell 0 rfl
            have q1 := HS3.out.kp.cell 1 rfl
            have f0 := HS3.out.kp.free 0
            have f1 := HS3.out.kp.free 1
            have HS4 := Lib.hid (HS3.out.put hgne hgp cy _ y hv3)
            clear r0 r1 h2 h3 hv3 hb3
            by_cases hfit : Ld y.natAbs ≤ 400
            · have hfi : (Ld y.natAbs : Int) ≤ 400 := by omega
              go_wp2
              go_roundw
              case rel => exact ⟨k + 1, y, cy, _, by omega, by go_num, HZ2, HCY, hfit, HS4⟩
              case measure => simp [intOf]; omega
            · have hfi : 400 < (Ld y.natAbs : Int) := by omega
              have HF : Hid (¬ fits y) := hfit
              clear hfit
              go_wp2
              go_ret2
              have hno : ¬ fits (x ^ m) := pow_more (k := k + 1) (by omega) (by rw [← HZ2.out]; exact HF.out)
              exact .inr ⟨x, HX.out, HBN.out.1, HBN.out.2, by rw [Int.toNat_natCast, (told_none hno).1, (told_none hno).2]; rfl, HS4.out.bel⟩
          · obtain rfl : k = m := by omega
            clear hlt
            have hS := hS
            obtain ⟨pz, cz, rfl, -, -, -⟩ := hS.out.nz.cells
            have r0 := hS.out.kp.cell 0 rfl
            have r1 := hS.out.kp.cell 1 rfl
            have D := Lib.hid (t62 z c _ wo HC.out hS.out.nz (by omega))
            go_wp2_with fail
            refine D.out.mono ?_
            rintro e w2 ⟨rfl, hb2⟩
            have hB2 := bThen0 hS.out.bel hb2
            go_wp2_with fail
            go_ret2
            exact .inr ⟨x, HX.out, HBN.out.1, HBN.out.2, by rw [HZ.out]; rfl, hB2⟩
/-- an integer as a result, its sign by name -/
def IntBp (b : Bool) (z : Int) (w : World) (e : Ending) (w' : World) : Prop := ∃ v, e = .returned (.agg #[.bool b, v]) ∧ Nt w' v z.natAbs ∧ Below w.heap.size w w'
theorem IntR.toBp {b : Bool} {z : Int} {w w' : World} {e : Ending} (hb : b = decide (z < 0)) (h : IntR z w e w') : IntBp b z w e w' := by subst hb; exact h
/-- an integer is stored -/
theorem st67p {W : World} {g : Nat} {o0 o1 : Value} (h : Blk W g 67 [o0, o1]) (a b : Value) :
    Blk ((W.setCell ⟨g, 0, none⟩ a).setCell ⟨g, 1, none⟩ b) g 67 [a, b] ∧
    (∀ g' e cs, g' ≠ g → Blk W g' e cs → Blk ((W.setCell ⟨g, 0, none⟩ a).setCell ⟨g, 1, none⟩ b) g' e cs) ∧
    (∀ v n, Nt W v n → Nt ((W.setCell ⟨g, 0, none⟩ a).setCell ⟨g, 1, none⟩ b) v n) ∧
    (∀ B w, B ≤ g → Below B w W → Below B w ((W.setCell ⟨g, 0, none⟩ a).setCell ⟨g, 1, none⟩ b)) :=
  ⟨(h.set 0 a).set 1 b, fun _ _ _ hne hk => (hk.setOther _ _ hne).setOther _ _ hne, fun _ _ hv => (hv.setCell (hv.ne67 h)).setCell (hv.ne67 h),
    fun _ _ hle hb => (hb.setCell hle _).setCell hle _⟩
theorem num_lenp {s : ByteArray} {z : Int} (h : IsNum s.data.toList z) : s.size ≤ 401 := by
  have h1 : s.size = s.data.toList.length := rfl
  rw [h1, h.1]
  have h2 := txt_length 10 z.natAbs (by omega)
  have h3 : (dgs 10 z.natAbs).length ≤ 400 := h.2
  unfold txtZ
  split
  · rw [List.length_cons, h2]; omega
  · rw [h2]; omega
theorem num_zerop {s : ByteArray} {z : Int} (h : IsNum s.data.toList z) : s = (⟨#[48]⟩ : ByteArray) ↔ z = 0 := by
  constructor
  · intro h1
    rw [h1] at h
    exact num_one h (show IsNum ((⟨#[48]⟩ : ByteArray).data.toList) 0 from ⟨rfl, by decide⟩)
  · intro h1
    apply ByteArray.ext
    apply Array.toList_inj.1
    rw [h.1, h1]; rfl
theorem num_firstp {s : ByteArray} {z : Int} (h : IsNum s.data.toList z) : ∃ hp : 0 < s.size, s[0].toNat = 45 ↔ z < 0 := by
  have hs : s = numS z := by
    apply ByteArray.ext
    apply Array.toList_inj.1
    rw [h.1]; simp [numS]
  subst hs
  refine ⟨numS_pos z, ?_⟩
  rw [← numS_first z]
  exact ⟨fun h => UInt8.toNat_inj.1 h, fun h => by rw [h]; rfl⟩
theorem newAt (X : World) (a : Array Value) (e : TypeId) (g : Nat) (l : List Value) (hg : g = X.heap.size) (hl : a.toList = l) : Blk (X.alloc (.cells a e)) g e l := by subst hg; subst hl; exact Blk.new X a e
theorem blkPair {X : World} {g : Nat} {e : TypeId} {o0 o1 a b : Value} (h : Blk X g e [o0, o1]) : Blk ((X.setCell ⟨g, 0, none⟩ a).setCell ⟨g, 1, none⟩ b) g e [a, b] := (h.set 0 a).set 1 b
theorem blkOther {X : World} {g g' : Nat} {e : TypeId} {cs : List Value} {a b : Value} (h : Blk X g e cs) (hne : g ≠ g') : Blk ((X.setCell ⟨g', 0, none⟩ a).setCell ⟨g', 1, none⟩ b) g e cs := (h.setOther ⟨g', 0, none⟩ _ hne).setOther ⟨g', 1, none⟩ _ hne
theorem blkDown {X Y : World} {g : Nat} {e : TypeId} {cs : List Value} (h : Blk X g e cs) (hb : Below X.heap.size X Y) : Blk Y g e cs := h.below hb h.lt
theorem ntAl {X : World} {v : Value} {n : Nat} {o : Obj} (h : Nt X v n) : Nt (X.alloc o) v n := h.below (bSelf X o)
theorem ntDown {X Y : World} {v : Value} {n : Nat} (h : Nt X v n) (hb : Below X.heap.size X Y) : Nt Y v n := h.below hb
theorem ntPair {X : World} {v : Value} {n g' : Nat} {o0 o1 a b : Value} (hk : Blk X g' 67 [o0, o1]) (h : Nt X v n) : Nt ((X.setCell ⟨g', 0, none⟩ a).setCell ⟨g', 1, none⟩ b) v n := (h.setCell (h.ne67 hk)).setCell (h.ne67 hk)
theorem belPair {w X : World} {g' : Nat} {a b : Value} (h : Below w.heap.size w X) (hg : w.heap.size ≤ g') : Below w.heap.size w ((X.setCell ⟨g', 0, none⟩ a).setCell ⟨g', 1, none⟩ b) := (h.setCell hg _).setCell hg _
theorem belDown {w X Y : World} (h : Below w.heap.size w X) (hb : Below X.heap.size X Y) : Below w.heap.size w Y := bThen h hb
theorem blkDrew {X : World} {g : Nat} {e : TypeId} {cs : List Value} (h : Blk X g e cs) : Blk X.drew g e cs := h
theorem ntDrew {X : World} {v : Value} {n : Nat} (h : Nt X v n) : Nt X.drew v n := h.below ((Below.refl _ _).drew)
theorem belDrew {w X : World} (h : Below w.heap.size w X) : Below w.heap.size w X.drew := h.drew
theorem have_then {T G : Prop} (h : T) (f : T → G) : G := f h
theorem belAl {w X : World} {o : Obj} (h : Below w.heap.size w X) : Below w.heap.size w (X.alloc o) := bAl h o
def modS (n x y : Int) : ByteArray := if n < 0 ∨ 1000000 < n ∨ y ≤ 0 then ⟨#[]⟩ else toldS (pm y n.toNat (fr 1 y) (fr x y))
def modE (n x y : Int) : Int := if n < 0 ∨ 1000000 < n ∨ y ≤ 0 then 1 else toldE (pm y n.toNat (fr 1 y) (fr x y))
theorem mod_bad {n x y : Int} (h : n < 0 ∨ 1000000 < n ∨ y ≤ 0) : modS n x y = ⟨#[]⟩ ∧ modE n x y = 1 := by unfold modS modE; rw [if_pos h, if_pos h]; exact ⟨rfl, rfl⟩
theorem mod_good {n x y : Int} (h : ¬ (n < 0 ∨ 1000000 < n ∨ y ≤ 0)) : modS n x y = toldS (pm y n.toNat (fr 1 y) (fr x y)) ∧ modE n x y = toldE (pm y n.toNat (fr 1 y) (fr x y)) := by unfold modS modE; rw [if_neg h, if_neg h]; exact ⟨rfl, rfl⟩
/-- what Mod returns -/
def ModQ (s t : List UInt8) (n : Int) (w : World) (e : Ending) (w' : World) : Prop := RkR s t (.tuple #[.string ⟨#[]⟩, .int .i64 1]) (fun x y => .tuple #[.string (modS n x y), .int .i64 (modE n x y)]) w e w'
end Go.Proofs.YtifhiefdhhmdeaaGreatDoor
