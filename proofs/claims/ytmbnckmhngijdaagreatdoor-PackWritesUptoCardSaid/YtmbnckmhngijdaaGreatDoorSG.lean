/- Contracts of the reference's Bytes and bytes. -/
import Derived.Test.YtmbnckmhngijdaaGreatDoorSB
namespace Go.Proofs.YtmbnckmhngijdaaGreatDoor
open Go Go.RowKit

def BtsV (l : List UInt8) (w : World) (e : Ending) (w' : World) : Prop := Below w.heap.size w w' ∧ ∃ v, e = .returned v ∧ RdV w' v l
theorem ret_str {s t : ByteArray} (h : s = t) : Ending.returned (.string s) = .returned (.string t) := by rw [h]
theorem u8_wr (n : Nat) (_h : n < 256) : IntKind.u8.wrap (n : Int) = ((UInt8.ofNat n).toNat : Int) := by
  rw [IntKind.wrap_u8, UInt8.toNat_ofNat']; omega
set_option maxRecDepth 100000 in
set_option maxHeartbeats 2000000 in
theorem t90_a (n : Nat) (w : World) (h : n < 128) : Calls Tryz.prog 90 #[.int .i64 n, .int .i64 2] w fun e w' => e = .returned (.string ⟨(utfL n).toArray⟩) ∧ Below w.heap.size w w' := by
  obtain ⟨b0, hb0⟩ : ∃ b : UInt8, UInt8.ofNat (n) = b := ⟨_, rfl⟩
  have HU : Hid ((⟨#[b0]⟩ : ByteArray) = ⟨(utfL n).toArray⟩) := by
    show _ = _; unfold utfL; rw [if_pos h]; rw [hb0]
  have g0 : IntKind.u8.wrap ((n : Int)) = (b0.toNat : Int) := by rw [← hb0, ← u8_wr _ (by omega)]
  have hcv : (convert 72 9 (.slice (some ⟨w.heap.size, 0, none⟩) 1 1)).run Tryz.prog (w.alloc (.cells #[.int .u8 b0.toNat] 5)) = .ok (.string ⟨#[b0]⟩) (w.alloc (.cells #[.int .u8 b0.toNat] 5)) := conv_rd (w.alloc (.cells #[.int .u8 b0.toNat] 5)) w.heap.size 1 [b0] (newAt w #[.int .u8 b0.toNat] 5 _ (c8 [b0]) rfl rfl).rd
  have hbw := bSelf w (.cells #[.int .u8 b0.toNat] 5)
  have hni : (n : Int) ≤ 1114111 := by omega
  have c1 : (n : Int) < 128 := by omega
  clear hb0 
  go_enter Tryz.func90, Tryz.ntmps90
  go_wp2
  go_ret
  exact ⟨ret_str HU.out, hbw⟩
set_option maxRecDepth 100000 in
set_option maxHeartbeats 2000000 in
theorem t90_b (n : Nat) (w : World) (h1 : 128 ≤ n) (h2 : n < 2048) : Calls Tryz.prog 90 #[.int .i64 n, .int .i64 2] w fun e w' => e = .returned (.string ⟨(utfL n).toArray⟩) ∧ Below w.heap.size w w' := by
  obtain ⟨b0, hb0⟩ : ∃ b : UInt8, UInt8.ofNat (192 + n / 64) = b := ⟨_, rfl⟩
  obtain ⟨b1, hb1⟩ : ∃ b : UInt8, UInt8.ofNat (128 + n % 64) = b := ⟨_, rfl⟩
  have HU : Hid ((⟨#[b0, b1]⟩ : ByteArray) = ⟨(utfL n).toArray⟩) := by
    show _ = _; unfold utfL; rw [if_neg (by omega), if_pos h2]; rw [hb0, hb1]
  obtain ⟨q, hq⟩ : ∃ q : Nat, n / 64 = q := ⟨_, rfl⟩
  have fq0 : (((n : Int) : Int)).tdiv 64 = q := by first | omega | (rw [Int.tmod_eq_emod_of_nonneg (by omega)]; omega) | (rw [Int.tdiv_eq_ediv_of_nonneg (by omega)]; omega)
  have fq1 : (((n : Int) : Int)) / 64 = q := by first | omega | (rw [Int.tmod_eq_emod_of_nonneg (by omega)]; omega) | (rw [Int.tdiv_eq_ediv_of_nonneg (by omega)]; omega)
  obtain ⟨r, hr⟩ : ∃ r : Nat, n % 64 = r := ⟨_, rfl⟩
  have fr0 : (((n : Int) : Int)).tmod 64 = r := by first | omega | (rw [Int.tmod_eq_emod_of_nonneg (by omega)]; omega) | (rw [Int.tdiv_eq_ediv_of_nonneg (by omega)]; omega)
  have fr1 : (((n : Int) : Int)) % 64 = r := by first | omega | (rw [Int.tmod_eq_emod_of_nonneg (by omega)]; omega) | (rw [Int.tdiv_eq_ediv_of_nonneg (by omega)]; omega)
  have g0 : IntKind.u8.wrap (192 + (q : Int)) = (b0.toNat : Int) := by rw [← hb0, ← u8_wr _ (by omega)]; exact congrArg _ (by omega)
  have g1 : IntKind.u8.wrap (128 + (r : Int)) = (b1.toNat : Int) := by rw [← hb1, ← u8_wr _ (by omega)]; exact congrArg _ (by omega)
  have hcv : (convert 72 9 (.slice (some ⟨w.heap.size, 0, none⟩) 2 2)).run Tryz.prog (w.alloc (.cells #[.int .u8 b0.toNat, .int .u8 b1.toNat] 5)) = .ok (.string ⟨#[b0, b1]⟩) (w.alloc (.cells #[.int .u8 b0.toNat, .int .u8 b1.toNat] 5)) := conv_rd (w.alloc (.cells #[.int .u8 b0.toNat, .int .u8 b1.toNat] 5)) w.heap.size 2 [b0, b1] (newAt w #[.int .u8 b0.toNat, .int .u8 b1.toNat] 5 _ (c8 [b0, b1]) rfl rfl).rd
  have hbw := bSelf w (.cells #[.int .u8 b0.toNat, .int .u8 b1.toNat] 5)
  have hni : (n : Int) ≤ 1114111 := by omega
  have c1 : ¬ ((n : Int) < 128) := by omega
  have c1d : decide ((n : Int) < 128) = false := decide_eq_false c1
  have c2 : (n : Int) < 2048 := by omega
  clear hb0 hb1 hq hr
  go_enter Tryz.func90, Tryz.ntmps90
  go_wp2
  go_ret
  exact ⟨ret_str HU.out, hbw⟩
set_option maxRecDepth 100000 in
set_option maxHeartbeats 2000000 in
theorem t90_c (n : Nat) (w : World) (h1 : 2048 ≤ n) (h2 : n < 65536) : Calls Tryz.prog 90 #[.int .i64 n, .int .i64 2] w fun e w' => e = .returned (.string ⟨(utfL n).toArray⟩) ∧ Below w.heap.size w w' := by
  obtain ⟨b0, hb0⟩ : ∃ b : UInt8, UInt8.ofNat (224 + n / 4096) = b := ⟨_, rfl⟩
  obtain ⟨b1, hb1⟩ : ∃ b : UInt8, UInt8.ofNat (128 + n / 64 % 64) = b := ⟨_, rfl⟩
  obtain ⟨b2, hb2⟩ : ∃ b : UInt8, UInt8.ofNat (128 + n % 64) = b := ⟨_, rfl⟩
  have HU : Hid ((⟨#[b0, b1, b2]⟩ : ByteArray) = ⟨(utfL n).toArray⟩) := by
    show _ = _; unfold utfL; rw [if_neg (by omega), if_neg (by omega), if_pos h2]; rw [hb0, hb1, hb2]
  obtain ⟨p, hp⟩ : ∃ p : Nat, n / 4096 = p := ⟨_, rfl⟩
  have fp0 : (((n : Int) : Int)).tdiv 4096 = p := by first | omega | (rw [Int.tmod_eq_emod_of_nonneg (by omega)]; omega) | (rw [Int.tdiv_eq_ediv_of_nonneg (by omega)]; omega)
  have fp1 : (((n : Int) : Int)) / 4096 = p := by first | omega | (rw [Int.tmod_eq_emod_of_nonneg (by omega)]; omega) | (rw [Int.tdiv_eq_ediv_of_nonneg (by omega)]; omega)
  obtain ⟨q, hq⟩ : ∃ q : Nat, n / 64 = q := ⟨_, rfl⟩
  have fq0 : (((n : Int) : Int)).tdiv 64 = q := by first | omega | (rw [Int.tmod_eq_emod_of_nonneg (by omega)]; omega) | (rw [Int.tdiv_eq_ediv_of_nonneg (by omega)]; omega)
  have fq1 : (((n : Int) : Int)) / 64 = q := by first | omega | (rw [Int.tmod_eq_emod_of_nonneg (by omega)]; omega) | (rw [Int.tdiv_eq_ediv_of_nonneg (by omega)]; omega)
  obtain ⟨t, ht⟩ : ∃ t : Nat, q % 64 = t := ⟨_, rfl⟩
  have ft0 : (((q : Int) : Int)).tmod 64 = t := by first | omega | (rw [Int.tmod_eq_emod_of_nonneg (by omega)]; omega) | (rw [Int.tdiv_eq_ediv_of_nonneg (by omega)]; omega)
  have ft1 : (((q : Int) : Int)) % 64 = t := by first | omega | (rw [Int.tmod_eq_emod_of_nonneg (by omega)]; omega) | (rw [Int.tdiv_eq_ediv_of_nonneg (by omega)]; omega)
  obtain ⟨r, hr⟩ : ∃ r : Nat, n % 64 = r := ⟨_, rfl⟩
  have fr0 : (((n : Int) : Int)).tmod 64 = r := by first | omega | (rw [Int.tmod_eq_emod_of_nonneg (by omega)]; omega) | (rw [Int.tdiv_eq_ediv_of_nonneg (by omega)]; omega)
  have fr1 : (((n : Int) : Int)) % 64 = r := by first | omega | (rw [Int.tmod_eq_emod_of_nonneg (by omega)]; omega) | (rw [Int.tdiv_eq_ediv_of_nonneg (by omega)]; omega)
  have g0 : IntKind.u8.wrap (224 + (p : Int)) = (b0.toNat : Int) := by rw [← hb0, ← u8_wr _ (by omega)]; exact congrArg _ (by omega)
  have g1 : IntKind.u8.wrap (128 + (t : Int)) = (b1.toNat : Int) := by rw [← hb1, ← u8_wr _ (by omega)]; exact congrArg _ (by omega)
  have g2 : IntKind.u8.wrap (128 + (r : Int)) = (b2.toNat : Int) := by rw [← hb2, ← u8_wr _ (by omega)]; exact congrArg _ (by omega)
  have hcv : (convert 72 9 (.slice (some ⟨w.heap.size, 0, none⟩) 3 3)).run Tryz.prog (w.alloc (.cells #[.int .u8 b0.toNat, .int .u8 b1.toNat, .int .u8 b2.toNat] 5)) = .ok (.string ⟨#[b0, b1, b2]⟩) (w.alloc (.cells #[.int .u8 b0.toNat, .int .u8 b1.toNat, .int .u8 b2.toNat] 5)) := conv_rd (w.alloc (.cells #[.int .u8 b0.toNat, .int .u8 b1.toNat, .int .u8 b2.toNat] 5)) w.heap.size 3 [b0, b1, b2] (newAt w #[.int .u8 b0.toNat, .int .u8 b1.toNat, .int .u8 b2.toNat] 5 _ (c8 [b0, b1, b2]) rfl rfl).rd
  have hbw := bSelf w (.cells #[.int .u8 b0.toNat, .int .u8 b1.toNat, .int .u8 b2.toNat] 5)
  have hni : (n : Int) ≤ 1114111 := by omega
  have c1 : ¬ ((n : Int) < 128) := by omega
  have c1d : decide ((n : Int) < 128) = false := decide_eq_false c1
  have c2 : ¬ ((n : Int) < 2048) := by omega
  have c2d : decide ((n : Int) < 2048) = false := decide_eq_false c2
  have c3 : (n : Int) < 65536 := by omega
  clear hb0 hb1 hb2 hp hq ht hr
  go_enter Tryz.func90, Tryz.ntmps90
  go_wp2
  go_ret
  exact ⟨ret_str HU.out, hbw⟩
set_option maxRecDepth 100000 in
set_option maxHeartbeats 2000000 in
theorem t90_d (n : Nat) (w : World) (h1 : 65536 ≤ n) (h2 : n ≤ 1114111) : Calls Tryz.prog 90 #[.int .i64 n, .int .i64 2] w fun e w' => e = .returned (.string ⟨(utfL n).toArray⟩) ∧ Below w.heap.size w w' := by
  obtain ⟨b0, hb0⟩ : ∃ b : UInt8, UInt8.ofNat (240 + n / 262144) = b := ⟨_, rfl⟩
  obtain ⟨b1, hb1⟩ : ∃ b : UInt8, UInt8.ofNat (128 + n / 4096 % 64) = b := ⟨_, rfl⟩
  obtain ⟨b2, hb2⟩ : ∃ b : UInt8, UInt8.ofNat (128 + n / 64 % 64) = b := ⟨_, rfl⟩
  obtain ⟨b3, hb3⟩ : ∃ b : UInt8, UInt8.ofNat (128 + n % 64) = b := ⟨_, rfl⟩
  have HU : Hid ((⟨#[b0, b1, b2, b3]⟩ : ByteArray) = ⟨(utfL n).toArray⟩) := by
    show _ = _; unfold utfL; rw [if_neg (by omega), if_neg (by omega), if_neg (by omega)]; rw [hb0, hb1, hb2, hb3]
  obtain ⟨m, hm⟩ : ∃ m : Nat, n / 262144 = m := ⟨_, rfl⟩
  have fm0 : (((n : Int) : Int)).tdiv 262144 = m := by first | omega | (rw [Int.tmod_eq_emod_of_nonneg (by omega)]; omega) | (rw [Int.tdiv_eq_ediv_of_nonneg (by omega)]; omega)
  have fm1 : (((n : Int) : Int)) / 262144 = m := by first | omega | (rw [Int.tmod_eq_emod_of_nonneg (by omega)]; omega) | (rw [Int.tdiv_eq_ediv_of_nonneg (by omega)]; omega)
  obtain ⟨p, hp⟩ : ∃ p : Nat, n / 4096 = p := ⟨_, rfl⟩
  have fp0 : (((n : Int) : Int)).tdiv 4096 = p := by first | omega | (rw [Int.tmod_eq_emod_of_nonneg (by omega)]; omega) | (rw [Int.tdiv_eq_ediv_of_nonneg (by omega)]; omega)
  have fp1 : (((n : Int) : Int)) / 4096 = p := by first | omega | (rw [Int.tmod_eq_emod_of_nonneg (by omega)]; omega) | (rw [Int.tdiv_eq_ediv_of_nonneg (by omega)]; omega)
  obtain ⟨y, hy⟩ : ∃ y : Nat, p % 64 = y := ⟨_, rfl⟩
  have fy0 : (((p : Int) : Int)).tmod 64 = y := by first | omega | (rw [Int.tmod_eq_emod_of_nonneg (by omega)]; omega) | (rw [Int.tdiv_eq_ediv_of_nonneg (by omega)]; omega)
  have fy1 : (((p : Int) : Int)) % 64 = y := by first | omega | (rw [Int.tmod_eq_emod_of_nonneg (by omega)]; omega) | (rw [Int.tdiv_eq_ediv_of_nonneg (by omega)]; omega)
  obtain ⟨q, hq⟩ : ∃ q : Nat, n / 64 = q := ⟨_, rfl⟩
  have fq0 : (((n : Int) : Int)).tdiv 64 = q := by first | omega | (rw [Int.tmod_eq_emod_of_nonneg (by omega)]; omega) | (rw [Int.tdiv_eq_ediv_of_nonneg (by omega)]; omega)
  have fq1 : (((n : Int) : Int)) / 64 = q := by first | omega | (rw [Int.tmod_eq_emod_of_nonneg (by omega)]; omega) | (rw [Int.tdiv_eq_ediv_of_nonneg (by omega)]; omega)
  obtain ⟨t, ht⟩ : ∃ t : Nat, q % 64 = t := ⟨_, rfl⟩
  have ft0 : (((q : Int) : Int)).tmod 64 = t := by first | omega | (rw [Int.tmod_eq_emod_of_nonneg (by omega)]; omega) | (rw [Int.tdiv_eq_ediv_of_nonneg (by omega)]; omega)
  have ft1 : (((q : Int) : Int)) % 64 = t := by first | omega | (rw [Int.tmod_eq_emod_of_nonneg (by omega)]; omega) | (rw [Int.tdiv_eq_ediv_of_nonneg (by omega)]; omega)
  obtain ⟨r, hr⟩ : ∃ r : Nat, n % 64 = r := ⟨_, rfl⟩
  have fr0 : (((n : Int) : Int)).tmod 64 = r := by first | omega | (rw [Int.tmod_eq_emod_of_nonneg (by omega)]; omega) | (rw [Int.tdiv_eq_ediv_of_nonneg (by omega)]; omega)
  have fr1 : (((n : Int) : Int)) % 64 = r := by first | omega | (rw [Int.tmod_eq_emod_of_nonneg (by omega)]; omega) | (rw [Int.tdiv_eq_ediv_of_nonneg (by omega)]; omega)
  have g0 : IntKind.u8.wrap (240 + (m : Int)) = (b0.toNat : Int) := by rw [← hb0, ← u8_wr _ (by omega)]; exact congrArg _ (by omega)
  have g1 : IntKind.u8.wrap (128 + (y : Int)) = (b1.toNat : Int) := by rw [← hb1, ← u8_wr _ (by omega)]; exact congrArg _ (by omega)
  have g2 : IntKind.u8.wrap (128 + (t : Int)) = (b2.toNat : Int) := by rw [← hb2, ← u8_wr _ (by omega)]; exact congrArg _ (by omega)
  have g3 : IntKind.u8.wrap (128 + (r : Int)) = (b3.toNat : Int) := by rw [← hb3, ← u8_wr _ (by omega)]; exact congrArg _ (by omega)
  have hcv : (convert 72 9 (.slice (some ⟨w.heap.size, 0, none⟩) 4 4)).run Tryz.prog (w.alloc (.cells #[.int .u8 b0.toNat, .int .u8 b1.toNat, .int .u8 b2.toNat, .int .u8 b3.toNat] 5)) = .ok (.string ⟨#[b0, b1, b2, b3]⟩) (w.alloc (.cells #[.int .u8 b0.toNat, .int .u8 b1.toNat, .int .u8 b2.toNat, .int .u8 b3.toNat] 5)) := conv_rd (w.alloc (.cells #[.int .u8 b0.toNat, .int .u8 b1.toNat, .int .u8 b2.toNat, .int .u8 b3.toNat] 5)) w.heap.size 4 [b0, b1, b2, b3] (newAt w #[.int .u8 b0.toNat, .int .u8 b1.toNat, .int .u8 b2.toNat, .int .u8 b3.toNat] 5 _ (c8 [b0, b1, b2, b3]) rfl rfl).rd
  have hbw := bSelf w (.cells #[.int .u8 b0.toNat, .int .u8 b1.toNat, .int .u8 b2.toNat, .int .u8 b3.toNat] 5)
  have hni : (n : Int) ≤ 1114111 := by omega
  have c1 : ¬ ((n : Int) < 128) := by omega
  have c1d : decide ((n : Int) < 128) = false := decide_eq_false c1
  have c2 : ¬ ((n : Int) < 2048) := by omega
  have c2d : decide ((n : Int) < 2048) = false := decide_eq_false c2
  have c3 : ¬ ((n : Int) < 65536) := by omega
  have c3d : decide ((n : Int) < 65536) = false := decide_eq_false c3
  clear hb0 hb1 hb2 hb3 hm hp hy hq ht hr
  go_enter Tryz.func90, Tryz.ntmps90
  go_wp2
  go_ret
  exact ⟨ret_str HU.out, hbw⟩
theorem t90 (n : Nat) (w : World) (h : n ≤ 1114111) : Calls Tryz.prog 90 #[.int .i64 n, .int .i64 2] w fun e w' => e = .returned (.string ⟨(utfL n).toArray⟩) ∧ Below w.heap.size w w' := by
  by_cases h1 : n < 128
  · exact t90_a n w h1
  by_cases h2 : n < 2048
  · exact t90_b n w (by omega) h2
  by_cases h3 : n < 65536
  · exact t90_c n w (by omega) h3
  · exact t90_d n w (by omega) h
set_option maxRecDepth 100000 in
set_option maxHeartbeats 2000000 in
theorem t63_U (d : Dir) (n : Int) (w : World) (h85 : d.c = 85) (hf : fitsC 85 n = true) :
    Calls Tryz.prog 63 #[.agg #[.int .u8 d.c.toNat, .bool d.gt, .int .i64 d.k], .int .i64 n] w (BtsV (numB d n) w) := by
  have hn := of_decide_eq_true (show decide (0 ≤ n ∧ n ≤ 1114111 ∧ ¬ (55296 ≤ n ∧ n ≤ 57343)) = true from hf)
  obtain ⟨m, rfl⟩ : ∃ m : Nat, n = (m : Int) := ⟨n.toNat, by omega⟩
  have e85 := u8_eq (n := 85) (k := 85) rfl h85
  have HNB : Hid (numB d (m : Int) = utfL m) := by show _ = _; unfold numB; rw [if_pos h85]; rfl
  have C90 := fun W => t90 m W (by omega)
  have hul := utfL_pos m
  obtain ⟨S, hS⟩ : ∃ S : ByteArray, S = ⟨(utfL m).toArray⟩ := ⟨_, rfl⟩
  have hSz : S.size ≤ 4 := by rw [hS]; exact hul.2
  have HSL : Hid (S.data.toList = utfL m) := by show _ = _; rw [hS]
  rw [← hS] at C90
  have hk0 := Blk.new w #[.int .u8 d.c.toNat, .bool d.gt, .int .i64 d.k] 60
  have hb0 := bSelf w (.cells #[.int .u8 d.c.toNat, .bool d.gt, .int .i64 d.k] 60)
  clear hf hn hS hul h85
  go_enter Tryz.func63, Tryz.ntmps63
  go_upto_region 1 with fail
  generalize w.alloc (.cells #[.int .u8 d.c.toNat, .bool d.gt, .int .i64 d.k] 60) = W at *
  have d0 := hk0.cell 0 rfl
  have HB0 := Lib.hid hb0
  clear hb0 hk0
  go_wp2_with fail
  refine (C90 _).mono ?_
  rintro e1 w1 ⟨rfl, hb1⟩
  have HB1 := Lib.hid (bThen HB0.out hb1)
  obtain ⟨cap, W2, hcv, hb2, hrd, -⟩ := conv_sb w1 S (by omega)
  have HB2 := Lib.hid (bThen HB1.out hb2)
  have HRD := Lib.hid hrd
  clear hb1 hb2 hrd d0
  go_wp2
  go_ret
  exact ⟨HB2.out, _, rfl, by rw [HNB.out, ← HSL.out]; exact HRD.out⟩
theorem sev_q (B g m : Nat) (_hB : 0 < B) (h : m < B ^ (g + 1)) : m / B < B ^ g := by
  rw [Nat.pow_succ, Nat.mul_comm] at h
  exact Nat.div_lt_of_lt_mul h
theorem sev_f (B f m : Nat) (h : m < B ^ f) (hm : m ≠ 0) : ∃ g, f = g + 1 := by
  cases f with
  | zero => rw [Nat.pow_zero] at h; omega
  | succ g => exact ⟨g, rfl⟩
theorem pow10 : 72057594037927936 ≤ 128 ^ 10 := by decide
def SevI (m0 : Nat) (w : World) (n o : Value) (wr : World) : Prop :=
  ∃ (f m : Nat) (acc : List UInt8), n = .int .i64 m ∧ m < 128 ^ f ∧ m < 72057594037927936 ∧ 0 < acc.length ∧ acc.length + f = 11 ∧ Hid (acc ++ sevF f m = revSev m0) ∧ Hid (wr.ownsRow w.heap.size 5 1 o acc.length (c8 acc.reverse)) ∧ Hid (Below w.heap.size w wr)
set_option maxRecDepth 100000 in
set_option maxHeartbeats 2000000 in
theorem t63_w (d : Dir) (n : Int) (w : World) (h119 : d.c = 119) (hf : fitsC 119 n = true) (hin : InInt n) :
    Calls Tryz.prog 63 #[.agg #[.int .u8 d.c.toNat, .bool d.gt, .int .i64 d.k], .int .i64 n] w (BtsV (numB d n) w) := by
  have hn := of_decide_eq_true (show decide (0 ≤ n) = true from hf)
  obtain ⟨m, rfl⟩ : ∃ m : Nat, n = (m : Int) := ⟨n.toNat, by omega⟩
  have hm63 : m ≤ 9223372036854775807 := by have := hin.2; omega
  have e85 := u8_ne (n := 85) (k := 85) rfl (show d.c ≠ 85 by rw [h119]; decide)
  have e119 := u8_eq (n := 119) (k := 119) rfl h119
  have HNB : Hid (numB d (m : Int) = (revSev m).reverse) := by
    show _ = _; unfold numB; rw [if_neg (by rw [h119]; decide), if_pos h119, Int.toNat_natCast]; unfold sevL revSev; rfl
  have hk0 := Blk.new w #[.int .u8 d.c.toNat, .bool d.gt, .int .i64 d.k] 60
  have hb0 := bSelf w (.cells #[.int .u8 d.c.toNat, .bool d.gt, .int .i64 d.k] 60)
  obtain ⟨r, hr⟩ : ∃ r, m % 128 = r := ⟨_, rfl⟩
  obtain ⟨q, hq⟩ : ∃ q, m / 128 = q := ⟨_, rfl⟩
  have f1 : (m : Int).tmod 128 = r := by rw [Int.tmod_eq_emod_of_nonneg (by omega)]; omega
  have f2 : (m : Int) % 128 = r := by omega
  have f3 : (m : Int).tdiv 128 = q := by rw [Int.tdiv_eq_ediv_of_nonneg (by omega)]; omega
  have f4 : (m : Int) / 128 = q := by omega
  obtain ⟨x, hx⟩ : ∃ x : UInt8, UInt8.ofNat r = x := ⟨_, rfl⟩
  have f5 : IntKind.u8.wrap (r : Int) = (x.toNat : Int) := by rw [← hx]; exact u8_wr r (by omega)
  have HQ : Hid (q < 72057594037927936) := by show _ < _; omega
  have HRV : Hid ([x] ++ sevF 10 q = revSev m) := by show _ = _; unfold revSev; rw [hr, hq, hx, List.cons_append, List.nil_append]
  have hmi : (m : Int) ≤ 9223372036854775807 := by omega
  clear hf hn hin h119 hr hq hx hm63
  go_enter Tryz.func63, Tryz.ntmps63
  go_upto_region 1 with fail
  generalize w.alloc (.cells #[.int .u8 d.c.toNat, .bool d.gt, .int .i64 d.k] 60) = W at *
  have d0 := hk0.cell 0 rfl
  have HB0 := Lib.hid hb0
  have hk1 := newAt W #[.int .u8 x.toNat] 5 _ (c8 [x]) rfl rfl
  have hrow0 := hk1.row (base := w.heap.size) (n := 1) (by have := hb0.size; omega) (by simp) (by unfold maxLen; simp)
  have HROW0 : Hid ((W.alloc (.cells #[.int .u8 x.toNat] 5)).ownsRow w.heap.size 5 1 (.slice (some ⟨W.heap.size, 0, none⟩) 1 1) [x].length (c8 [x].reverse)) := hrow0
  have HBA : Hid (Below w.heap.size w (W.alloc (.cells #[.int .u8 x.toNat] 5))) := bAl hb0 _
  clear hb0 hk0 hk1 hrow0
  go_wp2_with fail
  go_loopw [1, 5] (fun n o wr => SevI m w n o wr) (fun n _ _ => (intOf n).toNat)
  case atStart => exact ⟨10, q, [x], rfl, Nat.lt_of_lt_of_le HQ.out pow10, HQ.out, by simp, rfl, HRV, HROW0, HBA⟩
  case round =>
    obtain ⟨f, m', acc, rfl, hmf0, hm56, hal, haf, hsv, hown, hbl⟩ := hrel
    have HMF := Lib.hid hmf0
    clear hmf0
    have hmi' : (m' : Int) < 72057594037927936 := by omega
    obtain ⟨ao, co, rfl⟩ := row_slice hown.out
    by_cases h0 : m' = 0
    · subst h0
      have hsv2 := hsv.out
      rw [sevF_zero, List.append_nil] at hsv2
      have HE : Hid (numB d (m : Int) = acc.reverse) := by show _ = _; rw [HNB.out, ← hsv2]
      clear hsv2 hm56
      go_wp2
      go_ret
      refine ⟨hbl.out, _, rfl, ?_⟩
      rw [HE.out]
      exact rdV_row (by rw [List.length_reverse]; exact hown.out)
    · have hpos : (0 : Int) < m' := by omega
      obtain ⟨g, hg⟩ := sev_f 128 f m' HMF.out h0
      subst hg
      have hqg := sev_q 128 g m' (by decide) HMF.out
      have HQG := Lib.hid hqg
      clear hqg HMF
      obtain ⟨gb, cb, post, hsl, hgb, hblk, hlen, hcm⟩ := row_blk hown.out hal
      simp only [Value.slice.injEq] at hsl
      obtain ⟨rfl, _, rfl⟩ := hsl
      obtain ⟨r', hr'⟩ : ∃ r, m' % 128 = r := ⟨_, rfl⟩
      obtain ⟨q', hq'⟩ : ∃ q, m' / 128 = q := ⟨_, rfl⟩
      have k1 : (m' : Int).tmod 128 = r' := by rw [Int.tmod_eq_emod_of_nonneg (by omega)]; omega
      have k2 : (m' : Int) % 128 = r' := by omega
      have k3 : (m' : Int).tdiv 128 = q' := by rw [Int.tdiv_eq_ediv_of_nonneg (by omega)]; omega
      have k4 : (m' : Int) / 128 = q' := by omega
      have hr128 : r' < 128 := by omega
      have hri : (r' : Int) < 128 := by omega
      obtain ⟨y, hy⟩ : ∃ y : UInt8, UInt8.ofNat (r' + 128) = y := ⟨_, rfl⟩
      have k5 : IntKind.u8.wrap (128 + (r' : Int)) = (y.toNat : Int) := by rw [← hy, ← u8_wr _ (by omega)]; congr 1; omega
      have HSV : Hid ((acc ++ [y]) ++ sevF g q' = revSev m) := by
        show _ = _
        rw [← hsv.out, sevF_step g m' h0, hr', hq', hy]; simp
      have HQM : Hid (q' < 128 ^ g ∧ q' < 72057594037927936) := by
        refine ⟨?_, by omega⟩
        rw [← hq']; exact HQG.out
      have hqm : (q' : Int) < (m' : Int) := by omega
      have hk1 := newAt wr #[.int .u8 y.toNat] 5 _ (c8 [y]) rfl rfl
      have HY : Hid ((wr.alloc (.cells #[.int .u8 y.toNat] 5)).ownsRow wr.heap.size 5 1 (.slice (some ⟨wr.heap.size, 0, none⟩) 1 1) 1 (c8 [y])) := hk1.row (base := wr.heap.size) (n := 1) (Nat.le_refl _) (by simp) (by unfold maxLen; simp)
      have HRD : Hid (Rd (wr.alloc (.cells #[.int .u8 y.toNat] 5)) gb acc.reverse) := hblk.rdp.below (bSelf _ _)
      have HLN : Hid (acc.reverse.length = acc.length) := List.length_reverse
      have hnn : 1 + acc.length ≤ 1000000000 := by omega
      have HBS : Hid (wr.heap.size ≤ (wr.alloc (.cells #[.int .u8 y.toNat] 5)).heap.size) := (bSelf wr (.cells #[.int .u8 y.toNat] 5)).size
      have HM := Lib.hid h0
      have HQL : Hid (q' < m') := by show _ < _; omega
      have hqb : q' < 72057594037927936 := by omega
      clear hm56 hk1 hblk hlen hr' hq' hy h0 hqm hmi hmi'
      go_wp2_with (at_builtin; refine app8n rfl _ _ rfl wr.heap.size (.slice (some ⟨wr.heap.size, 0, none⟩) 1 1) 1 [y] rfl HY.out gb acc.length co acc.reverse rfl HLN.out HRD.out hnn HBS.out ?_; intro v6 w6 hown6 hgrow6; obtain ⟨a6, c6, rfl⟩ := row_slice hown6.out)
      have HB6 : Hid (Below w.heap.size w w6) := (bAl hbl.out _).grown hgrow6.out (by have := hbl.out.size; simp; omega) (fun j hj => by have := (HY.out.lt j hj).1; have := hbl.out.size; omega)
      have HR6 : Hid (w6.ownsRow w.heap.size 5 1 (.slice a6 (1 + acc.length) c6) (acc ++ [y]).length (c8 (acc ++ [y]).reverse)) := by
        show World.ownsRow _ _ _ _ _ _ _
        rw [List.length_append, Nat.add_comm acc.length, List.reverse_append]
        exact ownsRow_mono hown6.out hbl.out.size
      clear hown6 hgrow6
      go_roundw
      case rel => exact ⟨g, q', acc ++ [y], rfl, HQM.out.1, HQM.out.2, by simp, by simp; omega, HSV, HR6, HB6⟩
      case measure =>
        have h := HQL.out
        simpa [intOf] using h
def FixI (d : Dir) (n : Int) (_w W : World) (u o i : Value) (wr : World) : Prop :=
  ∃ (j v : Nat) (acc : List UInt8), j ≤ sizeC d.c ∧ u = .int .u64 v ∧ v < 18446744073709551616 ∧ i = .int .i64 j ∧ acc.length = j ∧ Hid (acc ++ leL (sizeC d.c - j) v = leL (sizeC d.c) (u64 n)) ∧ Hid (wr.ownsRow W.heap.size 5 1 o j (c8 acc)) ∧ Hid (Below W.heap.size W wr)
theorem u64_wr (n : Int) : IntKind.u64.wrap n = (u64 n : Int) ∧ u64 n < 18446744073709551616 := by
  rw [IntKind.wrap_u64]; unfold u64; omega
theorem u8_wr2 (v : Nat) : IntKind.u8.wrap (v : Int) = ((UInt8.ofNat v).toNat : Int) := by
  rw [IntKind.wrap_u8, UInt8.toNat_ofNat']; omega
set_option maxRecDepth 100000 in
set_option maxHeartbeats 4000000 in
theorem t63_n (d : Dir) (n : Int) (w : World) (h85 : d.c ≠ 85) (h119 : d.c ≠ 119) (hp : 0 < sizeC d.c) :
    Calls Tryz.prog 63 #[.agg #[.int .u8 d.c.toNat, .bool d.gt, .int .i64 d.k], .int .i64 n] w (BtsV (numB d n) w) := by
  have h8 := sizeC_le d.c
  have h8i : (sizeC d.c : Int) ≤ 8 := by omega
  have e85 := u8_ne (n := 85) (k := 85) rfl h85
  have e119 := u8_ne (n := 119) (k := 119) rfl h119
  have HNB : Hid (numB d n = if d.great then (leL (sizeC d.c) (u64 n)).reverse else leL (sizeC d.c) (u64 n)) := by
    show _ = _; unfold numB; rw [if_neg h85, if_neg h119]
  obtain ⟨v0, hv0⟩ : ∃ v0, u64 n = v0 := ⟨_, rfl⟩
  have f1 := (u64_wr n).1
  have hv64 := (u64_wr n).2
  rw [hv0] at f1 hv64
  have HV0 : Hid ([] ++ leL (sizeC d.c - 0) v0 = leL (sizeC d.c) (u64 n)) := by show _ = _; rw [hv0]; rfl
  have HV64 := Lib.hid hv64
  have HGR : Hid (d.great = (d.gt || d.c == 110 || d.c == 78)) := rfl
  have C34 := fun W => t34 d.c W
  have hk0 := Blk.new w #[.int .u8 d.c.toNat, .bool d.gt, .int .i64 d.k] 60
  have hb0 := bSelf w (.cells #[.int .u8 d.c.toNat, .bool d.gt, .int .i64 d.k] 60)
  have HP := Lib.hid hp
  clear h85 h119 hv0 hv64 hp
  go_enter Tryz.func63, Tryz.ntmps63
  go_upto_region 1 with fail
  generalize w.alloc (.cells #[.int .u8 d.c.toNat, .bool d.gt, .int .i64 d.k] 60) = W at *
  have d0 := hk0.cell 0 rfl
  have HB0 := Lib.hid hb0
  have HK0 := Lib.hid hk0
  clear hb0 hk0
  go_wp2_with fail
  go_loopw [6, 7, 8] (fun u o i wr => FixI d n w W u o i wr) (fun _ _ i _ => sizeC d.c - (intOf i).toNat)
  case atStart => exact ⟨0, v0, [], Nat.zero_le _, rfl, HV64.out, rfl, rfl, HV0, World.ownsRow_nil _ _ _ _, Below.refl _ _⟩
  case round =>
    obtain ⟨j, v, acc, hj, rfl, hv, rfl, hal, hle, hown, hbl⟩ := hrel
    obtain ⟨ao, co, rfl⟩ := row_slice hown.out
    have hkr := blkDown HK0.out hbl.out
    have d0 := hkr.cell 0 rfl
    have d1 := hkr.cell 1 rfl
    have hvi : (v : Int) < 18446744073709551616 := by omega
    by_cases hlt : j < sizeC d.c
    · have hlti : (j : Int) < sizeC d.c := by omega
      obtain ⟨y, hy⟩ : ∃ y : UInt8, UInt8.ofNat v = y := ⟨_, rfl⟩
      have k5 : IntKind.u8.wrap (v : Int) = (y.toNat : Int) := by rw [← hy]; exact u8_wr2 v
      obtain ⟨q, hq⟩ : ∃ q, v / 256 = q := ⟨_, rfl⟩
      have k3 : (v : Int).tdiv 256 = q := by rw [Int.tdiv_eq_ediv_of_nonneg (by omega)]; omega
      have k4 : (v : Int) / 256 = q := by omega
      have HQ : Hid (q < 18446744073709551616) := by show _ < _; omega
      have HLE : Hid ((acc ++ [y]) ++ leL (sizeC d.c - (j + 1)) q = leL (sizeC d.c) (u64 n)) := by
        show _ = _
        rw [← hle.out, show sizeC d.c - j = (sizeC d.c - (j + 1)) + 1 by omega]
        simp only [leL, hy, hq, List.append_assoc, List.cons_append, List.nil_append]
      have HO := Lib.hid (ownsRow_below hown.out (bSelf wr (.cells #[.int .u8 y.toNat] 5)))
      have HRD : Hid (Rd (wr.alloc (.cells #[.int .u8 y.toNat] 5)) wr.heap.size [y]) := (newAt wr #[.int .u8 y.toNat] 5 _ (c8 [y]) rfl rfl).rd
      have hnn : j + 1 ≤ 1000000000 := by omega
      have HBS : Hid (W.heap.size ≤ (wr.alloc (.cells #[.int .u8 y.toNat] 5)).heap.size) := (bAl hbl.out _).size
      have HAL : Hid ((acc ++ [y]).length = j + 1) := by show _ = _; rw [List.length_append, hal]; rfl
      have hji : (j : Int) ≤ 8 := by omega
      clear hy hq hal hkr hv
      go_wp2_with (first | (go_at_call 34; refine (C34 _).mono ?_; rintro e4 w4 ⟨rfl, rfl⟩) | (at_builtin; refine app8n rfl _ _ rfl W.heap.size (.slice ao j co) j acc rfl HO.out wr.heap.size 1 1 [y] rfl rfl HRD.out hnn HBS.out ?_; intro v6 w6 hown6 hgrow6; obtain ⟨a6, c6, rfl⟩ := row_slice hown6.out))
      have HB6 : Hid (Below W.heap.size W w6) := (bAl hbl.out _).grown hgrow6.out HBS.out (fun k hk => (hown.out.lt k hk).1)
      clear hown hgrow6
      go_roundw
      case rel => exact ⟨j + 1, q, acc ++ [y], by omega, rfl, HQ.out, by go_num, HAL.out, HLE, hown6, HB6⟩
      case measure => simp [intOf]; omega
    · obtain rfl : j = sizeC d.c := by omega
      have hle2 := hle.out
      rw [Nat.sub_self] at hle2
      have HLE : Hid (acc = leL (sizeC d.c) (u64 n)) := by show _ = _; rw [← hle2]; simp [leL]
      have hltd : decide ((sizeC d.c : Int) < sizeC d.c) = false := decide_eq_false (by omega)
      have HBR : Hid (Below w.heap.size w wr) := bThen HB0.out hbl.out
      have HRV : Hid (RdV wr (.slice ao (sizeC d.c) co) acc) := rdV_row (by rw [hal]; exact hown.out)
      have HAL := Lib.hid hal
      have HC := Lib.hid (fun (hl : acc.length ≤ 1000000) => t73 (.slice ao (sizeC d.c) co) acc wr HRV.out hl)
      have hl8 : acc.length ≤ 1000000 := by omega
      clear hle2 hlt hj hal hkr hv
      cases hgt : d.gt with
      | true =>
        rw [hgt] at d1
        have HG : Hid (d.great = true) := by show _ = _; rw [HGR.out, hgt]; rfl
        clear hgt
        have HCC := Lib.hid (HC.out hl8)
        clear hl8
        go_wp2_with (go_at_call 34; refine (C34 _).mono ?_; rintro e4 w4 ⟨rfl, rfl⟩)
        refine HCC.out.mono ?_
        rintro e5 w5 ⟨hb5, v5, rfl, hr5⟩
        have HR5 := Lib.hid (rdV_row (by rw [List.length_reverse]; exact hr5))
        have HB5 := Lib.hid (bThen HBR.out hb5)
        obtain ⟨a5, c5, rfl⟩ := row_slice hr5
        clear hb5 hr5
        go_wp2
        go_ret
        refine ⟨HB5.out, _, rfl, ?_⟩
        rw [HNB.out, HG.out, if_pos rfl, ← HLE.out]
        exact HR5.out
      | false =>
        rw [hgt] at d1
        by_cases h110 : d.c = 110
        · have e110 := u8_eq (n := 110) (k := 110) rfl h110
          have HG : Hid (d.great = true) := by show _ = _; rw [HGR.out, h110]; simp
          clear hgt h110
          have HCC := Lib.hid (HC.out hl8)
          clear hl8
          go_wp2_with (go_at_call 34; refine (C34 _).mono ?_; rintro e4 w4 ⟨rfl, rfl⟩)
          refine HCC.out.mono ?_
          rintro e5 w5 ⟨hb5, v5, rfl, hr5⟩
          have HR5 := Lib.hid (rdV_row (by rw [List.length_reverse]; exact hr5))
          have HB5 := Lib.hid (bThen HBR.out hb5)
          obtain ⟨a5, c5, rfl⟩ := row_slice hr5
          clear hb5 hr5
          go_wp2
          go_ret
          refine ⟨HB5.out, _, rfl, ?_⟩
          rw [HNB.out, HG.out, if_pos rfl, ← HLE.out]
          exact HR5.out
        have e110 := u8_ne (n := 110) (k := 110) rfl h110
        by_cases h78 : d.c = 78
        · have e78 := u8_eq (n := 78) (k := 78) rfl h78
          have HG : Hid (d.great = true) := by show _ = _; rw [HGR.out, h78]; simp
          clear hgt h110 h78
          have HCC := Lib.hid (HC.out hl8)
          clear hl8
          go_wp2_with (go_at_call 34; refine (C34 _).mono ?_; rintro e4 w4 ⟨rfl, rfl⟩)
          refine HCC.out.mono ?_
          rintro e5 w5 ⟨hb5, v5, rfl, hr5⟩
          have HR5 := Lib.hid (rdV_row (by rw [List.length_reverse]; exact hr5))
          have HB5 := Lib.hid (bThen HBR.out hb5)
          obtain ⟨a5, c5, rfl⟩ := row_slice hr5
          clear hb5 hr5
          go_wp2
          go_ret
          refine ⟨HB5.out, _, rfl, ?_⟩
          rw [HNB.out, HG.out, if_pos rfl, ← HLE.out]
          exact HR5.out
        have e78 := u8_ne (n := 78) (k := 78) rfl h78
        have HG : Hid (d.great = false) := by show _ = _; rw [HGR.out, hgt]; simp [h110, h78]
        clear hgt h110 h78
        go_wp2_with (go_at_call 34; refine (C34 _).mono ?_; rintro e4 w4 ⟨rfl, rfl⟩)
        go_ret
        refine ⟨HBR.out, _, rfl, ?_⟩
        rw [HNB.out, HG.out, if_neg (by decide), ← HLE.out]
        exact HRV.out
theorem t63 (d : Dir) (n : Int) (w : World) (hc : numC d.c = true) (hin : InInt n) (hf : fitsC d.c n = true) :
    Calls Tryz.prog 63 #[.agg #[.int .u8 d.c.toNat, .bool d.gt, .int .i64 d.k], .int .i64 n] w (BtsV (numB d n) w) := by
  by_cases h85 : d.c = 85
  · exact t63_U d n w h85 (by rw [← h85]; exact hf)
  by_cases h119 : d.c = 119
  · exact t63_w d n w h119 (by rw [← h119]; exact hf) hin
  · refine t63_n d n w h85 h119 ?_
    rcases num_cases hc with h | h | h | h | h | h | h | h | h | h | h | h <;> first | exact absurd h h85 | exact absurd h h119 | (rw [h]; decide)
end Go.Proofs.YtmbnckmhngijdaaGreatDoor
