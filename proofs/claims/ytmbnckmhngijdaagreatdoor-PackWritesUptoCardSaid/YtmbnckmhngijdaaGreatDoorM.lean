/- Contract of filled. -/
import Derived.Test.YtmbnckmhngijdaaGreatDoorL
namespace Go.Proofs.YtmbnckmhngijdaaGreatDoor
open Go Go.RowKit

def fillB (c : UInt8) (al : Bool) (n : Nat) (s : List UInt8) : List UInt8 :=
  if al then (if c = 90 then s ++ [0] else s)
  else if n < s.length then (if c = 90 then s.take (n - 1) ++ [0] else s.take n)
  else s ++ List.replicate (n - s.length) (if c = 65 then 32 else 0)
/-- what stands behind the copy -/
def cpL (s : List UInt8) (n : Nat) : List UInt8 := s.take n ++ List.replicate (n - s.length) 0
theorem cp_cells (s : ByteArray) (n : Nat) : c8 (s.data.toList.take (min s.size n)) ++ (c8 (List.replicate n 0)).drop (min s.size n) = c8 (cpL s.data.toList n) := by
  have hl : s.data.toList.length = s.size := rfl
  unfold cpL
  rw [c8, c8, c8, List.map_append]
  have e1 : s.data.toList.take (min s.size n) = s.data.toList.take n := by
    by_cases h : s.size ≤ n
    · rw [Nat.min_eq_left h, List.take_of_length_le (by omega), List.take_of_length_le (by omega)]
    · rw [Nat.min_eq_right (by omega)]
  rw [e1]
  congr 1
  simp only [List.map_replicate, List.drop_replicate]
  congr 1
  rw [hl]; omega
theorem cpL_length (s : List UInt8) (n : Nat) : (cpL s n).length = n := by simp [cpL]; omega
theorem fill_len {c : UInt8} {n : Nat} {s : List UInt8} (h : c ≠ 90) (h2 : c ≠ 65) : cpL s n = fillB c false n s := by
  unfold cpL fillB
  rw [if_neg (by decide)]
  by_cases h3 : n < s.length
  · rw [if_pos h3, if_neg h, show n - s.length = 0 by omega]; simp
  · rw [if_neg h3, if_neg h2, List.take_of_length_le (by omega)]
theorem blk_nil {w : World} {g : Nat} {cs : List Value} (h : Blk w g 5 cs) {cs' : List Value} (e : cs = cs') : Blk w g 5 cs' := e ▸ h
set_option maxRecDepth 100000 in
set_option maxHeartbeats 2000000 in
theorem t123_all_o (c : UInt8) (nb gr : Bool) (sz : Int) (n : Nat) (s : ByteArray) (w : World) (h90 : c ≠ 90) (h65 : c ≠ 65) (hs : s.size ≤ 1200000) (hn : n ≤ 1000) :
    Calls Tryz.prog 123 #[.agg #[.int .u8 c.toNat, .bool nb, .int .i64 sz, .bool gr, .bool true, .int .i64 n], .string s] w (BtsR (fillB c true n s.data.toList) w) := by
  have hsi : (s.size : Int) ≤ 1200000 := by omega
  have hni : (n : Int) ≤ 1000 := by omega
  have hsl : s.data.toList.length = s.size := rfl
  have hk0 := Blk.new w #[.int .u8 c.toNat, .bool nb, .int .i64 sz, .bool gr, .bool true, .int .i64 n] 81
  have hb0 := bSelf w (.cells #[.int .u8 c.toNat, .bool nb, .int .i64 sz, .bool gr, .bool true, .int .i64 n] 81)
  have hs0 : (w.alloc (.cells #[.int .u8 c.toNat, .bool nb, .int .i64 sz, .bool gr, .bool true, .int .i64 n] 81)).heap.size = w.heap.size + 1 := by simp
  have d1 := u8_ne (n := 90) (k := 90) rfl h90
  have d2 := u8_ne (n := 65) (k := 65) rfl h65
  have HF : Hid (cpL s.data.toList s.size = fillB c true n s.data.toList) := by
    show _ = _
    unfold cpL fillB
    rw [if_pos rfl, if_neg h90, List.take_of_length_le (by omega), hsl, Nat.sub_self]; simp
  clear h90 h65
  go_enter Tryz.func123, Tryz.ntmps123
  go_upto_region 6 with fail
  generalize w.alloc (.cells #[.int .u8 c.toNat, .bool nb, .int .i64 sz, .bool gr, .bool true, .int .i64 n] 81) = W at *
  have HB0 := Lib.hid hb0
  have HK0 := Lib.hid hk0
  have HS0 := Lib.hid hs0
  clear hk0 hb0 hs0
  go_upto_region 8 with (first
    | (at_make; refine mk8 _ rfl _ _ rfl _ _ (s.size) rfl rfl rfl rfl (by omega) ?_; intro w1 hb1 hbl1)
    | (with_reducible refine cpS rfl _ _ rfl W.heap.size _ _ s _ rfl rfl hb1.out (by simp) ?_; intro w2 hb2 hk2))
  have hb2 := hb2.out
  rw [cp_cells] at hb2
  have HBL := Lib.hid ((hbl1.mono (Nat.le_refl _)).trans (hk2.out.below (B := W.heap.size) (fun g hg => by rw [hg]; exact Nat.le_refl _) hbl1.size))
  have HB := Lib.hid (HB0.out.trans (HBL.out.mono HB0.out.size))
  have hk0 := blkDown HK0.out HBL.out
  have hg0 : w.heap.size ≤ W.heap.size := HB0.out.size
  obtain ⟨h0, h1, h2, h3, h4, h5⟩ := hk0.six
  have HB2 := Lib.hid hb2
  clear hb2 hk2 hb1 hbl1 hk0
  go_wp2
  go_ret
  rw [← HF.out]
  exact ⟨W.heap.size, s.size, by rw [cpL_length]; rfl, HB2.out.rd, HB.out, hg0⟩
set_option maxRecDepth 100000 in
set_option maxHeartbeats 2000000 in
theorem t123_cnt_o (c : UInt8) (nb gr : Bool) (sz : Int) (n : Nat) (s : ByteArray) (w : World) (h90 : c ≠ 90) (h65 : c ≠ 65) (hs : s.size ≤ 1200000) (hn : n ≤ 1000) (hn1 : 1 ≤ n) :
    Calls Tryz.prog 123 #[.agg #[.int .u8 c.toNat, .bool nb, .int .i64 sz, .bool gr, .bool false, .int .i64 n], .string s] w (BtsR (fillB c false n s.data.toList) w) := by
  have hsi : (s.size : Int) ≤ 1200000 := by omega
  have hni : (n : Int) ≤ 1000 := by omega
  have hsl : s.data.toList.length = s.size := rfl
  have hk0 := Blk.new w #[.int .u8 c.toNat, .bool nb, .int .i64 sz, .bool gr, .bool false, .int .i64 n] 81
  have hb0 := bSelf w (.cells #[.int .u8 c.toNat, .bool nb, .int .i64 sz, .bool gr, .bool false, .int .i64 n] 81)
  have hs0 : (w.alloc (.cells #[.int .u8 c.toNat, .bool nb, .int .i64 sz, .bool gr, .bool false, .int .i64 n] 81)).heap.size = w.heap.size + 1 := by simp
  have d1 := u8_ne (n := 90) (k := 90) rfl h90
  have d2 := u8_ne (n := 65) (k := 65) rfl h65
  have HF : Hid (cpL s.data.toList n = fillB c false n s.data.toList) := fill_len h90 h65
  clear h90 h65
  go_enter Tryz.func123, Tryz.ntmps123
  go_upto_region 6 with fail
  generalize w.alloc (.cells #[.int .u8 c.toNat, .bool nb, .int .i64 sz, .bool gr, .bool false, .int .i64 n] 81) = W at *
  have HB0 := Lib.hid hb0
  have HK0 := Lib.hid hk0
  have HS0 := Lib.hid hs0
  clear hk0 hb0 hs0
  go_upto_region 8 with (first
    | (at_make; refine mk8 _ rfl _ _ rfl _ _ (n) rfl rfl rfl rfl (by omega) ?_; intro w1 hb1 hbl1)
    | (with_reducible refine cpS rfl _ _ rfl W.heap.size _ _ s _ rfl rfl hb1.out (by simp) ?_; intro w2 hb2 hk2))
  have hb2 := hb2.out
  rw [cp_cells] at hb2
  have HBL := Lib.hid ((hbl1.mono (Nat.le_refl _)).trans (hk2.out.below (B := W.heap.size) (fun g hg => by rw [hg]; exact Nat.le_refl _) hbl1.size))
  have HB := Lib.hid (HB0.out.trans (HBL.out.mono HB0.out.size))
  have hk0 := blkDown HK0.out HBL.out
  have hg0 : w.heap.size ≤ W.heap.size := HB0.out.size
  obtain ⟨h0, h1, h2, h3, h4, h5⟩ := hk0.six
  have HB2 := Lib.hid hb2
  clear hb2 hk2 hb1 hbl1 hk0
  go_wp2
  go_ret
  rw [← HF.out]
  exact ⟨W.heap.size, n, by rw [cpL_length]; rfl, HB2.out.rd, HB.out, hg0⟩
set_option maxRecDepth 100000 in
set_option maxHeartbeats 2000000 in
theorem t123_all_A (c : UInt8) (nb gr : Bool) (sz : Int) (n : Nat) (s : ByteArray) (w : World) (hc : c = 65) (hs : s.size ≤ 1200000) (hn : n ≤ 1000) :
    Calls Tryz.prog 123 #[.agg #[.int .u8 c.toNat, .bool nb, .int .i64 sz, .bool gr, .bool true, .int .i64 n], .string s] w (BtsR (fillB c true n s.data.toList) w) := by
  have hsi : (s.size : Int) ≤ 1200000 := by omega
  have hni : (n : Int) ≤ 1000 := by omega
  have hsl : s.data.toList.length = s.size := rfl
  have hk0 := Blk.new w #[.int .u8 c.toNat, .bool nb, .int .i64 sz, .bool gr, .bool true, .int .i64 n] 81
  have hb0 := bSelf w (.cells #[.int .u8 c.toNat, .bool nb, .int .i64 sz, .bool gr, .bool true, .int .i64 n] 81)
  have hs0 : (w.alloc (.cells #[.int .u8 c.toNat, .bool nb, .int .i64 sz, .bool gr, .bool true, .int .i64 n] 81)).heap.size = w.heap.size + 1 := by simp
  have d1 : ((c.toNat : Int) == 90) = false := by rw [hc]; rfl
  have d2 : ((c.toNat : Int) == 65) = true := by rw [hc]; rfl
  have HF : Hid (cpL s.data.toList s.size = fillB c true n s.data.toList) := by
    show _ = _
    unfold cpL fillB
    rw [if_pos rfl, if_neg (by rw [hc]; decide), List.take_of_length_le (by omega), hsl, Nat.sub_self]; simp
  clear hc
  go_enter Tryz.func123, Tryz.ntmps123
  go_upto_region 6 with fail
  generalize w.alloc (.cells #[.int .u8 c.toNat, .bool nb, .int .i64 sz, .bool gr, .bool true, .int .i64 n] 81) = W at *
  have HB0 := Lib.hid hb0
  have HK0 := Lib.hid hk0
  have HS0 := Lib.hid hs0
  clear hk0 hb0 hs0
  go_upto_region 8 with (first
    | (at_make; refine mk8 _ rfl _ _ rfl _ _ (s.size) rfl rfl rfl rfl (by omega) ?_; intro w1 hb1 hbl1)
    | (with_reducible refine cpS rfl _ _ rfl W.heap.size _ _ s _ rfl rfl hb1.out (by simp) ?_; intro w2 hb2 hk2))
  have hb2 := hb2.out
  rw [cp_cells] at hb2
  have HBL := Lib.hid ((hbl1.mono (Nat.le_refl _)).trans (hk2.out.below (B := W.heap.size) (fun g hg => by rw [hg]; exact Nat.le_refl _) hbl1.size))
  have HB := Lib.hid (HB0.out.trans (HBL.out.mono HB0.out.size))
  have hk0 := blkDown HK0.out HBL.out
  have hg0 : w.heap.size ≤ W.heap.size := HB0.out.size
  obtain ⟨h0, h1, h2, h3, h4, h5⟩ := hk0.six
  have HB2 := Lib.hid hb2
  clear hb2 hk2 hb1 hbl1 hk0
  go_wp2
  go_loopw [8] (fun i wr => i = .int .i64 s.size ∧ wr = w2) (fun i _ => 0)
  case atStart => exact ⟨by first | rfl | rw [Nat.min_self], rfl⟩
  case round =>
    obtain ⟨rfl, rfl⟩ := hrel
    go_wp2
    go_ret
    rw [← HF.out]
    exact ⟨W.heap.size, s.size, by rw [cpL_length]; rfl, HB2.out.rd, HB.out, hg0⟩
set_option maxRecDepth 100000 in
set_option maxHeartbeats 2000000 in
theorem t123_cnt_A (c : UInt8) (nb gr : Bool) (sz : Int) (n : Nat) (s : ByteArray) (w : World) (hc : c = 65) (hs : s.size ≤ 1200000) (hn : n ≤ 1000) (hn1 : 1 ≤ n) :
    Calls Tryz.prog 123 #[.agg #[.int .u8 c.toNat, .bool nb, .int .i64 sz, .bool gr, .bool false, .int .i64 n], .string s] w (BtsR (fillB c false n s.data.toList) w) := by
  have hsi : (s.size : Int) ≤ 1200000 := by omega
  have hni : (n : Int) ≤ 1000 := by omega
  have hsl : s.data.toList.length = s.size := rfl
  have hk0 := Blk.new w #[.int .u8 c.toNat, .bool nb, .int .i64 sz, .bool gr, .bool false, .int .i64 n] 81
  have hb0 := bSelf w (.cells #[.int .u8 c.toNat, .bool nb, .int .i64 sz, .bool gr, .bool false, .int .i64 n] 81)
  have hs0 : (w.alloc (.cells #[.int .u8 c.toNat, .bool nb, .int .i64 sz, .bool gr, .bool false, .int .i64 n] 81)).heap.size = w.heap.size + 1 := by simp
  have d1 : ((c.toNat : Int) == 90) = false := by rw [hc]; rfl
  have d2 : ((c.toNat : Int) == 65) = true := by rw [hc]; rfl
  have HC := Lib.hid hc
  clear hc
  by_cases hle : s.size ≤ n
  · have HF : Hid (fillB c false n s.data.toList = s.data.toList ++ List.replicate (n - s.size) 32) := by
      show _ = _
      unfold fillB
      rw [if_neg (by decide), if_neg (by omega), if_pos HC.out, hsl]
    have hd2 : cpL s.data.toList n = s.data.toList ++ List.replicate (s.size - s.size) 32 ++ List.replicate (n - s.size) 0 := by
      unfold cpL; rw [List.take_of_length_le (by omega), hsl, Nat.sub_self]; simp
    have HD2 := Lib.hid hd2
    clear hd2
    go_enter Tryz.func123, Tryz.ntmps123
    go_upto_region 6 with fail
    generalize w.alloc (.cells #[.int .u8 c.toNat, .bool nb, .int .i64 sz, .bool gr, .bool false, .int .i64 n] 81) = W at *
    have HB0 := Lib.hid hb0
    have HK0 := Lib.hid hk0
    have HS0 := Lib.hid hs0
    clear hk0 hb0 hs0
    go_upto_region 8 with (first
      | (at_make; refine mk8 _ rfl _ _ rfl _ _ (n) rfl rfl rfl rfl (by omega) ?_; intro w1 hb1 hbl1)
      | (with_reducible refine cpS rfl _ _ rfl W.heap.size _ _ s _ rfl rfl hb1.out (by simp) ?_; intro w2 hb2 hk2))
    have hb2 := hb2.out
    rw [cp_cells] at hb2
    have HBL := Lib.hid ((hbl1.mono (Nat.le_refl _)).trans (hk2.out.below (B := W.heap.size) (fun g hg => by rw [hg]; exact Nat.le_refl _) hbl1.size))
    have HB := Lib.hid (HB0.out.trans (HBL.out.mono HB0.out.size))
    have hk0 := blkDown HK0.out HBL.out
    have hg0 : w.heap.size ≤ W.heap.size := HB0.out.size
    obtain ⟨h0, h1, h2, h3, h4, h5⟩ := hk0.six
    have HB2 := Lib.hid hb2
    clear hb2 hk2 hb1 hbl1 hk0
    go_wp2
    go_loopw [8] (fun i wr => ∃ j : Nat, s.size ≤ j ∧ j ≤ n ∧ i = .int .i64 j ∧ Hid (Blk wr W.heap.size 5 (c8 (s.data.toList ++ List.replicate (j - s.size) 32 ++ List.replicate (n - j) 0))) ∧ Hid (Below W.heap.size W wr)) (fun i _ => n - (intOf i).toNat)
    case atStart => exact ⟨s.size, Nat.le_refl _, hle, rfl, by rw [← HD2.out]; exact HB2, HBL⟩
    case round =>
      obtain ⟨j, hj1, hj2, rfl, hb, hbl⟩ := hrel
      have hsj : (s.size : Int) ≤ j := by omega
      by_cases hlt : j < n
      · have hlti : (j : Int) < n := by omega
        have hf := hb.out.free j
        have hlen : (s.data.toList ++ List.replicate (j - s.size) 32 ++ List.replicate (n - j) (0 : UInt8)).length = n := by simp only [List.length_append, List.length_replicate, hsl]; omega
        have hcj : wr.cell? ⟨W.heap.size, j, none⟩ = some (.int .u8 0) := hb.out.cell j (by
          rw [c8, List.getElem?_map, List.getElem?_append_right (by simp only [List.length_append, List.length_replicate, hsl]; omega)]
          rw [List.getElem?_replicate_of_lt (by simp only [List.length_append, List.length_replicate, hsl]; omega)]
          rfl)
        have hst : (s.data.toList ++ List.replicate (j - s.size) 32 ++ List.replicate (n - j) (0 : UInt8)).set j 32 = s.data.toList ++ List.replicate (j + 1 - s.size) 32 ++ List.replicate (n - (j + 1)) 0 := by
          rw [List.set_append_right _ _ (by simp only [List.length_append, List.length_replicate, hsl]; omega)]
          have e1 : j - (s.data.toList ++ List.replicate (j - s.size) (32 : UInt8)).length = 0 := by simp only [List.length_append, List.length_replicate, hsl]; omega
          rw [e1, show n - j = (n - (j + 1)) + 1 by omega, List.replicate_succ, List.set_cons_zero, show j + 1 - s.size = (j - s.size) + 1 by omega, List.replicate_succ']
          simp
        have HST := Lib.hid hst
        clear hst hlen
        go_wp2
        go_roundw
        case rel =>
          refine ⟨j + 1, by omega, by omega, by go_num, ?_, bSet hbl.out _ _ (Nat.le_refl _) _⟩
          have h1 := hb.out.set j (.int .u8 32)
          show Blk _ _ _ _
          rw [← HST.out, c8, List.map_set]
          exact h1
        case measure => simp [intOf]; omega
      · obtain rfl : j = n := by omega
        have hk1 := HB0.out
        have hk2 := blkDown HK0.out hbl.out
        obtain ⟨h0, h1, h2, h3, h4, h5⟩ := hk2.six
        clear hk1 hk2 hlt
        go_wp2
        go_ret
        have hb3 := hb.out
        rw [Nat.sub_self, List.replicate_zero, List.append_nil, ← HF.out] at hb3
        have hlf : (fillB c false j s.data.toList).length = j := by rw [HF.out, List.length_append, List.length_replicate, hsl]; omega
        exact ⟨W.heap.size, j, by rw [hlf]; rfl, hb3.rd, HB0.out.trans (hbl.out.mono HB0.out.size), hg0⟩
  · have HF : Hid (fillB c false n s.data.toList = s.data.toList.take n) := by
      show _ = _
      unfold fillB
      rw [if_neg (by decide), if_pos (by omega), if_neg (by rw [HC.out]; decide)]
    have hd2 : cpL s.data.toList n = fillB c false n s.data.toList := by
      rw [HF.out]
      unfold cpL; rw [hsl, show n - s.size = 0 by omega]; simp
    have HD2 := Lib.hid hd2
    have hlen : (fillB c false n s.data.toList).length = n := by rw [← hd2, cpL_length]
    have HLEN := Lib.hid hlen
    have HM : Hid (min s.size n = n) := Nat.min_eq_right (by omega)
    clear hd2 hlen
    go_enter Tryz.func123, Tryz.ntmps123
    go_upto_region 6 with fail
    generalize w.alloc (.cells #[.int .u8 c.toNat, .bool nb, .int .i64 sz, .bool gr, .bool false, .int .i64 n] 81) = W at *
    have HB0 := Lib.hid hb0
    have HK0 := Lib.hid hk0
    have HS0 := Lib.hid hs0
    clear hk0 hb0 hs0
    go_upto_region 8 with (first
      | (at_make; refine mk8 _ rfl _ _ rfl _ _ (n) rfl rfl rfl rfl (by omega) ?_; intro w1 hb1 hbl1)
      | (with_reducible refine cpS rfl _ _ rfl W.heap.size _ _ s _ rfl rfl hb1.out (by simp) ?_; intro w2 hb2 hk2))
    have hb2 := hb2.out
    rw [cp_cells] at hb2
    have HBL := Lib.hid ((hbl1.mono (Nat.le_refl _)).trans (hk2.out.below (B := W.heap.size) (fun g hg => by rw [hg]; exact Nat.le_refl _) hbl1.size))
    have HB := Lib.hid (HB0.out.trans (HBL.out.mono HB0.out.size))
    have hk0 := blkDown HK0.out HBL.out
    have hg0 : w.heap.size ≤ W.heap.size := HB0.out.size
    obtain ⟨h0, h1, h2, h3, h4, h5⟩ := hk0.six
    have HB2 := Lib.hid hb2
    clear hb2 hk2 hb1 hbl1 hk0
    go_wp2
    go_loopw [8] (fun i wr => i = .int .i64 n ∧ wr = w2) (fun i _ => 0)
    case atStart => exact ⟨by rw [HM.out], rfl⟩
    case round =>
      obtain ⟨rfl, rfl⟩ := hrel
      go_wp2
      go_ret
      have hb3 := HB2.out
      rw [HD2.out] at hb3
      exact ⟨W.heap.size, n, by rw [HLEN.out]; rfl, hb3.rd, HB.out, hg0⟩
set_option maxRecDepth 100000 in
set_option maxHeartbeats 2000000 in
theorem t123_all_Z (c : UInt8) (nb gr : Bool) (sz : Int) (n : Nat) (s : ByteArray) (w : World) (hc : c = 90) (hs : s.size ≤ 1200000) (hn : n ≤ 1000) :
    Calls Tryz.prog 123 #[.agg #[.int .u8 c.toNat, .bool nb, .int .i64 sz, .bool gr, .bool true, .int .i64 n], .string s] w (BtsR (fillB c true n s.data.toList) w) := by
  have hsi : (s.size : Int) ≤ 1200000 := by omega
  have hni : (n : Int) ≤ 1000 := by omega
  have hsl : s.data.toList.length = s.size := rfl
  have hk0 := Blk.new w #[.int .u8 c.toNat, .bool nb, .int .i64 sz, .bool gr, .bool true, .int .i64 n] 81
  have hb0 := bSelf w (.cells #[.int .u8 c.toNat, .bool nb, .int .i64 sz, .bool gr, .bool true, .int .i64 n] 81)
  have hs0 : (w.alloc (.cells #[.int .u8 c.toNat, .bool nb, .int .i64 sz, .bool gr, .bool true, .int .i64 n] 81)).heap.size = w.heap.size + 1 := by simp
  have d1 : ((c.toNat : Int) == 90) = true := by rw [hc]; rfl
  have d2 : ((c.toNat : Int) == 65) = false := by rw [hc]; rfl
  have HF : Hid (cpL s.data.toList (s.size + 1) = fillB c true n s.data.toList) := by
    show _ = _
    unfold cpL fillB
    rw [if_pos rfl, if_pos hc, List.take_of_length_le (by omega), hsl, Nat.add_sub_cancel_left]; rfl
  clear hc
  go_enter Tryz.func123, Tryz.ntmps123
  go_upto_region 6 with fail
  generalize w.alloc (.cells #[.int .u8 c.toNat, .bool nb, .int .i64 sz, .bool gr, .bool true, .int .i64 n] 81) = W at *
  have HB0 := Lib.hid hb0
  have HK0 := Lib.hid hk0
  have HS0 := Lib.hid hs0
  clear hk0 hb0 hs0
  go_upto_region 8 with (first
    | (at_make; refine mk8 _ rfl _ _ rfl _ _ (s.size + 1) rfl rfl (by simp) (by simp) (by omega) ?_; intro w1 hb1 hbl1)
    | (with_reducible refine cpS rfl _ _ rfl W.heap.size _ _ s _ rfl rfl hb1.out (by simp) ?_; intro w2 hb2 hk2))
  have hb2 := hb2.out
  rw [cp_cells] at hb2
  have HBL := Lib.hid ((hbl1.mono (Nat.le_refl _)).trans (hk2.out.below (B := W.heap.size) (fun g hg => by rw [hg]; exact Nat.le_refl _) hbl1.size))
  have HB := Lib.hid (HB0.out.trans (HBL.out.mono HB0.out.size))
  have hk0 := blkDown HK0.out HBL.out
  have hg0 : w.heap.size ≤ W.heap.size := HB0.out.size
  obtain ⟨h0, h1, h2, h3, h4, h5⟩ := hk0.six
  have HB2 := Lib.hid hb2
  clear hb2 hk2 hb1 hbl1 hk0
  have hlt : decide ((s.size : Int) + 1 < s.size) = false := decide_eq_false (by omega)
  go_wp2
  go_ret
  rw [← HF.out]
  exact ⟨W.heap.size, s.size + 1, by rw [cpL_length]; rfl, HB2.out.rd, HB.out, hg0⟩
set_option maxRecDepth 100000 in
set_option maxHeartbeats 2000000 in
theorem t123_cnt_Z (c : UInt8) (nb gr : Bool) (sz : Int) (n : Nat) (s : ByteArray) (w : World) (hc : c = 90) (hs : s.size ≤ 1200000) (hn : n ≤ 1000) (hn1 : 1 ≤ n) :
    Calls Tryz.prog 123 #[.agg #[.int .u8 c.toNat, .bool nb, .int .i64 sz, .bool gr, .bool false, .int .i64 n], .string s] w (BtsR (fillB c false n s.data.toList) w) := by
  have hsi : (s.size : Int) ≤ 1200000 := by omega
  have hni : (n : Int) ≤ 1000 := by omega
  have hsl : s.data.toList.length = s.size := rfl
  have hk0 := Blk.new w #[.int .u8 c.toNat, .bool nb, .int .i64 sz, .bool gr, .bool false, .int .i64 n] 81
  have hb0 := bSelf w (.cells #[.int .u8 c.toNat, .bool nb, .int .i64 sz, .bool gr, .bool false, .int .i64 n] 81)
  have hs0 : (w.alloc (.cells #[.int .u8 c.toNat, .bool nb, .int .i64 sz, .bool gr, .bool false, .int .i64 n] 81)).heap.size = w.heap.size + 1 := by simp
  have d1 : ((c.toNat : Int) == 90) = true := by rw [hc]; rfl
  have d2 : ((c.toNat : Int) == 65) = false := by rw [hc]; rfl
  have HC := Lib.hid hc
  clear hc
  by_cases hle : s.size ≤ n
  · have HF : Hid (cpL s.data.toList n = fillB c false n s.data.toList) := by
      show _ = _
      unfold cpL fillB
      rw [if_neg (by decide), if_neg (by omega), if_neg (by rw [HC.out]; decide), List.take_of_length_le (by omega)]
    have hlt : decide ((n : Int) < s.size) = false := decide_eq_false (by omega)
    go_enter Tryz.func123, Tryz.ntmps123
    go_upto_region 6 with fail
    generalize w.alloc (.cells #[.int .u8 c.toNat, .bool nb, .int .i64 sz, .bool gr, .bool false, .int .i64 n] 81) = W at *
    have HB0 := Lib.hid hb0
    have HK0 := Lib.hid hk0
    have HS0 := Lib.hid hs0
    clear hk0 hb0 hs0
    go_upto_region 8 with (first
      | (at_make; refine mk8 _ rfl _ _ rfl _ _ (n) rfl rfl rfl rfl (by omega) ?_; intro w1 hb1 hbl1)
      | (with_reducible refine cpS rfl _ _ rfl W.heap.size _ _ s _ rfl rfl hb1.out (by simp) ?_; intro w2 hb2 hk2))
    have hb2 := hb2.out
    rw [cp_cells] at hb2
    have HBL := Lib.hid ((hbl1.mono (Nat.le_refl _)).trans (hk2.out.below (B := W.heap.size) (fun g hg => by rw [hg]; exact Nat.le_refl _) hbl1.size))
    have HB := Lib.hid (HB0.out.trans (HBL.out.mono HB0.out.size))
    have hk0 := blkDown HK0.out HBL.out
    have hg0 : w.heap.size ≤ W.heap.size := HB0.out.size
    obtain ⟨h0, h1, h2, h3, h4, h5⟩ := hk0.six
    have HB2 := Lib.hid hb2
    clear hb2 hk2 hb1 hbl1 hk0
    go_wp2
    go_ret
    rw [← HF.out]
    exact ⟨W.heap.size, n, by rw [cpL_length]; rfl, HB2.out.rd, HB.out, hg0⟩
  · obtain ⟨m, hm⟩ : ∃ m, n = m + 1 := ⟨n - 1, by omega⟩
    have HF : Hid ((cpL s.data.toList n).set m 0 = fillB c false n s.data.toList) := by
      show _ = _
      unfold cpL fillB
      rw [if_neg (by decide), if_pos (by omega), if_pos HC.out, hsl, show n - s.size = 0 by omega, List.replicate_zero, List.append_nil]
      rw [hm, Nat.add_sub_cancel, List.take_succ_eq_append_getElem (by omega), List.set_append_right _ _ (by simp; omega)]
      simp only [List.length_take, hsl, show min m s.size = m by omega, Nat.sub_self, List.set_cons_zero]
    have hlt : (n : Int) < s.size := by omega
    have hsub : (n : Int) - 1 = m := by omega
    have hmn : (m : Int) < n := by omega
    have HMN := Lib.hid hm
    clear hm
    go_enter Tryz.func123, Tryz.ntmps123
    go_upto_region 6 with fail
    generalize w.alloc (.cells #[.int .u8 c.toNat, .bool nb, .int .i64 sz, .bool gr, .bool false, .int .i64 n] 81) = W at *
    have HB0 := Lib.hid hb0
    have HK0 := Lib.hid hk0
    have HS0 := Lib.hid hs0
    clear hk0 hb0 hs0
    go_upto_region 8 with (first
      | (at_make; refine mk8 _ rfl _ _ rfl _ _ (n) rfl rfl rfl rfl (by omega) ?_; intro w1 hb1 hbl1)
      | (with_reducible refine cpS rfl _ _ rfl W.heap.size _ _ s _ rfl rfl hb1.out (by simp) ?_; intro w2 hb2 hk2))
    have hb2 := hb2.out
    rw [cp_cells] at hb2
    have HBL := Lib.hid ((hbl1.mono (Nat.le_refl _)).trans (hk2.out.below (B := W.heap.size) (fun g hg => by rw [hg]; exact Nat.le_refl _) hbl1.size))
    have HB := Lib.hid (HB0.out.trans (HBL.out.mono HB0.out.size))
    have hk0 := blkDown HK0.out HBL.out
    have hg0 : w.heap.size ≤ W.heap.size := HB0.out.size
    obtain ⟨h0, h1, h2, h3, h4, h5⟩ := hk0.six
    have HB2 := Lib.hid hb2
    clear hb2 hk2 hb1 hbl1 hk0
    have hf := HB2.out.free m
    have hcm : w2.cell? ⟨W.heap.size, m, none⟩ = some (.int .u8 (((cpL s.data.toList n).getD m 0).toNat : Int)) := HB2.out.cell m (by
      rw [c8, List.getElem?_map, List.getElem?_eq_getElem (by rw [cpL_length]; omega)]
      have := HMN.out
      simp [List.getD_eq_getElem?_getD, cpL_length, show m < n by omega])
    go_wp2
    go_ret
    rw [← HF.out]
    have h9 := HB2.out.set m (.int .u8 0)
    have h10 : Blk (w2.setCell ⟨W.heap.size, m, none⟩ (.int .u8 0)) W.heap.size 5 (c8 ((cpL s.data.toList n).set m 0)) := by
      rw [c8, List.map_set]; exact h9
    exact ⟨W.heap.size, n, by rw [List.length_set, cpL_length]; rfl, h10.rd, bSet HB.out _ _ hg0 _, hg0⟩
end Go.Proofs.YtmbnckmhngijdaaGreatDoor
