/- The law TextCuts: At and Slice are those of 1.2, of every string, encoding and numbers. -/
import Derived.Test.YtjdnpgknamhnlaaDoorT
import Derived.Test.YtjdnpgknamhnlaaDoorW
namespace Go.Proofs.YtjdnpgknamhnlaaDoor
open Go Go.RowKit Go.Shelf

theorem at_both (s : ByteArray) (e i : Int) (hs : s.size ≤ 9223372036854775807) (hi1 : -9223372036854775808 ≤ i) (hi2 : i ≤ 9223372036854775807) :
    ∃ (a : ByteArray) (r : Int), (∀ W, Lib.Utf8Tabs 0 1 W → Calls Tryd.prog 25 #[.string s, .int .i64 e, .int .i64 i] W fun e' w' => e' = .returned (.tuple #[.string a, .int .i64 r]) ∧ Below W.heap.size W w') ∧
      (∀ W, Calls Tryd.prog 26 #[.string s, .int .i64 e, .int .i64 i] W fun e' w' => e' = .returned (.tuple #[.string a, .int .i64 r]) ∧ Below W.heap.size W w') := by
  cases he : isEnc e with
  | false => exact ⟨_, _, fun W hT => t25_arg s e i W hT hs (Or.inl he), fun W => r26_arg s e i W hs (Or.inl he)⟩
  | true =>
    by_cases hs2 : s.size ≤ 100000
    · obtain ⟨j, hj⟩ : ∃ j, (if i < 0 then i + ((parts (nxOf e) s).length : Int) else i) = j := ⟨_, rfl⟩
      by_cases hin : 0 ≤ j ∧ j < (parts (nxOf e) s).length
      · obtain ⟨k, rfl⟩ := Int.eq_ofNat_of_zero_le hin.1
        have hk : k < (parts (nxOf e) s).length := by omega
        exact ⟨_, _, fun W hT => t25 s e i W hT hs2 he hi1 hi2 k hk hj, fun W => r26 s e i W hs2 he hi1 hi2 k hk hj⟩
      · have hout : (if i < 0 then i + ((parts (nxOf e) s).length : Int) else i) < 0 ∨ ((parts (nxOf e) s).length : Int) ≤ (if i < 0 then i + ((parts (nxOf e) s).length : Int) else i) := by rw [hj]; omega
        exact ⟨_, _, fun W hT => t25_out s e i W hT hs2 he hi1 hi2 hout, fun W => r26_out s e i W hs2 he hi1 hi2 hout⟩
    · exact ⟨_, _, fun W hT => t25_arg s e i W hT hs (Or.inr (by omega)), fun W => r26_arg s e i W hs (Or.inr (by omega))⟩

theorem slice_both (s : ByteArray) (e i n : Int) (hs : s.size ≤ 9223372036854775807) (hi1 : -9223372036854775808 ≤ i) (hi2 : i ≤ 9223372036854775807) (hn2 : n ≤ 9223372036854775807) :
    ∃ (a : ByteArray) (r : Int), (∀ W, Lib.Utf8Tabs 0 1 W → Calls Tryd.prog 27 #[.string s, .int .i64 e, .int .i64 i, .int .i64 n] W fun e' w' => e' = .returned (.tuple #[.string a, .int .i64 r]) ∧ Below W.heap.size W w') ∧
      (∀ W, Calls Tryd.prog 28 #[.string s, .int .i64 e, .int .i64 i, .int .i64 n] W fun e' w' => e' = .returned (.tuple #[.string a, .int .i64 r]) ∧ Below W.heap.size W w') := by
  cases he : isEnc e with
  | false => exact ⟨_, _, fun W hT => t27_arg s e i n W hT hs (Or.inl he), fun W => r28_arg s e i n W hs (Or.inl he)⟩
  | true =>
    by_cases hs2 : s.size ≤ 100000
    · by_cases hn : n < 0
      · exact ⟨_, _, fun W hT => t27_neg s e i n W hT hs2 he hn, fun W => r28_neg s e i n W hs2 he hn⟩
      · have hn0 : 0 ≤ n := by omega
        obtain ⟨j, hj⟩ : ∃ j, (if i < 0 then i + ((parts (nxOf e) s).length : Int) else i) = j := ⟨_, rfl⟩
        by_cases hin : 0 ≤ j ∧ j ≤ (parts (nxOf e) s).length
        · obtain ⟨k, rfl⟩ := Int.eq_ofNat_of_zero_le hin.1
          have hk : k ≤ (parts (nxOf e) s).length := by omega
          obtain ⟨m, hm⟩ : ∃ m : Nat, min n (((parts (nxOf e) s).length : Int) - k) = (m : Int) := ⟨(min n (((parts (nxOf e) s).length : Int) - k)).toNat, by omega⟩
          exact ⟨_, _, fun W hT => t27 s e i n W hT hs2 he hn0 hn2 hi1 hi2 k hk hj m hm, fun W => r28 s e i n W hs2 he hi1 hi2 hn0 hn2 k hk hj m hm⟩
        · have hout : (if i < 0 then i + ((parts (nxOf e) s).length : Int) else i) < 0 ∨ ((parts (nxOf e) s).length : Int) < (if i < 0 then i + ((parts (nxOf e) s).length : Int) else i) := by rw [hj]; omega
          exact ⟨_, _, fun W hT => t27_out s e i n W hT hs2 he hn0 hi1 hi2 hout, fun W => r28_out s e i n W hs2 he hi1 hi2 hn0 hout⟩
    · exact ⟨_, _, fun W hT => t27_arg s e i n W hT hs (Or.inr (by omega)), fun W => r28_arg s e i n W hs (Or.inr (by omega))⟩

set_option maxRecDepth 100000 in
set_option maxHeartbeats 2000000 in
theorem c5 (s : ByteArray) (e i n : Int) (w : World) (hT : Lib.Utf8Tabs 0 1 w) (hs : s.size ≤ 9223372036854775807) (hi1 : -9223372036854775808 ≤ i) (hi2 : i ≤ 9223372036854775807) (hn2 : n ≤ 9223372036854775807) :
    Calls Tryd.prog 5 #[.agg #[.string s, .int .i64 e, .int .i64 i, .int .i64 n]] w fun e' w' => e' = .returned (.bool true) ∧ Below w.heap.size w w' := by
  obtain ⟨a, r, cA, cB⟩ := at_both s e i hs hi1 hi2
  obtain ⟨b, q, cC, cD⟩ := slice_both s e i n hs hi1 hi2 hn2
  have HT := Lib.hid hT
  have HA := Lib.hid cA
  have HB := Lib.hid cB
  have HC := Lib.hid cC
  have HD := Lib.hid cD
  have cE : ∀ W, Below w.heap.size w W → Calls Tryd.prog 15 #[] W _ := fun W hb => c15 W (Utf8Tabs_below HT.out hb)
  have HE := Lib.hid cE
  clear hT cA cB cC cD cE
  have hB0 : Below w.heap.size w (w.alloc (.cells #[.string s, .int .i64 e, .int .i64 i, .int .i64 n] 37)) := (Below.refl _ _).alloc (Nat.le_refl _) _
  obtain ⟨W1, hW1⟩ : ∃ W1, w.alloc (.cells #[.string s, .int .i64 e, .int .i64 i, .int .i64 n] 37) = W1 := ⟨_, rfl⟩
  have hz1 : W1.heap.size = w.heap.size + 1 := by rw [← hW1]; simp
  have k0 : W1.cell? ⟨w.heap.size, 0, none⟩ = some (.string s) := by rw [← hW1]; simp
  have k1 : W1.cell? ⟨w.heap.size, 1, none⟩ = some (.int .i64 e) := by rw [← hW1]; simp
  have k2 : W1.cell? ⟨w.heap.size, 2, none⟩ = some (.int .i64 i) := by rw [← hW1]; simp
  have k3 : W1.cell? ⟨w.heap.size, 3, none⟩ = some (.int .i64 n) := by rw [← hW1]; simp
  have hk : ∀ W, Below W1.heap.size W1 W → W.cell? ⟨w.heap.size, 0, none⟩ = some (.string s) ∧ W.cell? ⟨w.heap.size, 1, none⟩ = some (.int .i64 e) ∧ W.cell? ⟨w.heap.size, 2, none⟩ = some (.int .i64 i) ∧ W.cell? ⟨w.heap.size, 3, none⟩ = some (.int .i64 n) := fun W hb =>
    ⟨(hb.cell (p := ⟨w.heap.size, 0, none⟩) (by show w.heap.size < _; omega)).trans k0, (hb.cell (p := ⟨w.heap.size, 1, none⟩) (by show w.heap.size < _; omega)).trans k1, (hb.cell (p := ⟨w.heap.size, 2, none⟩) (by show w.heap.size < _; omega)).trans k2, (hb.cell (p := ⟨w.heap.size, 3, none⟩) (by show w.heap.size < _; omega)).trans k3⟩
  have HK := Lib.hid hk
  clear hk
  rw [hW1] at hB0
  by_cases hb : 3000 < s.size
  · have hbi : (3000 : Int) < s.size := by omega
    have d : decide ((3000 : Int) < s.size) = true := by simp; omega
    go_enter Tryd.func5, Tryd.ntmps5
    go_wp2_with fail
    refine (HE.out _ hB0).mono ?_
    rintro e1 w2 ⟨rfl, hb2⟩
    go_wp2
    go_ret
    exact ⟨rfl, hB0.trans (hb2.mono hB0.size)⟩
  · have hbi : (s.size : Int) ≤ 3000 := by omega
    have d : decide ((3000 : Int) < s.size) = false := by simp; omega
    go_enter Tryd.func5, Tryd.ntmps5
    go_wp2_with fail
    clear k0 k1 k2 k3
    refine (HA.out _ (Utf8Tabs_below HT.out hB0)).mono ?_
    rintro e1 w2 ⟨rfl, hb2⟩
    have hB2 := hB0.trans (hb2.mono hB0.size)
    have q2 := hb2
    obtain ⟨k0, k1, k2, k3⟩ := HK.out _ q2
    go_wp2_with fail
    clear k0 k1 k2 k3
    refine (HB.out _).mono ?_
    rintro e1 w3 ⟨rfl, hb3⟩
    have hB3 := hB2.trans (hb3.mono hB2.size)
    have q3 := q2.trans (hb3.mono q2.size)
    obtain ⟨k0, k1, k2, k3⟩ := HK.out _ q3
    go_wp2_with fail
    clear k0 k1 k2 k3
    refine (HC.out _ (Utf8Tabs_below HT.out hB3)).mono ?_
    rintro e1 w4 ⟨rfl, hb4⟩
    have hB4 := hB3.trans (hb4.mono hB3.size)
    have q4 := q3.trans (hb4.mono q3.size)
    obtain ⟨k0, k1, k2, k3⟩ := HK.out _ q4
    go_wp2_with fail
    clear k0 k1 k2 k3
    refine (HD.out _).mono ?_
    rintro e1 w5 ⟨rfl, hb5⟩
    have hB5 := hB4.trans (hb5.mono hB4.size)
    go_wp2_with fail
    refine (HE.out _ hB5).mono ?_
    rintro e1 w6 ⟨rfl, hb6⟩
    go_wp2
    go_ret
    exact ⟨rfl, hB5.trans (hb6.mono hB5.size)⟩
end Go.Proofs.YtjdnpgknamhnlaaDoor
