/- The law TextLong: strings of more than 100000 bytes are ErrArg, just those. -/
import Derived.Test.YtjdnpgknamhnlaaDoorN
namespace Go.Proofs.YtjdnpgknamhnlaaDoor
open Go Go.RowKit Go.Shelf

theorem long_k (n : Int) (h1 : -9223372036854775808 ≤ n) (h2 : n ≤ 9223372036854775807) :
    ∃ k : Nat, wrap64 (99998 + wrap64 ((IntKind.u64.wrap n).tmod 5)) = (k : Int) ∧ 99998 ≤ k ∧ k ≤ 100002 := by
  rw [IntKind.wrap_u64]
  have e : (n % 18446744073709551616).tmod 5 = n % 18446744073709551616 % 5 := Int.tmod_eq_emod_of_nonneg (by omega)
  rw [e]
  refine ⟨(99998 + n % 18446744073709551616 % 5).toNat, ?_, ?_, ?_⟩
  · unfold wrap64; omega
  · omega
  · omega
def zeros (k : Nat) : ByteArray := (List.replicate k (0 : Int)).foldl (fun r n => r.push (UInt8.ofNat n.toNat)) ByteArray.empty
theorem foldl_push_size (l : List Int) : ∀ r : ByteArray, (l.foldl (fun r n => r.push (UInt8.ofNat n.toNat)) r).size = r.size + l.length := by
  induction l with
  | nil => intro r; rfl
  | cons a l ih => intro r; rw [List.foldl_cons, ih]; simp [ByteArray.size_push]; omega
theorem zeros_size (k : Nat) : (zeros k).size = k := by
  unfold zeros; rw [foldl_push_size]; simp
theorem conv_zeros (W : World) (g k : Nat) (cur : Array Value) (hg : W.heap[g]? = some (.cells cur 5 (0, 0))) (hc : cur.toList = List.replicate k (Value.int .u8 0)) :
    (convert 58 9 (.slice (some ⟨g, 0, none⟩) k k)).run Tryd.prog W = .ok (.string (zeros k)) W := by
  rw [run_convert_bytes_string _ 58 9 5 _ _ _ Tryd.underlying58 Tryd.underlying5 Tryd.underlying9, run_bytesToString _ _ _ _ (List.replicate k (0 : Int)) ?_]
  · rfl
  · have hl : (List.replicate k (Value.int .u8 0)).length = k := by simp
    have := run_loadCells_list (P := Tryd.prog) (w := W) ⟨g, 0, none⟩ (List.replicate k (Value.int .u8 0)) (fun j v hj => by
      rw [← hc] at hj
      have e : (⟨g, 0, none⟩ : Addr).add j = ⟨g, j, none⟩ := by simp [Addr.add]; intro h; exact h.symm
      rw [e, Lib.cell_of_heap hg, ← Array.getElem?_toList]
      exact hj)
    rw [hl] at this
    rw [this, List.map_replicate]

set_option maxRecDepth 100000 in
set_option maxHeartbeats 1000000 in
theorem c14 (n : Int) (w : World) (hT : Lib.Utf8Tabs 0 1 w) (h1 : -9223372036854775808 ≤ n) (h2 : n ≤ 9223372036854775807) :
    Calls Tryd.prog 14 #[.int .i64 n] w fun e' w' => e' = .returned (.bool true) ∧ Below w.heap.size w w' := by
  have HT := Lib.hid hT
  clear hT
  obtain ⟨k, hk, hk1, hk2⟩ := long_k n h1 h2
  obtain ⟨i0, hi, hz0, hz1, hz2⟩ := info_parts infoByte
  obtain ⟨w1, hmk, hrow, hgr⟩ := run_makeSlice_full (P := Tryd.prog) w w.heap.size 58 5 i0 (.int .u8 0) 1 Tryd.underlying58 hi hz0 hz1 .i64 .i64 k (by omega) (by rw [hz2]; omega) (by unfold maxLen; omega) (Nat.le_refl _)
  have hB1 : Below w.heap.size w w1 := ⟨hgr.os, hgr.tape, hgr.output, hgr.size, fun j hj => hgr.block j hj (by simp)⟩
  obtain ⟨cur, hg, hcur⟩ : ∃ cur, w1.heap[w.heap.size]? = some (.cells cur 5 (0, 0)) ∧ cur.toList = List.replicate k (Value.int .u8 0) := by
    rcases hrow.2 with ⟨h, _⟩ | ⟨g, cap, cur, hv, _, hg, _, _, hcs, htk⟩
    · simp at h
    · simp at hv
      obtain ⟨rfl, rfl⟩ := hv
      refine ⟨cur, hg, ?_⟩
      rw [List.take_of_length_le (by rw [Array.length_toList]; omega)] at htk
      rw [htk]
      apply List.ext_getElem
      · simp [size_madeCells]
      · intro j hj1 hj2
        simp [madeCells, Value.cells, Nat.mod_one]
  have hsz := zeros_size k
  have hcv1 := conv_zeros w1 w.heap.size k cur hg hcur
  have hglt : w.heap.size < w1.heap.size := (Array.getElem?_eq_some_iff.1 hg).1
  have hz : ∀ W, Below w.heap.size w W → Lib.Utf8Tabs 0 1 W := fun W hb => Utf8Tabs_below HT.out hb
  have HZ := Lib.hid hz
  have HS := Lib.hid hsz
  have HC := Lib.hid hcur
  clear hz hsz hrow hgr hcur
  by_cases hbig : 100000 < k
  · have hb1 : (100000 : Int) < k := by omega
    have cL := t20_arg (zeros k) 0 w1 (HZ.out _ hB1) (by rw [HS.out]; omega) (.inr (by rw [HS.out]; exact hbig))
    have cV : ∀ W, Below w.heap.size w W → Calls Tryd.prog 16 #[.string (zeros k), .int .i64 1] W _ := fun W hb => t16_arg (zeros k) 1 W (HZ.out _ hb) (by rw [HS.out]; omega) (.inr (by rw [HS.out]; exact hbig))
    have CV := Lib.hid cV
    have cS : ∀ W, Below w.heap.size w W → Calls Tryd.prog 15 #[] W _ := fun W hb => c15 W (HZ.out _ hb)
    have CS := Lib.hid cS
    clear cV cS
    go_enter Tryd.func14, Tryd.ntmps14
    go_wp2_with fail
    refine cL.mono ?_
    rintro e1 w2 ⟨rfl, hb2⟩
    have hB2 := hB1.trans (hb2.mono hB1.size)
    have hcv2 := conv_zeros w2 w.heap.size k cur ((hb2.block _ hglt).trans hg) HC.out
    go_wp2_with fail
    refine (CV.out _ hB2).mono ?_
    rintro e1 w3 ⟨rfl, hb3⟩
    have hB3 := hB2.trans (hb3.mono hB2.size)
    go_wp2_with fail
    refine (CS.out _ hB3).mono ?_
    rintro e1 w4 ⟨rfl, hb4⟩
    go_wp2
    go_ret
    exact ⟨rfl, hB3.trans (hb4.mono hB3.size)⟩
  · have hb1 : (k : Int) ≤ 100000 := by omega
    have cL := t20 (zeros k) 0 w1 (HZ.out _ hB1) (by rw [HS.out]; omega) rfl
    have cV : ∀ W, Below w.heap.size w W → Calls Tryd.prog 16 #[.string (zeros k), .int .i64 1] W _ := fun W hb => t16 (zeros k) 1 W (HZ.out _ hb) (by rw [HS.out]; omega) rfl
    have CV := Lib.hid cV
    have cS : ∀ W, Below w.heap.size w W → Calls Tryd.prog 15 #[] W _ := fun W hb => c15 W (HZ.out _ hb)
    have CS := Lib.hid cS
    clear cV cS
    go_enter Tryd.func14, Tryd.ntmps14
    go_wp2_with fail
    refine cL.mono ?_
    rintro e1 w2 ⟨rfl, hb2⟩
    have hB2 := hB1.trans (hb2.mono hB1.size)
    have hcv2 := conv_zeros w2 w.heap.size k cur ((hb2.block _ hglt).trans hg) HC.out
    go_wp2_with fail
    refine (CV.out _ hB2).mono ?_
    rintro e1 w3 ⟨rfl, hb3⟩
    have hB3 := hB2.trans (hb3.mono hB2.size)
    go_wp2_with fail
    refine (CS.out _ hB3).mono ?_
    rintro e1 w4 ⟨rfl, hb4⟩
    go_wp2
    go_ret
    exact ⟨rfl, hB3.trans (hb4.mono hB3.size)⟩
end Go.Proofs.YtjdnpgknamhnlaaDoor
