/- Contracts of the reference's Length, At, Slice. -/
import Derived.Test.YtjdnpgknamhnlaaDoorV
namespace Go.Proofs.YtjdnpgknamhnlaaDoor
open Go Go.RowKit Go.Shelf

set_option maxRecDepth 100000 in
set_option maxHeartbeats 1000000 in
theorem r21_arg (s : ByteArray) (e : Int) (w : World) (hs : s.size ≤ 9223372036854775807) (hbad : isEnc e = false ∨ 100000 < s.size) :
    Calls Tryd.prog 21 #[.string s, .int .i64 e] w fun e' w' => e' = .returned (.tuple #[.int .i64 0, .int .i64 1]) ∧ Below w.heap.size w w' := by
  have hb : Go.RowKit.Hid ((!isEnc e || decide (100000 < s.size)) = true) := by
    show _ = _
    rcases hbad with h | h
    · rw [h]; rfl
    · rw [decide_eq_true h]; simp
  clear hbad
  go_enter Tryd.func21, Tryd.ntmps21
  go_wp2_with fail
  refine (c49_1 e s true hb.out _ _ hs (by simp) (by simp)).mono ?_
  rintro e' w2 ⟨rfl, rfl⟩
  go_wp2
  go_ret2
  exact ⟨rfl, (Below.refl _ _).alloc (Nat.le_refl _) _⟩

set_option maxRecDepth 100000 in
set_option maxHeartbeats 1000000 in
theorem r21 (s : ByteArray) (e : Int) (w : World) (hs : s.size ≤ 100000) (he : isEnc e = true) :
    Calls Tryd.prog 21 #[.string s, .int .i64 e] w fun e' w' => e' = .returned (.tuple #[.int .i64 (parts (nxOf e) s).length, .int .i64 0]) ∧ Below w.heap.size w w' := by
  have hb : Go.RowKit.Hid ((!isEnc e || decide (100000 < s.size)) = false) := by
    show _ = _
    rw [he, decide_eq_false (show ¬ 100000 < s.size by omega)]; rfl
  have hB1 : Below w.heap.size w (w.alloc (.cells #[.string s] 9)) := (Below.refl _ _).alloc (Nat.le_refl _) _
  have cP := c50 e he s hs (w.alloc (.cells #[.string s] 9))
  have hpl := parts_length (nxOf_ok e) s.size s rfl
  have hple : ((parts (nxOf e) s).length : Int) ≤ 100000 := by omega
  clear he
  go_enter Tryd.func21, Tryd.ntmps21
  go_wp2_with fail
  refine (c49_1 e s false hb.out _ _ (by omega) (by simp) (by simp)).mono ?_
  rintro e' w2 ⟨rfl, rfl⟩
  go_wp2_with fail
  refine cP.mono ?_
  rintro e' w3 ⟨v, rfl, hrow, hb3⟩
  have hB3 := hB1.trans (hb3.mono hB1.size)
  obtain ⟨ao, cap, rfl, hcells⟩ := partsRead_of_row hrow
  clear hcells
  go_wp2
  go_ret2
  exact ⟨rfl, hB3⟩

set_option maxRecDepth 100000 in
set_option maxHeartbeats 1000000 in
theorem r26_arg (s : ByteArray) (e : Int) (i : Int) (w : World) (hs : s.size ≤ 9223372036854775807) (hbad : isEnc e = false ∨ 100000 < s.size) :
    Calls Tryd.prog 26 #[.string s, .int .i64 e, .int .i64 i] w fun e' w' => e' = .returned (.tuple #[.string ⟨#[]⟩, .int .i64 1]) ∧ Below w.heap.size w w' := by
  have hb : Go.RowKit.Hid ((!isEnc e || decide (100000 < s.size)) = true) := by
    show _ = _
    rcases hbad with h | h
    · rw [h]; rfl
    · rw [decide_eq_true h]; simp
  clear hbad
  go_enter Tryd.func26, Tryd.ntmps26
  go_wp2_with fail
  refine (c49_1 e s true hb.out _ _ hs (by simp) (by simp)).mono ?_
  rintro e' w2 ⟨rfl, rfl⟩
  go_wp2
  go_ret2
  exact ⟨rfl, (Below.refl _ _).alloc (Nat.le_refl _) _⟩

set_option maxRecDepth 100000 in
set_option maxHeartbeats 1000000 in
theorem r26_out (s : ByteArray) (e i : Int) (w : World) (hs : s.size ≤ 100000) (he : isEnc e = true) (hi1 : -9223372036854775808 ≤ i) (hi2 : i ≤ 9223372036854775807)
    (hj : (if i < 0 then i + (parts (nxOf e) s).length else i) < 0 ∨ ((parts (nxOf e) s).length : Int) ≤ (if i < 0 then i + (parts (nxOf e) s).length else i)) :
    Calls Tryd.prog 26 #[.string s, .int .i64 e, .int .i64 i] w fun e' w' => e' = .returned (.tuple #[.string ⟨#[]⟩, .int .i64 3]) ∧ Below w.heap.size w w' := by
  have hb : Go.RowKit.Hid ((!isEnc e || decide (100000 < s.size)) = false) := by
    show _ = _
    rw [he, decide_eq_false (show ¬ 100000 < s.size by omega)]; rfl
  have hB1 : Below w.heap.size w (w.alloc (.cells #[.string s] 9)) := (Below.refl _ _).alloc (Nat.le_refl _) _
  have cP := c50 e he s hs (w.alloc (.cells #[.string s] 9))
  have hpl := parts_length (nxOf_ok e) s.size s rfl
  have hple : ((parts (nxOf e) s).length : Int) ≤ 100000 := by omega
  clear he
  go_enter Tryd.func26, Tryd.ntmps26
  go_wp2_with fail
  refine (c49_1 e s false hb.out _ _ (by omega) (by simp) (by simp)).mono ?_
  rintro e' w2 ⟨rfl, rfl⟩
  go_wp2_with fail
  refine cP.mono ?_
  rintro e' w3 ⟨v, rfl, hrow, hb3⟩
  have hB3 := hB1.trans (hb3.mono hB1.size)
  obtain ⟨ao, cap, rfl, hcells⟩ := partsRead_of_row hrow
  clear hcells
  by_cases h0 : i < 0
  · rw [if_pos h0] at hj
    have d0 : decide (i < 0) = true := by simp [h0]
    by_cases h1 : i + (parts (nxOf e) s).length < 0
    · have d1 : decide (i + ((parts (nxOf e) s).length : Int) < 0) = true := by simp; omega
      clear hj
      go_wp2
      go_ret2
      exact ⟨rfl, hB3⟩
    · exfalso; omega
  · rw [if_neg h0] at hj
    have d0 : decide (i < 0) = false := by simp; omega
    have h2 : ((parts (nxOf e) s).length : Int) ≤ i := by omega
    clear hj
    go_wp2
    go_ret2
    exact ⟨rfl, hB3⟩

set_option maxRecDepth 100000 in
set_option maxHeartbeats 1000000 in
theorem r26 (s : ByteArray) (e i : Int) (w : World) (hs : s.size ≤ 100000) (he : isEnc e = true) (hi1 : -9223372036854775808 ≤ i) (hi2 : i ≤ 9223372036854775807)
    (k : Nat) (hk : k < (parts (nxOf e) s).length) (hj : (if i < 0 then i + (parts (nxOf e) s).length else i) = k) :
    Calls Tryd.prog 26 #[.string s, .int .i64 e, .int .i64 i] w fun e' w' => e' = .returned (.tuple #[.string (parts (nxOf e) s)[k].1, .int .i64 0]) ∧ Below w.heap.size w w' := by
  have hb : Go.RowKit.Hid ((!isEnc e || decide (100000 < s.size)) = false) := by
    show _ = _
    rw [he, decide_eq_false (show ¬ 100000 < s.size by omega)]; rfl
  have hB1 : Below w.heap.size w (w.alloc (.cells #[.string s] 9)) := (Below.refl _ _).alloc (Nat.le_refl _) _
  have cP := c50 e he s hs (w.alloc (.cells #[.string s] 9))
  have hpl := parts_length (nxOf_ok e) s.size s rfl
  have hple : ((parts (nxOf e) s).length : Int) ≤ 100000 := by omega
  clear he
  go_enter Tryd.func26, Tryd.ntmps26
  go_wp2_with fail
  refine (c49_1 e s false hb.out _ _ (by omega) (by simp) (by simp)).mono ?_
  rintro e' w2 ⟨rfl, rfl⟩
  go_wp2_with fail
  refine cP.mono ?_
  rintro e' w3 ⟨v, rfl, hrow, hb3⟩
  have hB3 := hB1.trans (hb3.mono hB1.size)
  obtain ⟨ao, cap, rfl, hcells⟩ := partsRead_of_row hrow
  obtain ⟨g, off, rfl, hgs, hcell, _⟩ := hcells k hk
  clear hcells
  by_cases h0 : i < 0
  · rw [if_pos h0] at hj
    have d0 : decide (i < 0) = true := by simp [h0]
    have hi3 : i + ((parts (nxOf e) s).length : Int) = (k : Int) := hj
    have hkl : (k : Int) < (parts (nxOf e) s).length := by omega
    clear hj
    go_wp2
    go_ret2
    exact ⟨rfl, hB3⟩
  · rw [if_neg h0] at hj
    subst hj
    have d0 : decide ((k : Int) < 0) = false := by simp
    have hkl : (k : Int) < (parts (nxOf e) s).length := by omega
    go_wp2
    go_ret2
    exact ⟨rfl, hB3⟩

set_option maxRecDepth 100000 in
set_option maxHeartbeats 1000000 in
theorem r28_arg (s : ByteArray) (e : Int) (i n : Int) (w : World) (hs : s.size ≤ 9223372036854775807) (hbad : isEnc e = false ∨ 100000 < s.size) :
    Calls Tryd.prog 28 #[.string s, .int .i64 e, .int .i64 i, .int .i64 n] w fun e' w' => e' = .returned (.tuple #[.string ⟨#[]⟩, .int .i64 1]) ∧ Below w.heap.size w w' := by
  have hb : Go.RowKit.Hid ((!isEnc e || decide (100000 < s.size)) = true) := by
    show _ = _
    rcases hbad with h | h
    · rw [h]; rfl
    · rw [decide_eq_true h]; simp
  clear hbad
  go_enter Tryd.func28, Tryd.ntmps28
  go_wp2_with fail
  refine (c49_1 e s true hb.out _ _ hs (by simp) (by simp)).mono ?_
  rintro e' w2 ⟨rfl, rfl⟩
  go_wp2
  go_ret2
  exact ⟨rfl, (Below.refl _ _).alloc (Nat.le_refl _) _⟩

set_option maxRecDepth 100000 in
set_option maxHeartbeats 1000000 in
theorem r28_neg (s : ByteArray) (e i n : Int) (w : World) (hs : s.size ≤ 100000) (he : isEnc e = true) (hn : n < 0) :
    Calls Tryd.prog 28 #[.string s, .int .i64 e, .int .i64 i, .int .i64 n] w fun e' w' => e' = .returned (.tuple #[.string ⟨#[]⟩, .int .i64 1]) ∧ Below w.heap.size w w' := by
  have hb : Go.RowKit.Hid ((!isEnc e || decide (100000 < s.size)) = false) := by
    show _ = _
    rw [he, decide_eq_false (show ¬ 100000 < s.size by omega)]; rfl
  have dn : decide (n < 0) = true := by simp [hn]
  clear he
  go_enter Tryd.func28, Tryd.ntmps28
  go_wp2_with fail
  refine (c49_1 e s false hb.out _ _ (by omega) (by simp) (by simp)).mono ?_
  rintro e' w2 ⟨rfl, rfl⟩
  go_wp2
  go_ret2
  exact ⟨rfl, (Below.refl _ _).alloc (Nat.le_refl _) _⟩

set_option maxRecDepth 100000 in
set_option maxHeartbeats 1000000 in
theorem r28_out (s : ByteArray) (e i n : Int) (w : World) (hs : s.size ≤ 100000) (he : isEnc e = true) (hi1 : -9223372036854775808 ≤ i) (hi2 : i ≤ 9223372036854775807) (hn : 0 ≤ n)
    (hj : (if i < 0 then i + (parts (nxOf e) s).length else i) < 0 ∨ ((parts (nxOf e) s).length : Int) < (if i < 0 then i + (parts (nxOf e) s).length else i)) :
    Calls Tryd.prog 28 #[.string s, .int .i64 e, .int .i64 i, .int .i64 n] w fun e' w' => e' = .returned (.tuple #[.string ⟨#[]⟩, .int .i64 3]) ∧ Below w.heap.size w w' := by
  have dn : decide (n < 0) = false := by simp; omega
  have hb : Go.RowKit.Hid ((!isEnc e || decide (100000 < s.size)) = false) := by
    show _ = _
    rw [he, decide_eq_false (show ¬ 100000 < s.size by omega)]; rfl
  have hB1 : Below w.heap.size w (w.alloc (.cells #[.string s] 9)) := (Below.refl _ _).alloc (Nat.le_refl _) _
  have cP := c50 e he s hs (w.alloc (.cells #[.string s] 9))
  have hpl := parts_length (nxOf_ok e) s.size s rfl
  have hple : ((parts (nxOf e) s).length : Int) ≤ 100000 := by omega
  clear he
  go_enter Tryd.func28, Tryd.ntmps28
  go_wp2_with fail
  refine (c49_1 e s false hb.out _ _ (by omega) (by simp) (by simp)).mono ?_
  rintro e' w2 ⟨rfl, rfl⟩
  go_wp2_with fail
  refine cP.mono ?_
  rintro e' w3 ⟨v, rfl, hrow, hb3⟩
  have hB3 := hB1.trans (hb3.mono hB1.size)
  obtain ⟨ao, cap, rfl, hcells⟩ := partsRead_of_row hrow
  clear hcells
  by_cases h0 : i < 0
  · rw [if_pos h0] at hj
    have d0 : decide (i < 0) = true := by simp [h0]
    by_cases h1 : i + (parts (nxOf e) s).length < 0
    · have d1 : decide (i + ((parts (nxOf e) s).length : Int) < 0) = true := by simp; omega
      clear hj
      go_wp2
      go_ret2
      exact ⟨rfl, hB3⟩
    · exfalso; omega
  · rw [if_neg h0] at hj
    have d0 : decide (i < 0) = false := by simp; omega
    have h2 : ((parts (nxOf e) s).length : Int) < i := by omega
    clear hj
    go_wp2
    go_ret2
    exact ⟨rfl, hB3⟩

theorem cat_append (a b : List ByteArray) : cat (a ++ b) = cat a ++ cat b := by simp [cat]
theorem cat_one (a : ByteArray) : cat [a] = a.data.toList := by simp [cat]
theorem cat_parts {nx : ByteArray → Nat × Int} (h : NxOk nx) (s : ByteArray) (k : Nat) : ∀ m, k + m ≤ (parts nx s).length → cat (textsP (((parts nx s).drop k).take m)) = (s.extract (offN (parts nx s) k) (offN (parts nx s) (k + m))).data.toList := fun m => by
  induction m with
  | zero => intro _; simp [textsP, cat]
  | succ m ih =>
    intro hk
    have hlt : k + m < (parts nx s).length := by omega
    have h1 : ((parts nx s).drop k).take (m + 1) = ((parts nx s).drop k).take m ++ [(parts nx s)[k + m]] := by
      rw [List.take_succ_eq_append_getElem (by simp; omega), List.getElem_drop]
    have h2 := parts_extract h (k + m) s hlt
    have h3 := offN_mono (parts nx s) (Nat.le_add_right k m)
    have h4 := offN_mono (parts nx s) (Nat.le_add_right (k + m) 1)
    have e1 : textsP (((parts nx s).drop k).take (m + 1)) = textsP (((parts nx s).drop k).take m) ++ [(parts nx s)[k + m].1] := by rw [h1]; simp [textsP]
    rw [e1, cat_append, ih (by omega), cat_one, ← h2, ← Nat.add_assoc]
    generalize offN (parts nx s) k = a at h3 ⊢
    generalize offN (parts nx s) (k + m) = b at h3 h4 ⊢
    generalize offN (parts nx s) (k + m + 1) = c at h4 ⊢
    have e2 : s.extract a b ++ s.extract b c = s.extract a c := by
      rw [ByteArray.extract_append_extract, Nat.min_eq_left h3, Nat.max_eq_right h4]
    rw [← e2, ByteArray.data_append, Array.toList_append]
theorem toArray_eq (x : ByteArray) : (⟨x.data.toList.toArray⟩ : ByteArray) = x := by simp
theorem sub_len {nx : ByteArray → Nat × Int} (s : ByteArray) (k m : Nat) (hkm : k + m ≤ (parts nx s).length) : (((parts nx s).drop k).take m).length = m := by simp; omega
theorem c59_sub (e : Int) (s : ByteArray) (hs : s.size ≤ 100000) (k m : Nat) (hkm : k + m ≤ (parts (nxOf e) s).length) (v : Value) (w : World) (hv : PartsRead w v (((parts (nxOf e) s).drop k).take m)) :
    Calls Tryd.prog 59 #[v] w fun e' w' => e' = .returned (.string (s.extract (offN (parts (nxOf e) s) k) (offN (parts (nxOf e) s) (k + m)))) ∧ Below w.heap.size w w' := by
  have hcat := cat_parts (nxOf_ok e) s k m hkm
  have hle := parts_le (nxOf_ok e) s (k + m)
  have hpl := parts_length (nxOf_ok e) s.size s rfl
  have hsum : sumS (textsP (((parts (nxOf e) s).drop k).take m)) ≤ 140737488355328 := by
    unfold sumS
    rw [hcat]
    have : (s.extract (offN (parts (nxOf e) s) k) (offN (parts (nxOf e) s) (k + m))).data.toList.length = (s.extract (offN (parts (nxOf e) s) k) (offN (parts (nxOf e) s) (k + m))).size := rfl
    rw [this]
    simp
    omega
  have := c59 (((parts (nxOf e) s).drop k).take m) v w hv hsum (by rw [sub_len s k m hkm]; omega)
  rw [hcat, toArray_eq] at this
  exact this
theorem sub_read {nx : ByteArray → Nat × Int} (s : ByteArray) (k m : Nat) (hkm : k + m ≤ (parts nx s).length) (w : World) (ao : Option Addr) (cp : Nat)
    (hcells : ∀ j (h : j < (parts nx s).length), ∃ g off, ao = some ⟨g, off, none⟩ ∧ g < w.heap.size ∧ w.cell? ⟨g, off + j * 2, none⟩ = some (.string (parts nx s)[j].1) ∧ w.cell? ⟨g, off + j * 2 + 1, none⟩ = some (.int .i64 (parts nx s)[j].2)) :
    PartsRead w (.slice (Option.map (fun x => x.add (k * 2)) ao) m cp) (((parts nx s).drop k).take m) :=
  ⟨_, cp, by rw [sub_len s k m hkm], fun j hj' => by
    obtain ⟨g, off, ha, hg, h1, h2⟩ := hcells (k + j) (by rw [sub_len s k m hkm] at hj'; omega)
    refine ⟨g, off + k * 2, by rw [ha]; simp [Addr.add], hg, ?_, ?_⟩
    · rw [show off + k * 2 + j * 2 = off + (k + j) * 2 by omega, h1]; simp
    · rw [show off + k * 2 + j * 2 + 1 = off + (k + j) * 2 + 1 by omega, h2]; simp⟩
theorem sub_read0 {nx : ByteArray → Nat × Int} (s : ByteArray) (k : Nat) (hkm : k + 0 ≤ (parts nx s).length) (w : World) (ao : Option Addr) (cp : Nat) :
    PartsRead w (.slice ao 0 cp) (((parts nx s).drop k).take 0) :=
  ⟨_, cp, by rw [sub_len s k 0 hkm], fun j hj' => by rw [sub_len s k 0 hkm] at hj'; omega⟩

set_option maxRecDepth 100000 in
set_option maxHeartbeats 1000000 in
theorem r28 (s : ByteArray) (e i n : Int) (w : World) (hs : s.size ≤ 100000) (he : isEnc e = true) (hi1 : -9223372036854775808 ≤ i) (hi2 : i ≤ 9223372036854775807) (hn : 0 ≤ n) (_hn2 : n ≤ 9223372036854775807)
    (k : Nat) (hk : k ≤ (parts (nxOf e) s).length) (hj : (if i < 0 then i + (parts (nxOf e) s).length else i) = k) (m : Nat) (hm : (min n ((parts (nxOf e) s).length - k)) = (m : Int)) :
    Calls Tryd.prog 28 #[.string s, .int .i64 e, .int .i64 i, .int .i64 n] w fun e' w' => e' = .returned (.tuple #[.string (s.extract (offN (parts (nxOf e) s) k) (offN (parts (nxOf e) s) (k + m))), .int .i64 0]) ∧ Below w.heap.size w w' := by
  have dn : decide (n < 0) = false := by simp; omega
  have hkm : k + m ≤ (parts (nxOf e) s).length := by omega
  have hmm : min n (((parts (nxOf e) s).length : Int) - k) = (m : Int) := hm
  have Hmm := Lib.hid hmm
  clear hm hmm
  have hb : Go.RowKit.Hid ((!isEnc e || decide (100000 < s.size)) = false) := by
    show _ = _
    rw [he, decide_eq_false (show ¬ 100000 < s.size by omega)]; rfl
  have hB1 : Below w.heap.size w (w.alloc (.cells #[.string s] 9)) := (Below.refl _ _).alloc (Nat.le_refl _) _
  have cP := c50 e he s hs (w.alloc (.cells #[.string s] 9))
  have hpl := parts_length (nxOf_ok e) s.size s rfl
  have hple : ((parts (nxOf e) s).length : Int) ≤ 100000 := by omega
  clear he
  go_enter Tryd.func28, Tryd.ntmps28
  go_wp2_with fail
  refine (c49_1 e s false hb.out _ _ (by omega) (by simp) (by simp)).mono ?_
  rintro e' w2 ⟨rfl, rfl⟩
  go_wp2_with fail
  refine cP.mono ?_
  rintro e' w3 ⟨v, rfl, hrow, hb3⟩
  have hB3 := hB1.trans (hb3.mono hB1.size)
  obtain ⟨ao, cap, rfl, hcells⟩ := partsRead_of_row hrow
  have hcapm : (parts (nxOf e) s).length ≤ cap := by
    rcases hrow.2 with ⟨h, h0⟩ | ⟨g, cap', cur, h, _, _, hc, _⟩
    · simp at h; omega
    · simp at h; omega
  have hkl : (k : Int) ≤ (parts (nxOf e) s).length := by omega
  have cJ := c59_sub e s hs k m hkm (.slice (Option.map (fun x => x.add (k * 2)) ao) m (cap - k)) w3 (sub_read s k m hkm w3 ao (cap - k) hcells)
  have hmm := Hmm.out
  clear hcells
  by_cases h0 : i < 0
  · rw [if_pos h0] at hj
    have d0 : decide (i < 0) = true := by simp [h0]
    have hi3 : i + ((parts (nxOf e) s).length : Int) = (k : Int) := hj
    clear hj
    go_wp2_with fail
    refine cJ.mono ?_
    rintro e' w4 ⟨rfl, hb4⟩
    go_wp2
    go_ret2
    exact ⟨rfl, hB3.trans (hb4.mono hB3.size)⟩
  · rw [if_neg h0] at hj
    subst hj
    have d0 : decide ((k : Int) < 0) = false := by simp
    have hread0 : m = 0 → PartsRead w3 (.slice ao m 0) (((parts (nxOf e) s).drop k).take m) := fun h0 => by subst h0; exact sub_read0 s k hkm w3 ao 0
    have HR0 := Lib.hid hread0
    clear hread0
    go_wp2_with fail
    · refine (c59_sub e s hs k m hkm (.slice ao m 0) w3 (HR0.out (by omega))).mono ?_
      rintro e' w4 ⟨rfl, hb4⟩
      go_wp2
      go_ret2
      exact ⟨rfl, hB3.trans (hb4.mono hB3.size)⟩
    · refine cJ.mono ?_
      rintro e' w4 ⟨rfl, hb4⟩
      go_wp2
      go_ret2
      exact ⟨rfl, hB3.trans (hb4.mono hB3.size)⟩
end Go.Proofs.YtjdnpgknamhnlaaDoor
