/- Contracts: the law's ints, the reference's Valid and Codes, the program's chars and Of; the law TextValid. -/
import Derived.Test.YtjdnpgknamhnlaaDoorZG
namespace Go.Proofs.YtjdnpgknamhnlaaDoor
open Go Go.RowKit Go.Shelf

/-- A slice of ints, as it reads. -/
def IntsRead (w : World) (v : Value) (xs : List Int) : Prop :=
  ∃ ao cap, v = .slice ao xs.length cap ∧ (∀ k (h : k < xs.length), ∃ g off, ao = some ⟨g, off, none⟩ ∧ g < w.heap.size ∧ w.cell? ⟨g, off + k, none⟩ = some (.int .i64 xs[k]))
theorem IntsRead.below {w w' : World} {v : Value} {xs : List Int} (h : IntsRead w v xs) (hb : Below w.heap.size w w') : IntsRead w' v xs := by
  obtain ⟨ao, cap, hv, hc⟩ := h
  refine ⟨ao, cap, hv, fun k hk => ?_⟩
  obtain ⟨g, off, ha, hg, h1⟩ := hc k hk
  exact ⟨g, off, ha, Nat.lt_of_lt_of_le hg hb.size, (hb.cell (p := ⟨g, off + k, none⟩) hg).trans h1⟩
theorem intsRead_of_row {w : World} {B : Nat} {v : Value} {xs : List Int} (h : w.ownsRow B 3 1 v xs.length (xs.map fun x => Value.int .i64 x)) : IntsRead w v xs := by
  rcases h.2 with ⟨hv, h0⟩ | ⟨g, cap, cur, hv, hB, hg, r⟩
  · exact ⟨none, 0, by rw [hv, h0], fun k hk => by omega⟩
  · refine ⟨some ⟨g, 0, none⟩, cap, hv, fun k hk => ⟨g, 0, rfl, (Array.getElem?_eq_some_iff.1 hg).1, ?_⟩⟩
    subst hv
    rw [Nat.zero_add, h.cellAt k (by omega)]
    simp [hk]
theorem intsRead_nil (w : World) : IntsRead w (.slice none 0 0) [] := ⟨none, 0, rfl, fun k hk => by simp at hk⟩

theorem ints_ext {xs ys : List Int} (hl : xs.length = ys.length) (h : ∀ k (h1 : k < xs.length) (h2 : k < ys.length), xs[k] = ys[k]) : xs = ys := List.ext_getElem hl h

set_option maxRecDepth 100000 in
set_option maxHeartbeats 2000000 in
/-- The same ints are told as the same. -/
theorem c22_same (xs : List Int) (v1 v2 : Value) (w : World) (h1 : IntsRead w v1 xs) (h2 : IntsRead w v2 xs) (hl : xs.length ≤ 100000) :
    Calls Tryd.prog 22 #[v1, v2] w fun e' w' => e' = .returned (.bool true) ∧ Below w.heap.size w w' := by
  obtain ⟨ao1, cap1, rfl, hc1⟩ := h1
  obtain ⟨ao2, cap2, rfl, hc2⟩ := h2
  have HC1 := Lib.hid hc1
  have HC2 := Lib.hid hc2
  clear hc1 hc2
  go_enter Tryd.func22, Tryd.ntmps22
  go_wp2
  go_loopw [5] (fun i wr => ∃ k : Nat, k ≤ xs.length ∧ i = .int .i64 k ∧ Below w.heap.size w wr) (fun i _ => xs.length - (Go.RowKit.intOf i).toNat)
  case atStart => exact ⟨0, Nat.zero_le _, rfl, Below.refl _ _⟩
  case round =>
    obtain ⟨k, hk, rfl, hB⟩ := hrel
    by_cases hlt : k < xs.length
    · have hki : (k : Int) < xs.length := by omega
      obtain ⟨g1, o1, rfl, q1, x1⟩ := HC1.out k hlt
      obtain ⟨g2, o2, rfl, q2, x2⟩ := HC2.out k hlt
      have y1 := (hB.cell (p := ⟨g1, o1 + k, none⟩) q1).trans x1
      have y2 := (hB.cell (p := ⟨g2, o2 + k, none⟩) q2).trans x2
      clear x1 x2
      generalize xs[k] = x at y1 y2
      go_wp2
      go_quiet (fail)
      have hb1 : Below wr.heap.size wr (wr.drewN nq) := below_drewN (Below.refl _ wr) nq
      go_wp2
      go_roundw
      case rel => exact ⟨k + 1, by omega, by go_num, hB.trans (hb1.mono hB.size)⟩
      case measure => simp [Go.RowKit.intOf]; omega
    · have hki : (xs.length : Int) ≤ k := by omega
      go_wp2
      go_ret
      exact ⟨rfl, hB⟩

theorem parts_code (e : Int) : ∀ (n : Nat) (s : ByteArray), s.size = n → ∀ p ∈ parts (nxOf e) s, -1 ≤ p.2 ∧ p.2 ≤ 1114111 := fun n => by
  induction n using Nat.strongRecOn with
  | _ n ih =>
    intro s hs p hp
    by_cases h0 : s.size = 0
    · rw [parts_nil _ s h0] at hp; cases hp
    · have h1 : 0 < s.size := by omega
      have hlo := (nxOf_ok e).lo s h1
      rw [parts_cons (nxOf_ok e) s h1] at hp
      rcases List.mem_cons.1 hp with rfl | hp
      · show -1 ≤ (nxOf e s).2 ∧ (nxOf e s).2 ≤ 1114111
        unfold nxOf
        split
        · exact oneN_code _ _ _ _ _ (UInt8.toNat_lt _) (UInt8.toNat_lt _) (UInt8.toNat_lt _)
        · have := (s.get! 0).toNat_lt
          show -1 ≤ bcode (limOf e) (s.get! 0) ∧ bcode (limOf e) (s.get! 0) ≤ 1114111
          unfold bcode
          split <;> omega
      · exact ih _ (by simp; omega) (s.extract (nxOf e s).1 s.size) rfl p hp
theorem parts_code_at (e : Int) (s : ByteArray) (k : Nat) (h : k < (parts (nxOf e) s).length) : -1 ≤ (parts (nxOf e) s)[k].2 ∧ (parts (nxOf e) s)[k].2 ≤ 1114111 :=
  parts_code e s.size s rfl _ (List.getElem_mem h)

set_option maxRecDepth 100000 in
set_option maxHeartbeats 1000000 in
theorem r17_arg (s : ByteArray) (e : Int) (w : World) (hs : s.size ≤ 9223372036854775807) (hbad : isEnc e = false ∨ 100000 < s.size) :
    Calls Tryd.prog 17 #[.string s, .int .i64 e] w fun e' w' => e' = .returned (.tuple #[.bool false, .int .i64 1]) ∧ Below w.heap.size w w' := by
  have hb : Go.RowKit.Hid ((!isEnc e || decide (100000 < s.size)) = true) := by
    show _ = _
    rcases hbad with h | h
    · rw [h]; rfl
    · rw [decide_eq_true h]; simp
  clear hbad
  go_enter Tryd.func17, Tryd.ntmps17
  go_wp2_with fail
  refine (c49_1 e s true hb.out _ _ hs (by simp) (by simp)).mono ?_
  rintro e' w2 ⟨rfl, rfl⟩
  go_wp2
  go_ret2
  exact ⟨rfl, (Below.refl _ _).alloc (Nat.le_refl _) _⟩
set_option maxRecDepth 100000 in
set_option maxHeartbeats 1000000 in
theorem r19_arg (s : ByteArray) (e : Int) (w : World) (hs : s.size ≤ 9223372036854775807) (hbad : isEnc e = false ∨ 100000 < s.size) :
    Calls Tryd.prog 19 #[.string s, .int .i64 e] w fun e' w' => e' = .returned (.tuple #[.slice none 0 0, .int .i64 1]) ∧ Below w.heap.size w w' := by
  have hb : Go.RowKit.Hid ((!isEnc e || decide (100000 < s.size)) = true) := by
    show _ = _
    rcases hbad with h | h
    · rw [h]; rfl
    · rw [decide_eq_true h]; simp
  clear hbad
  go_enter Tryd.func19, Tryd.ntmps19
  go_wp2_with fail
  refine (c49_1 e s true hb.out _ _ hs (by simp) (by simp)).mono ?_
  rintro e' w2 ⟨rfl, rfl⟩
  go_wp2
  go_ret2
  exact ⟨rfl, (Below.refl _ _).alloc (Nat.le_refl _) _⟩
theorem enc1_good {e : Int} {s : ByteArray} (he : isEnc e = true) (hs : s.size ≤ 100000) : Go.RowKit.Hid ((!isEnc e || decide (100000 < s.size)) = false) := by
  show _ = _
  rw [he, decide_eq_false (show ¬ 100000 < s.size by omega)]; rfl


set_option maxRecDepth 100000 in
set_option maxHeartbeats 2000000 in
theorem r17_2 (s : ByteArray) (w : World) (hs : s.size ≤ 100000) :
    Calls Tryd.prog 17 #[.string s, .int .i64 2] w fun e' w' => e' = .returned (.tuple #[.bool (vldOf 2 s), .int .i64 0]) ∧ Below w.heap.size w w' := by
  have hb := enc1_good (e := 2) (s := s) rfl hs
  have hB1 : Below w.heap.size w (w.alloc (.cells #[.string s] 9)) := (Below.refl _ _).alloc (Nat.le_refl _) _
  have cP := c50 2 rfl s hs (w.alloc (.cells #[.string s] 9))
  have hpl := parts_length (nxOf_ok 2) s.size s rfl
  go_enter Tryd.func17, Tryd.ntmps17
  go_wp2_with fail
  refine (c49_1 2 s false hb.out _ _ (by omega) (by simp) (by simp)).mono ?_
  rintro e' w2 ⟨rfl, rfl⟩
  go_wp2_with fail
  refine cP.mono ?_
  rintro e' w3 ⟨v, rfl, hrow, hb3⟩
  have hB3 := hB1.trans (hb3.mono hB1.size)
  obtain ⟨ao, cap, rfl, hcells⟩ := partsRead_of_row hrow
  have HC := Lib.hid hcells
  clear hcells hrow cP
  obtain ⟨ps, hps⟩ : ∃ ps, parts (nxOf 2) s = ps := ⟨_, rfl⟩
  rw [hps] at hpl HC ⊢
  have HP := Lib.hid hps
  clear hps
  go_wp2
  go_loop [7] (fun i => ∃ k : Nat, k ≤ ps.length ∧ i = .int .i64 k ∧ Go.RowKit.Hid (∀ x (h : x < ps.length), x < k → 0 ≤ ps[x].2)) (fun i => ps.length - (Go.RowKit.intOf i).toNat)
  case atStart => exact ⟨0, Nat.zero_le _, rfl, fun x h1 h2 => by omega⟩
  case round =>
    obtain ⟨k, hk, rfl, hok⟩ := hrel
    by_cases hlt : k < ps.length
    · have hki : (k : Int) < ps.length := by omega
      obtain ⟨g, off, rfl, hgs, _, x1⟩ := HC.out k hlt
      by_cases hc : 0 ≤ ps[k].2
      · have hd : decide (ps[k].2 < 0) = false := by simp; omega
        have hcc := Lib.hid hc
        go_wp2
        go_round
        case rel =>
          exact ⟨k + 1, by omega, by go_num, fun x h1 h2 => by
            rcases Nat.lt_or_ge x k with h3 | h3
            · exact hok.out x h1 h3
            · obtain rfl : x = k := by omega
              exact hcc.out⟩
        case measure => simp [Go.RowKit.intOf]; omega
      · have hd : decide (ps[k].2 < 0) = true := by simp; omega
        have hd2 : ps[k].2 < 0 := by omega
        have hbad : Go.RowKit.Hid (vldOf 2 s = false) := by
          show Lib.validD s.data.toList = false
          cases hx : Lib.validD s.data.toList with
          | false => rfl
          | true => exact absurd ((valid_parts s.size s rfl).1 hx _ (by rw [show parts one s = ps from HP.out]; exact List.getElem_mem hlt)) hc
        clear hc
        go_wp2
        go_ret2
        exact ⟨by rw [hbad.out]; rfl, hB3⟩
    · have hki : (ps.length : Int) ≤ k := by omega
      have hgood : Go.RowKit.Hid (vldOf 2 s = true) := by
        show Lib.validD s.data.toList = true
        rw [valid_parts s.size s rfl]
        intro p hp
        rw [show parts one s = ps from HP.out] at hp
        obtain ⟨x, hx, rfl⟩ := List.mem_iff_getElem.1 hp
        exact hok.out x hx (by omega)
      go_wp2
      go_ret2
      exact ⟨by rw [hgood.out]; rfl, hB3⟩

set_option maxRecDepth 100000 in
set_option maxHeartbeats 2000000 in
theorem r17_1 (s : ByteArray) (e : Int) (w : World) (hs : s.size ≤ 100000) (he : isEnc e = true) (hne : e ≠ 2) :
    Calls Tryd.prog 17 #[.string s, .int .i64 e] w fun e' w' => e' = .returned (.tuple #[.bool true, .int .i64 0]) ∧ Below w.heap.size w w' := by
  have hb := enc1_good (e := e) (s := s) he hs
  have hB1 : Below w.heap.size w (w.alloc (.cells #[.string s] 9)) := (Below.refl _ _).alloc (Nat.le_refl _) _
  have cP := c50 e he s hs (w.alloc (.cells #[.string s] 9))
  have hpl := parts_length (nxOf_ok e) s.size s rfl
  have hb2 : (e == 2) = false := by rw [beq_eq_false_iff_ne]; exact hne
  clear hne
  go_enter Tryd.func17, Tryd.ntmps17
  go_wp2_with fail
  refine (c49_1 e s false hb.out _ _ (by omega) (by simp) (by simp)).mono ?_
  rintro e' w2 ⟨rfl, rfl⟩
  go_wp2_with fail
  refine cP.mono ?_
  rintro e' w3 ⟨v, rfl, hrow, hb3⟩
  have hB3 := hB1.trans (hb3.mono hB1.size)
  obtain ⟨ao, cap, rfl, hcells⟩ := partsRead_of_row hrow
  have HC := Lib.hid hcells
  clear hcells hrow cP
  obtain ⟨ps, hps⟩ : ∃ ps, parts (nxOf e) s = ps := ⟨_, rfl⟩
  rw [hps] at hpl HC ⊢
  have HP := Lib.hid hps
  clear hps
  go_wp2
  go_loop [7] (fun i => ∃ k : Nat, k ≤ ps.length ∧ i = .int .i64 k) (fun i => ps.length - (Go.RowKit.intOf i).toNat)
  case atStart => exact ⟨0, Nat.zero_le _, rfl⟩
  case round =>
    obtain ⟨k, hk, rfl⟩ := hrel
    by_cases hlt : k < ps.length
    · have hki : (k : Int) < ps.length := by omega
      obtain ⟨g, off, rfl, hgs, _, x1⟩ := HC.out k hlt
      by_cases hc : 0 ≤ ps[k].2
      · have hd : decide (ps[k].2 < 0) = false := by simp; omega
        have hcc := Lib.hid hc
        go_wp2
        go_round
        case rel =>
          exact ⟨k + 1, by omega, by go_num⟩
        case measure => simp [Go.RowKit.intOf]; omega
      · have hd : decide (ps[k].2 < 0) = true := by simp; omega
        have hd2 : ps[k].2 < 0 := by omega
        clear hc
        go_wp2
        go_round
        case rel => exact ⟨k + 1, by omega, by go_num⟩
        case measure => simp [Go.RowKit.intOf]; omega
    · have hki : (ps.length : Int) ≤ k := by omega
      go_wp2
      go_ret2
      exact ⟨rfl, hB3⟩

theorem r17 (s : ByteArray) (e : Int) (w : World) (hs : s.size ≤ 100000) (he : isEnc e = true) :
    Calls Tryd.prog 17 #[.string s, .int .i64 e] w fun e' w' => e' = .returned (.tuple #[.bool (vldOf e s), .int .i64 0]) ∧ Below w.heap.size w w' := by
  by_cases h2 : e = 2
  · subst h2; exact r17_2 s w hs
  · have : vldOf e s = true := by unfold vldOf; rw [if_neg h2]
    rw [this]; exact r17_1 s e w hs he h2

set_option maxRecDepth 100000 in
set_option maxHeartbeats 2000000 in
theorem r19 (s : ByteArray) (e : Int) (w : World) (hs : s.size ≤ 100000) (he : isEnc e = true) :
    Calls Tryd.prog 19 #[.string s, .int .i64 e] w fun e' w' => CodesRes w.heap.size (parts (nxOf e) s) e' w' ∧ Below w.heap.size w w' := by
  have hb := enc1_good he hs
  have hB1 : Below w.heap.size w (w.alloc (.cells #[.string s] 9)) := (Below.refl _ _).alloc (Nat.le_refl _) _
  have cP := c50 e he s hs (w.alloc (.cells #[.string s] 9))
  have hpl := parts_length (nxOf_ok e) s.size s rfl
  have hcd := Lib.hid (parts_code_at e s)
  clear he
  obtain ⟨i0, hi, hz0, hz1, hz2⟩ := info_parts infoInt
  go_enter Tryd.func19, Tryd.ntmps19
  go_wp2_with fail
  refine (c49_1 e s false hb.out _ _ (by omega) (by simp) (by simp)).mono ?_
  rintro e' w2 ⟨rfl, rfl⟩
  go_wp2_with fail
  refine cP.mono ?_
  rintro e' w3 ⟨v, rfl, hrow, hb3⟩
  have hB3 := hB1.trans (hb3.mono hB1.size)
  obtain ⟨ao, cap, rfl, hcells⟩ := partsRead_of_row hrow
  have HC := Lib.hid hcells
  clear hcells hrow cP
  obtain ⟨ps, hps⟩ : ∃ ps, parts (nxOf e) s = ps := ⟨_, rfl⟩
  rw [hps] at hpl HC hcd ⊢
  have HP := Lib.hid hps
  clear hps
  go_wp2
  go_loopw [7, 8] (fun v i wr => ∃ k : Nat, k ≤ ps.length ∧ i = .int .i64 k ∧ wr.ownsRow w3.heap.size 3 1 v k ((ps.take k).map fun p => Value.int .i64 p.2) ∧ Go.RowKit.Hid (∀ p ∈ ps.take k, p.2 ≠ -1) ∧ Below w3.heap.size w3 wr) (fun _ i _ => ps.length - (Go.RowKit.intOf i).toNat)
  case atStart => exact ⟨0, Nat.zero_le _, rfl, World.ownsRow_nil _ _ _ _, (by show ∀ p ∈ _, _; simp), Below.refl _ _⟩
  case round =>
    obtain ⟨k, hk, rfl, hrow, hok, hB⟩ := hrel
    obtain ⟨ao', cap', rfl⟩ := row_slice hrow
    have hBw := hB3.trans (hB.mono hB3.size)
    by_cases hlt : k < ps.length
    · have hki : (k : Int) < ps.length := by omega
      obtain ⟨g, off, rfl, hgs, _, x1⟩ := HC.out k hlt
      have y1 := (hB.cell (p := ⟨g, off + k * 2 + 1, none⟩) hgs).trans x1
      have hr := hcd.out k hlt
      have htk := Lib.hid (List.take_succ_eq_append_getElem hlt)
      have hmem := Lib.hid (List.getElem_mem hlt)
      obtain ⟨p, hp⟩ : ∃ p, ps[k] = p := ⟨_, rfl⟩
      rw [hp] at y1 hr htk hmem
      clear x1 hp
      by_cases hc : 0 ≤ p.2
      · have hd : decide (p.2 < 0) = false := by simp; omega
        have hok2 : Go.RowKit.Hid (∀ q ∈ ps.take (k + 1), q.2 ≠ -1) := by
          show ∀ q ∈ _, _
          rw [htk.out]
          intro q hq
          rcases List.mem_append.1 hq with hq | hq
          · exact hok.out q hq
          · rw [List.mem_singleton.1 hq]; omega
        go_wp2_with (at_builtin; refine wpList_append_own _ rfl _ _ 26 rfl w3.heap.size 3 i0 (.int .i64 0) 1 8 Tryd.underlying26 hi hz0 hz1 hz2 rfl (by decide) _ _ _ rfl (hrow.alloc _) ⟨wr.heap.size, 0, none⟩ 1 1 [.int .i64 p.2] rfl rfl (cell_one_new _ _ _) (by simp [Value.oneCell']) (by unfold maxLen; omega) (by omega) (by have := hB.size; simp; omega) ?_; intro v' w4 hown' hgrow _; obtain ⟨g', cap'', rfl⟩ := ownsRow_succ hown')
        have hB4 : Below w3.heap.size w3 w4 := (hB.alloc hB.size _).grown hgrow (by have := hB.size; simp; omega) (fun j hj => (hrow.lt j hj).1)
        go_roundw
        case rel => exact ⟨k + 1, by omega, by go_num, by rw [htk.out, List.map_append]; exact hown', hok2, hB4⟩
        case measure => simp [Go.RowKit.intOf]; omega
      · have hd : decide (p.2 < 0) = true := by simp; omega
        have hd2 : p.2 < 0 := by omega
        have hm1 : Go.RowKit.Hid (p.2 = -1) := by show _ = _; omega
        clear hc hr
        go_wp2
        go_ret2
        exact ⟨by rw [HP.out]; exact .inr ⟨⟨p, hmem.out, hm1.out⟩, rfl⟩, hBw⟩
    · have hki : (ps.length : Int) ≤ k := by omega
      have htk : Go.RowKit.Hid (ps.take k = ps) := by show _ = _; rw [List.take_of_length_le (by omega)]
      have hkl : k = ps.length := by omega
      subst hkl
      go_wp2
      go_ret2
      refine ⟨?_, hBw⟩
      rw [HP.out]
      refine .inl ⟨by rw [← htk.out]; exact hok.out, _, rfl, ?_⟩
      rw [htk.out] at hrow
      exact ownsRow_mono hrow hB3.size
end Go.Proofs.YtjdnpgknamhnlaaDoor
