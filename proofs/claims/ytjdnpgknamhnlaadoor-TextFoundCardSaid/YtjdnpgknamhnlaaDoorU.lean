/- The law TextParts: all characters, one behind the other, are the string; a Slice and what is behind it, too. -/
import Derived.Test.YtjdnpgknamhnlaaDoorT
namespace Go.Proofs.YtjdnpgknamhnlaaDoor
open Go Go.RowKit Go.Shelf

theorem mod_k (n : Int) (m : Nat) (h0 : 0 < m) (hm : m ≤ 100001) : ∃ k : Nat, (IntKind.u64.wrap n).tmod (m : Int) = (k : Int) ∧ k < m := by
  rw [IntKind.wrap_u64]
  have e : (n % 18446744073709551616).tmod m = n % 18446744073709551616 % m := Int.tmod_eq_emod_of_nonneg (by omega)
  rw [e]
  have h1 := Int.emod_nonneg (n % 18446744073709551616) (show (m : Int) ≠ 0 by omega)
  have h2 := Int.emod_lt_of_pos (n % 18446744073709551616) (show (0 : Int) < m by omega)
  exact ⟨(n % 18446744073709551616 % m).toNat, by omega, by omega⟩
theorem enc_k (e : Int) (h : 0 ≤ e) (h2 : e < 3) : isEnc e = true := by simp [isEnc]; omega
theorem extract_glue (s : ByteArray) (a b : Nat) (h : a ≤ b) : s.extract 0 a ++ s.extract a b = s.extract 0 b := by
  rw [ByteArray.extract_append_extract]; simp [Nat.max_eq_right h]
theorem parts_pos {nx : ByteArray → Nat × Int} (h : NxOk nx) : ∀ (k : Nat) (s : ByteArray) (hk : k < (parts nx s).length), 1 ≤ (parts nx s)[k].1.size := fun k => by
  induction k with
  | zero =>
    intro s hk
    have h0 : 0 < s.size := by
      rcases Nat.eq_zero_or_pos s.size with h0 | h0
      · rw [parts_nil nx s h0] at hk; simp at hk
      · exact h0
    have h1 := h.lo s h0
    have h2 := h.hi s h0
    simp only [parts_cons h s h0, List.getElem_cons_zero]
    simp; omega
  | succ k ih =>
    intro s hk
    have h0 : 0 < s.size := by
      rcases Nat.eq_zero_or_pos s.size with h0 | h0
      · rw [parts_nil nx s h0] at hk; simp at hk
      · exact h0
    have hc := parts_cons h s h0
    have hk' : k < (parts nx (s.extract (nx s).1 s.size)).length := by rw [hc] at hk; simpa using hk
    simp only [hc, List.getElem_cons_succ]
    exact ih _ hk'
theorem t25x (s : ByteArray) (e i : Int) (w : World) (hT : Lib.Utf8Tabs 0 1 w) (hs : s.size ≤ 100000) (he : isEnc e = true) (hi1 : -9223372036854775808 ≤ i) (hi2 : i ≤ 9223372036854775807)
    (k : Nat) (hk : k < (parts (nxOf e) s).length) (hj : (if i < 0 then i + (parts (nxOf e) s).length else i) = k) :
    Calls Tryd.prog 25 #[.string s, .int .i64 e, .int .i64 i] w fun e' w' => e' = .returned (.tuple #[.string (s.extract (offN (parts (nxOf e) s) k) (offN (parts (nxOf e) s) (k + 1))), .int .i64 0]) ∧ Below w.heap.size w w' := by
  rw [parts_extract (nxOf_ok e) k s hk]
  exact t25 s e i w hT hs he hi1 hi2 k hk hj

set_option maxRecDepth 100000 in
set_option maxHeartbeats 2000000 in
theorem c6_small (s : ByteArray) (enc ix : Int) (w : World) (hT : Lib.Utf8Tabs 0 1 w) (hsz : s.size ≤ 300) :
    Calls Tryd.prog 6 #[.string s, .int .i64 enc, .int .i64 ix] w fun e' w' => e' = .returned (.bool true) ∧ Below w.heap.size w w' := by
  obtain ⟨e, hek, hel⟩ := mod_k enc 3 (by omega) (by omega)
  have hek2 : Go.RowKit.Hid (wrap64 ((IntKind.u64.wrap enc).tmod 3) = (e : Int)) := by show _ = _; rw [show (3 : Int) = ((3 : Nat) : Int) from rfl, hek]; exact IntWalk.wrap64_in _ (by omega)
  clear hek
  have he : isEnc (e : Int) = true := enc_k _ (by omega) (by omega)
  have hsz' : (s.size : Int) ≤ 300 := by omega
  have d300 : decide ((300 : Int) < s.size) = false := by simp; omega
  go_enter Tryd.func6, Tryd.ntmps6

  go_wp2_with fail
  rw [hek2.out]
  have ok := nxOf_ok e
  have hpl := parts_length ok s.size s rfl
  have htot := parts_total ok s.size s rfl
  have cL := t20 s e w hT (by omega) he
  have HT := Lib.hid hT
  clear hT
  obtain ⟨ps, hps⟩ : ∃ ps, parts (nxOf e) s = ps := ⟨_, rfl⟩
  rw [hps] at hpl htot cL
  have Hps := Lib.hid hps
  have Htot := Lib.hid htot
  have hpl' : (ps.length : Int) ≤ s.size := by omega
  have hpl2 : ps.length ≤ 300 := by omega
  clear hps htot
  have hAt : ∀ (k : Nat) (i : Int) (W : World), k < ps.length → (if i < 0 then i + (ps.length : Int) else i) = k → Below w.heap.size w W → -9223372036854775808 ≤ i → i ≤ 9223372036854775807 →
      Calls Tryd.prog 25 #[.string s, .int .i64 e, .int .i64 i] W fun e' w' => e' = .returned (.tuple #[.string (s.extract (offN ps k) (offN ps (k + 1))), .int .i64 0]) ∧ Below W.heap.size W w' := fun k i W hk hj hb h1 h2 => by
    have := t25x s e i W (Utf8Tabs_below HT.out hb) (by omega) he h1 h2 k (by rw [Hps.out]; exact hk) (by rw [Hps.out]; exact hj)
    rw [Hps.out] at this
    exact this
  have HAt := Lib.hid hAt
  clear hAt
  have hpos : ∀ k, k < ps.length → offN ps k < offN ps (k + 1) ∧ offN ps (k + 1) ≤ s.size := fun k hk => by
    have h1 := parts_pos ok k s (by rw [Hps.out]; exact hk)
    have h2 := offN_succ (parts (nxOf e) s) k (by rw [Hps.out]; exact hk)
    have h3 := parts_le ok s (k + 1)
    rw [Hps.out] at h3
    simp only [Hps.out] at h1 h2
    omega
  have Hpos := Lib.hid hpos
  clear hpos
  have dlen : decide (s.size < ps.length) = false := by simp; omega
  refine cL.mono ?_
  rintro e1 w1 ⟨rfl, hb1⟩
  go_wp2_with fail
  go_loopw [10, 11] (fun a i wr => ∃ (k : Nat) (t : ByteArray), k ≤ ps.length ∧ i = .int .i64 k ∧ a = .string t ∧ Go.RowKit.Hid (t = s.extract 0 (offN ps k)) ∧ Below w.heap.size w wr) (fun _ i _ => ps.length - (Go.RowKit.intOf i).toNat)
  case atStart => exact ⟨0, _, by omega, rfl, rfl, by show _ = _; rw [offN_zero]; simp; rfl, hb1⟩
  case round =>
    obtain ⟨k, t, hk, rfl, rfl, ht, hB⟩ := hrel
    by_cases hlt : k < ps.length
    · have hkl : (k : Int) < ps.length := by omega
      have hp := Hpos.out k hlt
      obtain ⟨c, hc⟩ : ∃ c, s.extract (offN ps k) (offN ps (k + 1)) = c := ⟨_, rfl⟩
      have hcz : c.size = offN ps (k + 1) - offN ps k := by rw [← hc]; simp; omega
      have hce : c.toList.isEmpty = false := by
        rw [Lib.toList_data]
        cases h : c.data.toList with
        | nil =>
          exfalso
          have : c.size = 0 := by rw [Lib.size_eq, h]; rfl
          omega
        | cons _ _ => rfl
      have c1 := HAt.out k (k : Int) wr hlt (by rw [if_neg (by omega)]) hB (by omega) (by omega)
      have c2 : ∀ W, Below w.heap.size w W → _ := fun W hb => HAt.out k ((k : Int) - ps.length) W hlt (by rw [if_pos (by omega)]; omega) hb (by omega) (by omega)
      rw [hc] at c1 c2
      have C2 := Lib.hid c2
      have ht3 : Go.RowKit.Hid (t ++ c = s.extract 0 (offN ps (k + 1))) := by
        show _ = _
        rw [ht.out, ← hc, extract_glue _ _ _ (by omega)]
      have htc : t.size + c.size ≤ 9223372036854775807 := by
        have h1 : t.size ≤ 300 := by rw [ht.out]; simp; omega
        omega
      clear c2 hc hcz hp
      go_wp2_with fail
      refine c1.mono ?_
      rintro e1 w2 ⟨rfl, hb2⟩
      have hB2 := hB.trans (hb2.mono hB.size)
      go_wp2_with fail
      refine (C2.out _ hB2).mono ?_
      rintro e1 w3 ⟨rfl, hb3⟩
      have hB3 := hB2.trans (hb3.mono hB2.size)
      go_wp2
      go_roundw
      case rel => exact ⟨k + 1, t ++ c, by omega, by go_num, rfl, ht3, hB3⟩
      case measure => simp [Go.RowKit.intOf]; omega
    · have hkl : (ps.length : Int) ≤ k := by omega
      have hke : k = ps.length := by omega
      have hts : s = t := by rw [ht.out, hke, Htot.out]; exact ByteArray.extract_zero_size.symm
      clear ht
      subst hts
      subst hke
      obtain ⟨m, hm, hml⟩ := mod_k ix (ps.length + 1) (by omega) (by omega)
      have hm2 : Go.RowKit.Hid (wrap64 ((IntKind.u64.wrap ix).tmod ((ps.length : Int) + 1)) = (m : Int)) := by
        show _ = _
        rw [show ((ps.length : Int) + 1) = ((ps.length + 1 : Nat) : Int) from by omega, hm]
        exact IntWalk.wrap64_in _ (by omega)
      clear hm
      have hom : offN ps m ≤ s.size := by have := parts_le ok s m; rw [Hps.out] at this; exact this
      obtain ⟨a, ha⟩ : ∃ a, s.extract 0 (offN ps m) = a := ⟨_, rfl⟩
      obtain ⟨b, hb⟩ : ∃ b, s.extract (offN ps m) s.size = b := ⟨_, rfl⟩
      have hab : a ++ b = s := by rw [← ha, ← hb, extract_glue _ _ _ hom]; exact ByteArray.extract_zero_size
      have hszab : a.size + b.size ≤ 9223372036854775807 := by
        have h1 : (a ++ b).size = a.size + b.size := ByteArray.size_append
        rw [hab] at h1
        omega
      have cS1 := t27 s e 0 m wr (Utf8Tabs_below HT.out hB) (by omega) he (by omega) (by omega) (by omega) (by omega) 0 (by omega) (by simp) m (by rw [Hps.out]; omega)
      have cS2 : ∀ W, Below w.heap.size w W → Calls Tryd.prog 27 #[.string s, .int .i64 e, .int .i64 m, .int .i64 ps.length] W _ := fun W hb => t27 s e m ps.length W (Utf8Tabs_below HT.out hb) (by omega) he (by omega) (by omega) (by omega) (by omega) m (by rw [Hps.out]; omega) (by rw [if_neg (by omega)]) (ps.length - m) (by rw [Hps.out]; omega)
      have cS3 : ∀ W, Below w.heap.size w W → Calls Tryd.prog 25 #[.string s, .int .i64 e, .int .i64 ps.length] W _ := fun W hb => t25_out s e ps.length W (Utf8Tabs_below HT.out hb) (by omega) he (by omega) (by omega) (by rw [Hps.out, if_neg (by omega)]; omega)
      have cS4 : ∀ W, Below w.heap.size w W → Calls Tryd.prog 15 #[] W _ := fun W hb => c15 W (Utf8Tabs_below HT.out hb)
      simp only [Hps.out, offN_zero, Nat.zero_add, ha] at cS1
      simp only [Hps.out, show m + (ps.length - m) = ps.length by omega, Htot.out, hb] at cS2
      have CS2 := Lib.hid cS2
      have CS3 := Lib.hid cS3
      have CS4 := Lib.hid cS4
      clear cS2 cS3 cS4 ha hb hom
      go_wp2_with fail
      rw [hm2.out]
      refine cS1.mono ?_
      rintro e1 w2 ⟨rfl, hb2⟩
      have hB2 := hB.trans (hb2.mono hB.size)
      go_wp2_with fail
      refine (CS2.out _ hB2).mono ?_
      rintro e1 w3 ⟨rfl, hb3⟩
      have hB3 := hB2.trans (hb3.mono hB2.size)
      go_wp2_with fail
      refine (CS3.out _ hB3).mono ?_
      rintro e1 w4 ⟨rfl, hb4⟩
      have hB4 := hB3.trans (hb4.mono hB3.size)
      go_wp2_with fail
      refine (CS4.out _ hB4).mono ?_
      rintro e1 w5 ⟨rfl, hb5⟩
      go_wp2
      go_ret
      exact ⟨rfl, hB4.trans (hb5.mono hB4.size)⟩

set_option maxRecDepth 100000 in
set_option maxHeartbeats 2000000 in
theorem c6_big (s0 : ByteArray) (enc ix : Int) (w : World) (hT : Lib.Utf8Tabs 0 1 w) (hbig : 300 < s0.size) (hmax : s0.size ≤ 9223372036854775807) :
    Calls Tryd.prog 6 #[.string s0, .int .i64 enc, .int .i64 ix] w fun e' w' => e' = .returned (.bool true) ∧ Below w.heap.size w w' := by
  obtain ⟨e, hek, hel⟩ := mod_k enc 3 (by omega) (by omega)
  have hek2 : Go.RowKit.Hid (wrap64 ((IntKind.u64.wrap enc).tmod 3) = (e : Int)) := by show _ = _; rw [show (3 : Int) = ((3 : Nat) : Int) from rfl, hek]; exact IntWalk.wrap64_in _ (by omega)
  clear hek
  have he : isEnc (e : Int) = true := enc_k _ (by omega) (by omega)
  have hbig' : (300 : Int) < s0.size := by omega
  have d300 : decide ((300 : Int) < s0.size) = true := by simp; omega
  go_enter Tryd.func6, Tryd.ntmps6

  go_wp2_with fail
  rw [hek2.out]
  have hsz : (s0.extract 0 300).size ≤ 300 := by simp; omega
  generalize s0.extract 0 300 = s at hsz ⊢
  have hsz' : (s.size : Int) ≤ 300 := by omega
  have ok := nxOf_ok e
  have hpl := parts_length ok s.size s rfl
  have htot := parts_total ok s.size s rfl
  have cL := t20 s e w hT (by omega) he
  have HT := Lib.hid hT
  clear hT
  obtain ⟨ps, hps⟩ : ∃ ps, parts (nxOf e) s = ps := ⟨_, rfl⟩
  rw [hps] at hpl htot cL
  have Hps := Lib.hid hps
  have Htot := Lib.hid htot
  have hpl' : (ps.length : Int) ≤ s.size := by omega
  have hpl2 : ps.length ≤ 300 := by omega
  clear hps htot
  have hAt : ∀ (k : Nat) (i : Int) (W : World), k < ps.length → (if i < 0 then i + (ps.length : Int) else i) = k → Below w.heap.size w W → -9223372036854775808 ≤ i → i ≤ 9223372036854775807 →
      Calls Tryd.prog 25 #[.string s, .int .i64 e, .int .i64 i] W fun e' w' => e' = .returned (.tuple #[.string (s.extract (offN ps k) (offN ps (k + 1))), .int .i64 0]) ∧ Below W.heap.size W w' := fun k i W hk hj hb h1 h2 => by
    have := t25x s e i W (Utf8Tabs_below HT.out hb) (by omega) he h1 h2 k (by rw [Hps.out]; exact hk) (by rw [Hps.out]; exact hj)
    rw [Hps.out] at this
    exact this
  have HAt := Lib.hid hAt
  clear hAt
  have hpos : ∀ k, k < ps.length → offN ps k < offN ps (k + 1) ∧ offN ps (k + 1) ≤ s.size := fun k hk => by
    have h1 := parts_pos ok k s (by rw [Hps.out]; exact hk)
    have h2 := offN_succ (parts (nxOf e) s) k (by rw [Hps.out]; exact hk)
    have h3 := parts_le ok s (k + 1)
    rw [Hps.out] at h3
    simp only [Hps.out] at h1 h2
    omega
  have Hpos := Lib.hid hpos
  clear hpos
  have dlen : decide (s.size < ps.length) = false := by simp; omega
  refine cL.mono ?_
  rintro e1 w1 ⟨rfl, hb1⟩
  go_wp2_with fail
  go_loopw [10, 11] (fun a i wr => ∃ (k : Nat) (t : ByteArray), k ≤ ps.length ∧ i = .int .i64 k ∧ a = .string t ∧ Go.RowKit.Hid (t = s.extract 0 (offN ps k)) ∧ Below w.heap.size w wr) (fun _ i _ => ps.length - (Go.RowKit.intOf i).toNat)
  case atStart => exact ⟨0, _, by omega, rfl, rfl, by show _ = _; rw [offN_zero]; simp; rfl, hb1⟩
  case round =>
    obtain ⟨k, t, hk, rfl, rfl, ht, hB⟩ := hrel
    by_cases hlt : k < ps.length
    · have hkl : (k : Int) < ps.length := by omega
      have hp := Hpos.out k hlt
      obtain ⟨c, hc⟩ : ∃ c, s.extract (offN ps k) (offN ps (k + 1)) = c := ⟨_, rfl⟩
      have hcz : c.size = offN ps (k + 1) - offN ps k := by rw [← hc]; simp; omega
      have hce : c.toList.isEmpty = false := by
        rw [Lib.toList_data]
        cases h : c.data.toList with
        | nil =>
          exfalso
          have : c.size = 0 := by rw [Lib.size_eq, h]; rfl
          omega
        | cons _ _ => rfl
      have c1 := HAt.out k (k : Int) wr hlt (by rw [if_neg (by omega)]) hB (by omega) (by omega)
      have c2 : ∀ W, Below w.heap.size w W → _ := fun W hb => HAt.out k ((k : Int) - ps.length) W hlt (by rw [if_pos (by omega)]; omega) hb (by omega) (by omega)
      rw [hc] at c1 c2
      have C2 := Lib.hid c2
      have ht3 : Go.RowKit.Hid (t ++ c = s.extract 0 (offN ps (k + 1))) := by
        show _ = _
        rw [ht.out, ← hc, extract_glue _ _ _ (by omega)]
      have htc : t.size + c.size ≤ 9223372036854775807 := by
        have h1 : t.size ≤ 300 := by rw [ht.out]; simp; omega
        omega
      clear c2 hc hcz hp
      go_wp2_with fail
      refine c1.mono ?_
      rintro e1 w2 ⟨rfl, hb2⟩
      have hB2 := hB.trans (hb2.mono hB.size)
      go_wp2_with fail
      refine (C2.out _ hB2).mono ?_
      rintro e1 w3 ⟨rfl, hb3⟩
      have hB3 := hB2.trans (hb3.mono hB2.size)
      go_wp2
      go_roundw
      case rel => exact ⟨k + 1, t ++ c, by omega, by go_num, rfl, ht3, hB3⟩
      case measure => simp [Go.RowKit.intOf]; omega
    · have hkl : (ps.length : Int) ≤ k := by omega
      have hke : k = ps.length := by omega
      have hts : s = t := by rw [ht.out, hke, Htot.out]; exact ByteArray.extract_zero_size.symm
      clear ht
      subst hts
      subst hke
      obtain ⟨m, hm, hml⟩ := mod_k ix (ps.length + 1) (by omega) (by omega)
      have hm2 : Go.RowKit.Hid (wrap64 ((IntKind.u64.wrap ix).tmod ((ps.length : Int) + 1)) = (m : Int)) := by
        show _ = _
        rw [show ((ps.length : Int) + 1) = ((ps.length + 1 : Nat) : Int) from by omega, hm]
        exact IntWalk.wrap64_in _ (by omega)
      clear hm
      have hom : offN ps m ≤ s.size := by have := parts_le ok s m; rw [Hps.out] at this; exact this
      obtain ⟨a, ha⟩ : ∃ a, s.extract 0 (offN ps m) = a := ⟨_, rfl⟩
      obtain ⟨b, hb⟩ : ∃ b, s.extract (offN ps m) s.size = b := ⟨_, rfl⟩
      have hab : a ++ b = s := by rw [← ha, ← hb, extract_glue _ _ _ hom]; exact ByteArray.extract_zero_size
      have hszab : a.size + b.size ≤ 9223372036854775807 := by
        have h1 : (a ++ b).size = a.size + b.size := ByteArray.size_append
        rw [hab] at h1
        omega
      have cS1 := t27 s e 0 m wr (Utf8Tabs_below HT.out hB) (by omega) he (by omega) (by omega) (by omega) (by omega) 0 (by omega) (by simp) m (by rw [Hps.out]; omega)
      have cS2 : ∀ W, Below w.heap.size w W → Calls Tryd.prog 27 #[.string s, .int .i64 e, .int .i64 m, .int .i64 ps.length] W _ := fun W hb => t27 s e m ps.length W (Utf8Tabs_below HT.out hb) (by omega) he (by omega) (by omega) (by omega) (by omega) m (by rw [Hps.out]; omega) (by rw [if_neg (by omega)]) (ps.length - m) (by rw [Hps.out]; omega)
      have cS3 : ∀ W, Below w.heap.size w W → Calls Tryd.prog 25 #[.string s, .int .i64 e, .int .i64 ps.length] W _ := fun W hb => t25_out s e ps.length W (Utf8Tabs_below HT.out hb) (by omega) he (by omega) (by omega) (by rw [Hps.out, if_neg (by omega)]; omega)
      have cS4 : ∀ W, Below w.heap.size w W → Calls Tryd.prog 15 #[] W _ := fun W hb => c15 W (Utf8Tabs_below HT.out hb)
      simp only [Hps.out, offN_zero, Nat.zero_add, ha] at cS1
      simp only [Hps.out, show m + (ps.length - m) = ps.length by omega, Htot.out, hb] at cS2
      have CS2 := Lib.hid cS2
      have CS3 := Lib.hid cS3
      have CS4 := Lib.hid cS4
      clear cS2 cS3 cS4 ha hb hom
      go_wp2_with fail
      rw [hm2.out]
      refine cS1.mono ?_
      rintro e1 w2 ⟨rfl, hb2⟩
      have hB2 := hB.trans (hb2.mono hB.size)
      go_wp2_with fail
      refine (CS2.out _ hB2).mono ?_
      rintro e1 w3 ⟨rfl, hb3⟩
      have hB3 := hB2.trans (hb3.mono hB2.size)
      go_wp2_with fail
      refine (CS3.out _ hB3).mono ?_
      rintro e1 w4 ⟨rfl, hb4⟩
      have hB4 := hB3.trans (hb4.mono hB3.size)
      go_wp2_with fail
      refine (CS4.out _ hB4).mono ?_
      rintro e1 w5 ⟨rfl, hb5⟩
      go_wp2
      go_ret
      exact ⟨rfl, hB4.trans (hb5.mono hB4.size)⟩

theorem c6 (s : ByteArray) (enc ix : Int) (w : World) (hT : Lib.Utf8Tabs 0 1 w) (hmax : s.size ≤ 9223372036854775807) :
    Calls Tryd.prog 6 #[.string s, .int .i64 enc, .int .i64 ix] w fun e' w' => e' = .returned (.bool true) ∧ Below w.heap.size w w' := by
  by_cases h : s.size ≤ 300
  · exact c6_small s enc ix w hT h
  · exact c6_big s enc ix w hT (by omega) hmax
end Go.Proofs.YtjdnpgknamhnlaaDoor
