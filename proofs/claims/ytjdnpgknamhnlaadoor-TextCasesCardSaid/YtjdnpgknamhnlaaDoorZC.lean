/- The law TextFinds: Index is that of 1.4, of every strings, encoding and place. -/
import Derived.Test.YtjdnpgknamhnlaaDoorZB
namespace Go.Proofs.YtjdnpgknamhnlaaDoor
open Go Go.RowKit Go.Shelf

set_option maxRecDepth 100000 in
set_option maxHeartbeats 1000000 in
theorem r42_arg (s p : ByteArray) (e f : Int) (w : World) (hs : s.size ≤ 9223372036854775807) (hp : p.size ≤ 9223372036854775807) (hbad : isEnc e = false ∨ (decide (100000 < s.size) || decide (100000 < p.size)) = true) :
    Calls Tryd.prog 42 #[.string s, .string p, .int .i64 e, .int .i64 f] w fun e' w' => e' = .returned (.tuple #[.int .i64 0, .int .i64 1]) ∧ Below w.heap.size w w' := by
  have hb : Go.RowKit.Hid ((!isEnc e || (decide (100000 < s.size) || decide (100000 < p.size))) = true) := by
    show _ = _
    rcases hbad with h | h
    · rw [h]; rfl
    · rw [h]; simp
  clear hbad
  go_enter Tryd.func42, Tryd.ntmps42
  go_wp2_with fail
  refine (c49_2 e s p true hb.out _ _ hs hp (by simp) (by simp) (by simp)).mono ?_
  rintro e' w2 ⟨rfl, rfl⟩
  go_wp2
  go_ret2
  exact ⟨rfl, (Below.refl _ _).alloc (Nat.le_refl _) _⟩

theorem enc_good {e : Int} {s p : ByteArray} (he : isEnc e = true) (hs : s.size ≤ 100000) (hp : p.size ≤ 100000) : Go.RowKit.Hid ((!isEnc e || (decide (100000 < s.size) || decide (100000 < p.size))) = false) := by
  show _ = _
  rw [he, decide_eq_false (show ¬ 100000 < s.size by omega), decide_eq_false (show ¬ 100000 < p.size by omega)]; rfl

set_option maxRecDepth 100000 in
set_option maxHeartbeats 2000000 in
theorem r42_out (s p : ByteArray) (e f : Int) (w : World) (hs : s.size ≤ 100000) (hp : p.size ≤ 100000) (he : isEnc e = true) (hf1 : -9223372036854775808 ≤ f) (hf2 : f ≤ 9223372036854775807) (hf : f < 0 ∨ ((parts (nxOf e) s).length : Int) < f) :
    Calls Tryd.prog 42 #[.string s, .string p, .int .i64 e, .int .i64 f] w fun e' w' => e' = .returned (.tuple #[.int .i64 0, .int .i64 1]) ∧ Below w.heap.size w w' := by
  have hb := enc_good he hs hp
  have hB1 : Below w.heap.size w (w.alloc (.cells #[.string s, .string p] 9)) := (Below.refl _ _).alloc (Nat.le_refl _) _
  have cP := c50 e he s hs (w.alloc (.cells #[.string s, .string p] 9))
  have hpl := parts_length (nxOf_ok e) s.size s rfl
  have hple : ((parts (nxOf e) s).length : Int) ≤ 100000 := by omega
  clear he
  have hf' := Lib.hid hf
  clear hf
  go_enter Tryd.func42, Tryd.ntmps42
  go_wp2_with fail
  refine (c49_2 e s p false hb.out _ _ (by omega) (by omega) (by simp) (by simp) (by simp)).mono ?_
  rintro e' w2 ⟨rfl, rfl⟩
  go_wp2_with fail
  refine cP.mono ?_
  rintro e' w3 ⟨v, rfl, hrow, hb3⟩
  have hB3 := hB1.trans (hb3.mono hB1.size)
  obtain ⟨ao, cap, rfl, hcells⟩ := partsRead_of_row hrow
  clear hcells hrow
  rcases hf'.out with h | h
  · have d0 : decide (f < 0) = true := by simp [h]
    go_wp2
    go_ret2
    exact ⟨rfl, hB3⟩
  · have d0 : decide (f < 0) = false := by simp; omega
    go_wp2
    go_ret2
    exact ⟨rfl, hB3⟩

theorem toList_inj {x y : ByteArray} (h : x.toList = y.toList) : x = y := by
  rw [Lib.toList_data, Lib.toList_data] at h
  have h3 : x.data = y.data := Array.toList_inj.1 h
  cases x; cases y
  simpa using h3

set_option maxRecDepth 100000 in
set_option maxHeartbeats 2000000 in
theorem r42 (s p : ByteArray) (e : Int) (k : Nat) (w : World) (hs : s.size ≤ 100000) (hp : p.size ≤ 100000) (he : isEnc e = true) (hk : k ≤ (parts (nxOf e) s).length) :
    Calls Tryd.prog 42 #[.string s, .string p, .int .i64 e, .int .i64 k] w fun e' w' => IdxRes (parts (nxOf e) s).length (fun i => hitB s p (offN (parts (nxOf e) s) i)) k e' ∧ Below w.heap.size w w' := by
  have hb := enc_good he hs hp
  have hB1 : Below w.heap.size w (w.alloc (.cells #[.string s, .string p] 9)) := (Below.refl _ _).alloc (Nat.le_refl _) _
  have cP := c50 e he s hs (w.alloc (.cells #[.string s, .string p] 9))
  have hpl := parts_length (nxOf_ok e) s.size s rfl
  have hle := Lib.hid (parts_le (nxOf_ok e) s)
  clear he
  go_enter Tryd.func42, Tryd.ntmps42
  go_wp2_with fail
  refine (c49_2 e s p false hb.out _ _ (by omega) (by omega) (by simp) (by simp) (by simp)).mono ?_
  rintro e' w2 ⟨rfl, rfl⟩
  go_wp2_with fail
  refine cP.mono ?_
  rintro e' w3 ⟨v, rfl, hrow, hb3⟩
  have hB3 := hB1.trans (hb3.mono hB1.size)
  obtain ⟨ao, cap, rfl, hcells⟩ := partsRead_of_row hrow
  have hcapm : (parts (nxOf e) s).length ≤ cap := by
    rcases hrow.2 with ⟨h, h0⟩ | ⟨g, cap', cur, h, _, _, hc, _⟩
    · simp at h; omega
    · simp at h; omega
  have hrd : PartsRead w3 (.slice ao k cap) (((parts (nxOf e) s).drop 0).take k) :=
    ⟨ao, cap, by rw [sub_len s 0 k (by omega)], fun j hj => by
      rw [sub_len s 0 k (by omega)] at hj
      obtain ⟨g, off, ha, hg, h1, h2⟩ := hcells j (by omega)
      exact ⟨g, off, ha, hg, by rw [h1]; simp, by rw [h2]; simp⟩⟩
  have cJ := c59_sub e s hs 0 k (by omega) _ w3 hrd
  have hjs : (s.extract (offN (parts (nxOf e) s) 0) (offN (parts (nxOf e) s) (0 + k))).size = offN (parts (nxOf e) s) k := by
    have := parts_le (nxOf_ok e) s k
    rw [offN_zero, Nat.zero_add]
    simp
    omega
  obtain ⟨q, hq⟩ : ∃ q, s.extract (offN (parts (nxOf e) s) 0) (offN (parts (nxOf e) s) (0 + k)) = q := ⟨_, rfl⟩
  rw [hq] at cJ hjs
  clear hq hrd hrow
  have HC := Lib.hid hcells
  clear hcells cP
  obtain ⟨ps, hps⟩ : ∃ ps, parts (nxOf e) s = ps := ⟨_, rfl⟩
  rw [hps] at hk hpl hle HC hjs hcapm ⊢
  have HP := Lib.hid hps
  clear hps
  have hstep := Lib.hid (offN_succ ps)
  have hend := Lib.hid (show offN ps (ps.length + 1) = offN ps ps.length by unfold offN; rw [List.take_of_length_le (by omega), List.take_of_length_le (Nat.le_refl _)])
  have hki : (k : Int) ≤ ps.length := by omega
  have hkc : (k : Int) ≤ cap := by omega
  have hpli : (ps.length : Int) ≤ 100000 := by omega
  have hqz : q.size ≤ 9223372036854775807 := by rw [hjs]; have := hle.out k; omega
  have Hjs := Lib.hid hjs
  clear hjs
  have d0 : decide ((k : Int) < 0) = false := by simp
  have hcap0 : cap = 0 → k = 0 := fun h => by omega
  have HC0 := Lib.hid hcap0
  clear hcap0
  go_wp2_with fail
  refine cJ.mono ?_
  rintro e' w4 ⟨rfl, hb4⟩
  have hB4 := hB3.trans (hb4.mono hB3.size)
  go_wp2
  go_loop [11, 12] (fun t i => ∃ j : Nat, k ≤ j ∧ j ≤ ps.length + 1 ∧ i = .int .i64 j ∧ t = .int .i64 (offN ps j) ∧ Go.RowKit.Hid (∀ x, k ≤ x → x < j → hitB s p (offN ps x) = false)) (fun _ i => ps.length + 1 - (Go.RowKit.intOf i).toNat)
  case atStart => exact ⟨k, Nat.le_refl _, by omega, rfl, by rw [Hjs.out], fun x h1 h2 => by omega⟩
  case round =>
    obtain ⟨j, hj1, hj2, rfl, rfl, hno⟩ := hrel
    by_cases hlt : j ≤ ps.length
    · have hji : (j : Int) ≤ ps.length := by omega
      have has := hle.out j
      have hiff := hitB_iff s p (offN ps j) has
      have hst := hstep.out j
      have hen := hend.out
      have hle1 := hle.out (j + 1)
      obtain ⟨a, ha⟩ : ∃ a, offN ps j = a := ⟨_, rfl⟩
      obtain ⟨b, hbb⟩ : ∃ b, offN ps (j + 1) = b := ⟨_, rfl⟩
      rw [ha] at has hiff hst ⊢
      rw [hbb] at hst hle1
      have Ha := Lib.hid ha
      have Hb := Lib.hid hbb
      have hasi : (a : Int) ≤ s.size := by omega
      have hj1' : j = ps.length → b = a := fun h => by rw [h] at ha hbb; rw [← ha, ← hbb]; exact hen
      have HJ := Lib.hid hj1'
      have Hst := Lib.hid hst
      clear ha hbb hen hj1' hst
      cases hh : hitB s p a with
      | true =>
        obtain ⟨g1, g2⟩ := hiff.1 hh
        have HH := Lib.hid hh
        have heq : ((s.extract a (a + p.size)).toList == p.toList) = true := by rw [g2]; simp
        clear hh hiff g2
        have g1i : (p.size : Int) ≤ (s.size : Int) - a := by omega
        have d1 : decide ((p.size : Int) ≤ (s.size : Int) - a) = true := by simp; omega
        have g3 : (a : Int) + p.size ≤ s.size := by omega
        go_wp2
        go_ret2
        exact ⟨by rw [HP.out]; exact .inl ⟨j, hj1, hlt, by show hitB s p (offN ps j) = true; rw [Ha.out]; exact HH.out, hno.out, rfl⟩, hB4⟩
      | false =>
        have hmiss : ¬ (a + p.size ≤ s.size ∧ s.extract a (a + p.size) = p) := fun h => by have := hiff.2 h; rw [hh] at this; cases this
        have HH := Lib.hid hh
        have hnext : Go.RowKit.Hid (∀ x, k ≤ x → x < j + 1 → hitB s p (offN ps x) = false) := fun x h1 h2 => by
          rcases Nat.lt_or_ge x j with h3 | h3
          · exact hno.out x h1 h3
          · rw [show x = j by omega, Ha.out]; exact HH.out
        clear hh hiff
        by_cases hfit : a + p.size ≤ s.size
        · have hne : ((s.extract a (a + p.size)).toList == p.toList) = false := by
            rw [beq_eq_false_iff_ne]
            exact fun h => hmiss ⟨hfit, toList_inj h⟩
          clear hmiss
          have g1i : (p.size : Int) ≤ (s.size : Int) - a := by omega
          have d1 : decide ((p.size : Int) ≤ (s.size : Int) - a) = true := by simp; omega
          have g3 : (a : Int) + p.size ≤ s.size := by omega
          by_cases hjl : j < ps.length
          · have hjli : (j : Int) < ps.length := by omega
            obtain ⟨g, off, rfl, hgs, hx0, _⟩ := HC.out j hjl
            have x0 := (hb4.cell (p := ⟨g, off + j * 2, none⟩) hgs).trans hx0
            have hst := Hst.out hjl
            clear hx0
            go_wp2
            go_round
            case rel => exact ⟨j + 1, by omega, by omega, by go_num, by rw [Hb.out, hst]; go_num, hnext⟩
            case measure => simp [Go.RowKit.intOf]; omega
          · have hjli : (ps.length : Int) ≤ j := by omega
            have hba := HJ.out (by omega)
            go_wp2
            go_round
            case rel => exact ⟨j + 1, by omega, by omega, by go_num, by rw [Hb.out, hba], hnext⟩
            case measure => simp [Go.RowKit.intOf]; omega
        · have g1i : (s.size : Int) - a < p.size := by omega
          have d1 : decide ((p.size : Int) ≤ (s.size : Int) - a) = false := by simp; omega
          clear hmiss
          by_cases hjl : j < ps.length
          · have hjli : (j : Int) < ps.length := by omega
            obtain ⟨g, off, rfl, hgs, hx0, _⟩ := HC.out j hjl
            have x0 := (hb4.cell (p := ⟨g, off + j * 2, none⟩) hgs).trans hx0
            have hst := Hst.out hjl
            clear hx0
            go_wp2
            go_round
            case rel => exact ⟨j + 1, by omega, by omega, by go_num, by rw [Hb.out, hst]; go_num, hnext⟩
            case measure => simp [Go.RowKit.intOf]; omega
          · have hjli : (ps.length : Int) ≤ j := by omega
            have hba := HJ.out (by omega)
            go_wp2
            go_round
            case rel => exact ⟨j + 1, by omega, by omega, by go_num, by rw [Hb.out, hba], hnext⟩
            case measure => simp [Go.RowKit.intOf]; omega
    · have hji : (ps.length : Int) < j := by omega
      go_wp2
      go_ret2
      exact ⟨by rw [HP.out]; exact .inr ⟨fun x h1 h2 => hno.out x h1 (by omega), rfl⟩, hB4⟩

theorem find_both (s p : ByteArray) (e f : Int) (hs : s.size ≤ 9223372036854775807) (hp : p.size ≤ 9223372036854775807) (hf1 : -9223372036854775808 ≤ f) (hf2 : f ≤ 9223372036854775807) :
    ∃ a r : Int, (∀ W, Lib.Utf8Tabs 0 1 W → Calls Tryd.prog 41 #[.string s, .string p, .int .i64 e, .int .i64 f] W fun e' w' => e' = .returned (.tuple #[.int .i64 a, .int .i64 r]) ∧ Below W.heap.size W w') ∧
      (∀ W, Calls Tryd.prog 42 #[.string s, .string p, .int .i64 e, .int .i64 f] W fun e' w' => e' = .returned (.tuple #[.int .i64 a, .int .i64 r]) ∧ Below W.heap.size W w') := by
  cases he : isEnc e with
  | false => exact ⟨_, _, fun W hT => t41_arg s p e f W hT hs hp (Or.inl he), fun W => r42_arg s p e f W hs hp (Or.inl he)⟩
  | true =>
    by_cases hs2 : s.size ≤ 100000
    · by_cases hp2 : p.size ≤ 100000
      · by_cases hin : 0 ≤ f ∧ f ≤ (parts (nxOf e) s).length
        · obtain ⟨k, rfl⟩ := Int.eq_ofNat_of_zero_le hin.1
          have hk : k ≤ (parts (nxOf e) s).length := by omega
          obtain ⟨a, r, h⟩ := idxRes_one (parts (nxOf e) s).length (fun i => hitB s p (offN (parts (nxOf e) s) i)) k
          exact ⟨a, r, fun W hT => (t41 s p e k W hT hs2 hp2 he hk).mono fun _ _ ⟨h1, h2⟩ => ⟨h _ h1, h2⟩, fun W => (r42 s p e k W hs2 hp2 he hk).mono fun _ _ ⟨h1, h2⟩ => ⟨h _ h1, h2⟩⟩
        · have hout : f < 0 ∨ ((parts (nxOf e) s).length : Int) < f := by omega
          exact ⟨_, _, fun W hT => t41_out s p e f W hT hs2 hp2 he hf1 hf2 hout, fun W => r42_out s p e f W hs2 hp2 he hf1 hf2 hout⟩
      · have hb : (decide (100000 < s.size) || decide (100000 < p.size)) = true := by rw [decide_eq_true (show 100000 < p.size by omega)]; simp
        exact ⟨_, _, fun W hT => t41_arg s p e f W hT hs hp (Or.inr hb), fun W => r42_arg s p e f W hs hp (Or.inr hb)⟩
    · have hb : (decide (100000 < s.size) || decide (100000 < p.size)) = true := by rw [decide_eq_true (show 100000 < s.size by omega)]; rfl
      exact ⟨_, _, fun W hT => t41_arg s p e f W hT hs hp (Or.inr hb), fun W => r42_arg s p e f W hs hp (Or.inr hb)⟩

set_option maxRecDepth 100000 in
set_option maxHeartbeats 2000000 in
theorem c11 (s p : ByteArray) (e n : Int) (w : World) (hT : Lib.Utf8Tabs 0 1 w) (hs : s.size ≤ 9223372036854775807) (hp : p.size ≤ 9223372036854775807) (hf1 : -9223372036854775808 ≤ n) (hf2 : n ≤ 9223372036854775807) :
    Calls Tryd.prog 11 #[.agg #[.string s, .string p, .int .i64 e, .int .i64 n]] w fun e' w' => e' = .returned (.bool true) ∧ Below w.heap.size w w' := by
  obtain ⟨a, r, cA, cB⟩ := find_both s p e n hs hp hf1 hf2
  have HT := Lib.hid hT
  have HA := Lib.hid cA
  have HB := Lib.hid cB
  have cE : ∀ W, Below w.heap.size w W → Calls Tryd.prog 15 #[] W _ := fun W hb => c15 W (Utf8Tabs_below HT.out hb)
  have HE := Lib.hid cE
  clear hT cA cB cE
  have hB0 : Below w.heap.size w (w.alloc (.cells #[.string s, .string p, .int .i64 e, .int .i64 n] 51)) := (Below.refl _ _).alloc (Nat.le_refl _) _
  obtain ⟨W1, hW1⟩ : ∃ W1, w.alloc (.cells #[.string s, .string p, .int .i64 e, .int .i64 n] 51) = W1 := ⟨_, rfl⟩
  have hz1 : W1.heap.size = w.heap.size + 1 := by rw [← hW1]; simp
  have k0 : W1.cell? ⟨w.heap.size, 0, none⟩ = some (.string s) := by rw [← hW1]; simp
  have k1 : W1.cell? ⟨w.heap.size, 1, none⟩ = some (.string p) := by rw [← hW1]; simp
  have k2 : W1.cell? ⟨w.heap.size, 2, none⟩ = some (.int .i64 e) := by rw [← hW1]; simp
  have k3 : W1.cell? ⟨w.heap.size, 3, none⟩ = some (.int .i64 n) := by rw [← hW1]; simp
  have hk : ∀ W, Below W1.heap.size W1 W → W.cell? ⟨w.heap.size, 0, none⟩ = some (.string s) ∧ W.cell? ⟨w.heap.size, 1, none⟩ = some (.string p) ∧ W.cell? ⟨w.heap.size, 2, none⟩ = some (.int .i64 e) ∧ W.cell? ⟨w.heap.size, 3, none⟩ = some (.int .i64 n) := fun W hb =>
    ⟨(hb.cell (p := ⟨w.heap.size, 0, none⟩) (by show w.heap.size < _; omega)).trans k0, (hb.cell (p := ⟨w.heap.size, 1, none⟩) (by show w.heap.size < _; omega)).trans k1, (hb.cell (p := ⟨w.heap.size, 2, none⟩) (by show w.heap.size < _; omega)).trans k2, (hb.cell (p := ⟨w.heap.size, 3, none⟩) (by show w.heap.size < _; omega)).trans k3⟩
  have HK := Lib.hid hk
  clear hk
  rw [hW1] at hB0
  by_cases hb : 3000 < s.size
  · have hbi : (3000 : Int) < s.size := by omega
    have d : decide ((3000 : Int) < s.size) = true := by simp; omega
    go_enter Tryd.func11, Tryd.ntmps11
    go_wp2_with fail
    refine (HE.out _ hB0).mono ?_
    rintro e1 w2 ⟨rfl, hb2⟩
    go_wp2
    go_ret
    exact ⟨rfl, hB0.trans (hb2.mono hB0.size)⟩
  · have hbi : (s.size : Int) ≤ 3000 := by omega
    have d : decide ((3000 : Int) < s.size) = false := by simp; omega
    go_enter Tryd.func11, Tryd.ntmps11
    go_wp2_with fail
    clear k0 k1 k2 k3
    refine (HA.out _ (Utf8Tabs_below HT.out hB0)).mono ?_
    rintro e1 w2 ⟨rfl, hb2⟩
    have hB2 := hB0.trans (hb2.mono hB0.size)
    obtain ⟨k0, k1, k2, k3⟩ := HK.out _ hb2
    go_wp2_with fail
    clear k0 k1 k2 k3
    refine (HB.out _).mono ?_
    rintro e1 w3 ⟨rfl, hb3⟩
    have hB3 := hB2.trans (hb3.mono hB2.size)
    go_wp2_with fail
    refine (HE.out _ hB3).mono ?_
    rintro e1 w4 ⟨rfl, hb4⟩
    go_wp2
    go_ret
    exact ⟨rfl, hB3.trans (hb4.mono hB3.size)⟩
end Go.Proofs.YtjdnpgknamhnlaaDoor
