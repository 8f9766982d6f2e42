/- The law TextOf: Of is that of 1.2, of every codes and encoding, and its string has these codes. -/
import Derived.Test.YtjdnpgknamhnlaaDoorZJ
namespace Go.Proofs.YtjdnpgknamhnlaaDoor
open Go Go.RowKit Go.Shelf

theorem oneN_1 (z b0 b1 b2 b3 n : Nat) (h0 : b0 = n) (h : n < 128) : oneN z b0 b1 b2 b3 = (1, (n : Int)) := by
  subst h0
  unfold oneN
  rw [if_pos h]
theorem oneN_2 (z b0 b1 b2 b3 n : Nat) (hz : 2 ≤ z) (h0 : b0 = 192 + n / 64) (h1 : b1 = 128 + n % 64) (l : 128 ≤ n) (u : n < 2048) : oneN z b0 b1 b2 b3 = (2, (n : Int)) := by
  subst h0 h1
  unfold oneN okC
  simp only [Bool.and_eq_true, decide_eq_true_eq]
  rw [if_neg (by omega), if_neg (by omega), if_pos (by omega), if_pos (by omega)]
  refine Prod.ext rfl ?_
  dsimp only
  omega
theorem oneN_3 (z b0 b1 b2 b3 n : Nat) (hz : 3 ≤ z) (h0 : b0 = 224 + n / 4096) (h1 : b1 = 128 + n / 64 % 64) (h2 : b2 = 128 + n % 64) (l : 2048 ≤ n) (u : n < 65536) (hs : ¬ (55296 ≤ n ∧ n ≤ 57343)) : oneN z b0 b1 b2 b3 = (3, (n : Int)) := by
  have hL := lo2_cases b0
  have hH := hi2_cases b0
  unfold oneN okC ok2
  simp only [Bool.and_eq_true, decide_eq_true_eq]
  generalize lo2 b0 = L at *
  generalize hi2 b0 = H at *
  subst h0 h1 h2
  rw [if_neg (by omega), if_neg (by omega), if_neg (by omega), if_pos (by omega), if_pos (by omega), if_pos (by omega)]
  refine Prod.ext rfl ?_
  dsimp only
  omega
theorem oneN_4 (z b0 b1 b2 b3 n : Nat) (hz : 4 ≤ z) (h0 : b0 = 240 + n / 262144) (h1 : b1 = 128 + n / 4096 % 64) (h2 : b2 = 128 + n / 64 % 64) (h3 : b3 = 128 + n % 64) (l : 65536 ≤ n) (u : n ≤ 1114111) : oneN z b0 b1 b2 b3 = (4, (n : Int)) := by
  have hL := lo2_cases b0
  have hH := hi2_cases b0
  unfold oneN okC ok2
  simp only [Bool.and_eq_true, decide_eq_true_eq]
  generalize lo2 b0 = L at *
  generalize hi2 b0 = H at *
  subst h0 h1 h2 h3
  rw [if_neg (by omega), if_neg (by omega), if_neg (by omega), if_neg (by omega), if_pos (by omega), if_pos (by omega), if_pos (by omega), if_pos (by omega)]
  refine Prod.ext rfl ?_
  dsimp only
  omega
theorem ofNat_val (n : Nat) (h : n < 256) : (UInt8.ofNat n).toNat = n := by rw [UInt8.toNat_ofNat']; omega
theorem get!_mk (l : List UInt8) (i : Nat) (h : i < l.length) : (⟨l.toArray⟩ : ByteArray).get! i = l[i] := by
  have hz : i < (⟨l.toArray⟩ : ByteArray).size := by show i < l.toArray.size; simpa using h
  rw [Utf8W.get!_of_lt _ i hz]
  rfl
/-- What is written for a code is read as this code, whatever follows. -/
theorem char_firm (e c : Int) (x : ByteArray) (h : chrOf e c = some x) : Firm (nxOf e) (x, c) := by
  have h0 : 0 ≤ c := by
    rcases (by omega : c < 0 ∨ 0 ≤ c) with h1 | h1
    · rw [chr_none_neg e c h1] at h; cases h
    · exact h1
  obtain ⟨n, rfl⟩ := Int.eq_ofNat_of_zero_le h0
  unfold chrOf at h
  by_cases h2 : e = 2
  · subst h2
    rw [if_pos rfl] at h
    have hx : ∀ u, nxOf 2 u = one u := fun u => rfl
    by_cases hs : 0 ≤ (n : Int) ∧ (n : Int) ≤ 1114111 ∧ ¬ (55296 ≤ (n : Int) ∧ (n : Int) ≤ 57343)
    · rw [if_pos hs] at h
      obtain rfl := Option.some.inj h
      clear h
      have hv : Utf8.valid (n : Int) = true := by
        unfold Utf8.valid
        simp
        omega
      unfold Utf8.encode
      simp only [hv, if_true, Int.toNat_natCast]
      by_cases c1 : n < 128
      · rw [if_pos c1]
        refine ⟨Nat.le_refl 1, fun t => ?_⟩
        rw [hx]
        exact oneN_1 _ _ _ _ _ n (by rw [get!_glue _ _ 0 (by show 0 < 1; decide), get!_mk [UInt8.ofNat n] 0 (by show 0 < 1; decide)]; exact ofNat_val n (by omega)) c1
      · rw [if_neg c1]
        by_cases c2 : n < 2048
        · rw [if_pos c2]
          refine ⟨by show 1 ≤ 2; decide, fun t => ?_⟩
          rw [hx]
          exact oneN_2 _ _ _ _ _ n (by rw [ByteArray.size_append]; exact Nat.le_add_right 2 _)
            (by rw [get!_glue _ _ 0 (by show 0 < 2; decide), get!_mk [_, _] 0 (by show 0 < 2; decide)]; exact ofNat_val _ (by omega))
            (by rw [get!_glue _ _ 1 (by show 1 < 2; decide), get!_mk [_, _] 1 (by show 1 < 2; decide)]; exact ofNat_val _ (by omega)) (by omega) c2
        · rw [if_neg c2]
          by_cases c3 : n < 65536
          · rw [if_pos c3]
            refine ⟨by show 1 ≤ 3; decide, fun t => ?_⟩
            rw [hx]
            exact oneN_3 _ _ _ _ _ n (by rw [ByteArray.size_append]; exact Nat.le_add_right 3 _)
              (by rw [get!_glue _ _ 0 (by show 0 < 3; decide), get!_mk [_, _, _] 0 (by show 0 < 3; decide)]; exact ofNat_val _ (by omega))
              (by rw [get!_glue _ _ 1 (by show 1 < 3; decide), get!_mk [_, _, _] 1 (by show 1 < 3; decide)]; exact ofNat_val _ (by omega))
              (by rw [get!_glue _ _ 2 (by show 2 < 3; decide), get!_mk [_, _, _] 2 (by show 2 < 3; decide)]; exact ofNat_val _ (by omega)) (by omega) c3 (by omega)
          · rw [if_neg c3]
            refine ⟨by show 1 ≤ 4; decide, fun t => ?_⟩
            rw [hx]
            exact oneN_4 _ _ _ _ _ n (by rw [ByteArray.size_append]; exact Nat.le_add_right 4 _)
              (by rw [get!_glue _ _ 0 (by show 0 < 4; decide), get!_mk [_, _, _, _] 0 (by show 0 < 4; decide)]; exact ofNat_val _ (by omega))
              (by rw [get!_glue _ _ 1 (by show 1 < 4; decide), get!_mk [_, _, _, _] 1 (by show 1 < 4; decide)]; exact ofNat_val _ (by omega))
              (by rw [get!_glue _ _ 2 (by show 2 < 4; decide), get!_mk [_, _, _, _] 2 (by show 2 < 4; decide)]; exact ofNat_val _ (by omega))
              (by rw [get!_glue _ _ 3 (by show 3 < 4; decide), get!_mk [_, _, _, _] 3 (by show 3 < 4; decide)]; exact ofNat_val _ (by omega)) (by omega) (by omega)
    · rw [if_neg hs] at h; cases h
  · rw [if_neg h2] at h
    by_cases hs : 0 ≤ (n : Int) ∧ (n : Int) < limOf e
    · rw [if_pos hs] at h
      obtain rfl := Option.some.inj h
      have hl : limOf e ≤ 256 := by unfold limOf; split <;> omega
      refine ⟨Nat.le_refl 1, fun t => ?_⟩
      show nxOf e _ = (1, (n : Int))
      unfold nxOf
      rw [if_neg h2, get!_glue _ _ 0 (by show 0 < 1; decide), get!_mk [_] 0 (by show 0 < 1; decide)]
      show ((1 : Nat), bcode (limOf e) (UInt8.ofNat n)) = (1, (n : Int))
      unfold bcode
      rw [ofNat_val n (by omega), if_pos (by omega)]
    · rw [if_neg hs] at h; cases h

theorem all_some {e : Int} {cs : List Int} (h : allOk e cs = true) {c : Int} (hc : c ∈ cs) : chrOf e c = some (chrS e c) := by
  have h1 := List.all_eq_true.1 h c hc
  unfold chrS
  cases hx : chrOf e c with
  | none => rw [hx] at h1; cases h1
  | some x => rfl
theorem ofT_parts (e : Int) (cs : List Int) (h : allOk e cs = true) : parts (nxOf e) (ofT e cs) = cs.map fun c => (chrS e c, c) := by
  have e1 : ofT e cs = glue (textsP (cs.map fun c => (chrS e c, c))) := by
    unfold ofT textsP
    rw [List.map_map]
    rfl
  rw [e1]
  refine parts_glue (nxOf_ok e) _ (fun p hp => ?_)
  obtain ⟨c, hc, rfl⟩ := List.mem_map.1 hp
  exact char_firm e c _ (all_some h hc)
theorem ofT_codes (e : Int) (cs : List Int) (h : allOk e cs = true) : codesP (parts (nxOf e) (ofT e cs)) = cs := by
  rw [ofT_parts e cs h]
  unfold codesP
  rw [List.map_map]
  exact (List.map_congr_left (fun _ _ => rfl)).trans (List.map_id cs)
theorem ofT_fine (e : Int) (cs : List Int) (h : allOk e cs = true) : ∀ p ∈ parts (nxOf e) (ofT e cs), p.2 ≠ -1 := by
  rw [ofT_parts e cs h]
  intro p hp
  obtain ⟨c, hc, rfl⟩ := List.mem_map.1 hp
  show c ≠ -1
  rintro rfl
  have := all_some h hc
  rw [chr_none_neg e (-1) (by decide)] at this
  cases this
theorem ofT_size (e : Int) (cs : List Int) (h : cs.length ≤ 3000) : (ofT e cs).size ≤ 100000 := by
  have := sumS_le (cs.map (chrS e)) 4 (fun p hp => by
    obtain ⟨c, _, rfl⟩ := List.mem_map.1 hp
    exact chrS_size e c)
  have e1 : (ofT e cs).size = sumS (cs.map (chrS e)) := rfl
  simp at this
  omega

set_option maxRecDepth 100000 in
set_option maxHeartbeats 2000000 in
theorem c4_big (cs : List Int) (v : Value) (e : Int) (w : World) (hv : IntsRead w v cs) (hb : 3000 < cs.length) (hl : cs.length ≤ 9223372036854775807) (HE : Go.RowKit.Hid (∀ W, Below w.heap.size w W → Calls Tryd.prog 15 #[] W fun e' w' => e' = .returned (.bool true) ∧ Below W.heap.size W w')) :
    Calls Tryd.prog 4 #[v, .int .i64 e] w fun e' w' => e' = .returned (.bool true) ∧ Below w.heap.size w w' := by
  obtain ⟨ao, cap, rfl, hcells⟩ := hv
  clear hcells
  have g1 : (3000 : Int) < cs.length := by omega
  have d1 : decide ((3000 : Int) < cs.length) = true := by simp; omega
  go_enter Tryd.func4, Tryd.ntmps4
  go_wp2_with fail
  refine (HE.out _ (Below.refl _ _)).mono ?_
  rintro e1 w2 ⟨rfl, hb2⟩
  go_wp2
  go_ret
  exact ⟨rfl, hb2⟩

set_option maxRecDepth 100000 in
set_option maxHeartbeats 2000000 in
theorem c4_small (cs : List Int) (v : Value) (e : Int) (w : World) (hT : Lib.Utf8Tabs 0 1 w) (hv : IntsRead w v cs) (hb : cs.length ≤ 3000) (HE : Go.RowKit.Hid (∀ W, Below w.heap.size w W → Calls Tryd.prog 15 #[] W fun e' w' => e' = .returned (.bool true) ∧ Below W.heap.size W w')) :
    Calls Tryd.prog 4 #[v, .int .i64 e] w fun e' w' => e' = .returned (.bool true) ∧ Below w.heap.size w w' := by
  have HV := Lib.hid hv
  obtain ⟨ao, cap, rfl, hcells⟩ := hv
  clear hcells
  have g1 : (cs.length : Int) ≤ 3000 := by omega
  have d1 : decide ((3000 : Int) < cs.length) = false := by simp; omega
  cases he : isEnc e with
  | false =>
    have H1 := Lib.hid (t23_arg (.slice ao cs.length cap) e w he)
    have H2 := Lib.hid (fun W => r24_arg (.slice ao cs.length cap) e W he)
    clear he
    go_enter Tryd.func4, Tryd.ntmps4
    go_wp2_with fail
    refine (H1.out).mono ?_
    rintro e1 w2 ⟨rfl, hb2⟩
    go_wp2_with fail
    refine (H2.out _).mono ?_
    rintro e1 w3 ⟨rfl, hb3⟩
    have hB3 := hb2.trans (hb3.mono hb2.size)
    go_wp2_with fail
    refine (HE.out _ hB3).mono ?_
    rintro e1 w4 ⟨rfl, hb4⟩
    go_wp2
    go_ret
    exact ⟨rfl, hB3.trans (hb4.mono hB3.size)⟩
  | true =>
    have H2 := Lib.hid (fun W hv => r24 cs (.slice ao cs.length cap) e W he hv (by omega))
    cases ha : allOk e cs with
    | false =>
      have H1 := Lib.hid (t23_no cs (.slice ao cs.length cap) e w hT he HV.out (by omega) ha)
      have Ha := Lib.hid ha
      clear he ha
      go_enter Tryd.func4, Tryd.ntmps4
      go_wp2_with fail
      refine (H1.out).mono ?_
      rintro e1 w2 ⟨rfl, hb2⟩
      go_wp2_with fail
      refine (H2.out _ (HV.out.below hb2)).mono ?_
      rintro e1 w3 ⟨⟨hy, _⟩ | ⟨_, rfl⟩, hb3⟩
      · rw [Ha.out] at hy; cases hy
      · have hB3 := hb2.trans (hb3.mono hb2.size)
        go_wp2_with fail
        refine (HE.out _ hB3).mono ?_
        rintro e1 w4 ⟨rfl, hb4⟩
        go_wp2
        go_ret
        exact ⟨rfl, hB3.trans (hb4.mono hB3.size)⟩
    | true =>
      have H1 := Lib.hid (t23 cs (.slice ao cs.length cap) e w hT he HV.out (by omega) ha)
      have H3 := Lib.hid (fun W (hb2 : Below w.heap.size w W) => t18 (ofT e cs) e W (Utf8Tabs_below hT hb2) (ofT_size e cs hb) he)
      have hcd := Lib.hid (ofT_codes e cs ha)
      have hfn := Lib.hid (ofT_fine e cs ha)
      have Ha := Lib.hid ha
      clear he ha hT
      go_enter Tryd.func4, Tryd.ntmps4
      go_wp2_with fail
      refine (H1.out).mono ?_
      rintro e1 w2 ⟨rfl, hb2⟩
      go_wp2_with fail
      refine (H2.out _ (HV.out.below hb2)).mono ?_
      rintro e1 w3 ⟨⟨_, rfl⟩ | ⟨hy, _⟩, hb3⟩
      · have hB3 := hb2.trans (hb3.mono hb2.size)
        go_wp2_with fail
        refine (H3.out _ hB3).mono ?_
        rintro e1 w4 ⟨⟨_, v4, rfl, hrow4⟩ | ⟨⟨p, hp, hp1⟩, _⟩, hb4⟩
        · have hB4 := hB3.trans (hb4.mono hB3.size)
          have hv4 := codesP_row hrow4
          rw [hcd.out] at hv4
          obtain ⟨ao4, cap4, rfl⟩ := row_slice hrow4
          have HV4 := Lib.hid hv4
          clear hv4 hrow4
          go_wp2_with fail
          refine (c22_same cs _ _ _ HV4.out (HV.out.below hB4) (by omega)).mono ?_
          rintro e1 w5 ⟨rfl, hb5⟩
          have hB5 := hB4.trans (hb5.mono hB4.size)
          go_wp2_with fail
          refine (HE.out _ hB5).mono ?_
          rintro e1 w6 ⟨rfl, hb6⟩
          go_wp2
          go_ret
          exact ⟨rfl, hB5.trans (hb6.mono hB5.size)⟩
        · exact absurd hp1 (hfn.out p hp)
      · rw [Ha.out] at hy; cases hy

theorem c4 (cs : List Int) (v : Value) (e : Int) (w : World) (hT : Lib.Utf8Tabs 0 1 w) (hv : IntsRead w v cs) (hl : cs.length ≤ 9223372036854775807) :
    Calls Tryd.prog 4 #[v, .int .i64 e] w fun e' w' => e' = .returned (.bool true) ∧ Below w.heap.size w w' := by
  have HE := Lib.hid (fun W (hb : Below w.heap.size w W) => c15 W (Utf8Tabs_below hT hb))
  by_cases hb : 3000 < cs.length
  · exact c4_big cs v e w hv hb hl HE
  · exact c4_small cs v e w hT hv (by omega) HE
end Go.Proofs.YtjdnpgknamhnlaaDoor
