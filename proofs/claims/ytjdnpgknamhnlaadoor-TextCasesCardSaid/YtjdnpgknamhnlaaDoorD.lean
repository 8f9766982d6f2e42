/- Contracts of brokenSize, nextUTF8, charUTF8. -/
import Derived.Test.YtjdnpgknamhnlaaDoorC
namespace Go.Proofs.YtjdnpgknamhnlaaDoor
open Go Go.RowKit Go.Lib

def bsz (n b0 b1 b2 : Nat) : Nat → Nat → Nat
  | 0, k => k
  | f + 1, k => if k < n ∧ fullN (k + 1) b0 b1 b2 = false then bsz n b0 b1 b2 f (k + 1) else k
theorem bsz_eq (n b0 b1 b2 : Nat) : bsz n b0 b1 b2 3 1 = brokenN n b0 b1 b2 := by
  unfold brokenN
  simp only [bsz]
  repeat' split
  all_goals simp_all
  all_goals omega
theorem full5 (n b0 b1 b2 : Nat) (h : 4 ≤ n) : fullN n b0 b1 b2 = true := by
  have := firstT_all b0
  unfold fullN
  simp only [Bool.or_eq_true, decide_eq_true_eq]
  left; left; omega
theorem get!_extract (s : ByteArray) (k i : Nat) (hk : k ≤ s.size) (hi : i < k) : (s.extract 0 k).get! i = s.get! i := by
  rw [Utf8W.get!_of_lt (s.extract 0 k) i (by simp; omega), Utf8W.get!_of_lt s i (by omega)]
  simp [ByteArray.getElem_extract]
theorem full_ext (s : ByteArray) (k : Nat) (hk : k + 1 ≤ s.size) : fullB (s.extract 0 (k + 1)) = fullN (k + 1) (s.get! 0).toNat (s.get! 1).toNat (s.get! 2).toNat := by
  have hz : (s.extract 0 (k + 1)).size = k + 1 := by simp; omega
  unfold fullB
  rw [hz, get!_extract s (k + 1) 0 hk (by omega)]
  by_cases h1 : k = 0
  · subst h1
    simp [fullN]
  · rw [get!_extract s (k + 1) 1 hk (by omega)]
    by_cases h2 : k = 1
    · subst h2
      simp [fullN]
    · rw [get!_extract s (k + 1) 2 hk (by omega)]

set_option maxHeartbeats 2000000 in
set_option maxRecDepth 100000 in
theorem c86 (s : ByteArray) (w : World) (hT : Lib.Utf8Tabs 0 1 w) (h0 : 0 < s.size) (hs : s.size ≤ 9223372036854775807) :
    Calls Tryd.prog 86 #[.string s] w fun e w' => e = .returned (.int .i64 (brokenN s.size (s.get! 0).toNat (s.get! 1).toNat (s.get! 2).toNat)) ∧ Below w.heap.size w w' := by
  rw [← bsz_eq]
  generalize hR : bsz s.size (s.get! 0).toNat (s.get! 1).toNat (s.get! 2).toNat 3 1 = R
  have HR := Lib.hid hR
  clear hR
  have HT := Lib.hid hT
  clear hT
  go_enter Tryd.func86, Tryd.ntmps86
  go_wp2
  go_loopw [3] (fun v wr => ∃ k : Nat, 1 ≤ k ∧ k ≤ s.size ∧ k ≤ 4 ∧ v = .int .i64 k ∧ Go.RowKit.Hid (bsz s.size (s.get! 0).toNat (s.get! 1).toNat (s.get! 2).toNat (4 - k) k = R) ∧ Below w.heap.size w wr) (fun v _ => 5 - (Go.RowKit.intOf v).toNat)
  case atStart => exact ⟨1, by omega, by omega, by omega, rfl, HR, Below.refl _ _⟩
  case round =>
    obtain ⟨k, hk1, hk2, hk4, rfl, hb, hB⟩ := hrel
    have hT1 := Lib.hid (Utf8Tabs_below HT.out hB)
    by_cases hlt : k < s.size
    · have Hfe := Lib.hid (full_ext s k hlt)
      have Hsz : Go.RowKit.Hid ((s.extract 0 (k + 1)).size = k + 1) := by show _ = _; simp; omega
      cases hF : fullN (k + 1) (s.get! 0).toNat (s.get! 1).toNat (s.get! 2).toNat with
      | true =>
        have hRk : Go.RowKit.Hid (R = k) := by
          have h1 := hb.out
          obtain ⟨f, hf⟩ : ∃ f, 4 - k = f := ⟨_, rfl⟩
          rw [hf] at h1
          cases f with
          | zero => exact h1.symm
          | succ f => rw [bsz, if_neg (by simp [hF])] at h1; exact h1.symm
        have hc : Calls Tryd.prog 93 #[.string (s.extract 0 (k + 1))] wr fun e w' => e = .returned (.bool true) ∧ Below wr.heap.size wr w' := by
          have := c93 (s.extract 0 (k + 1)) wr hT1.out (by rw [Hsz.out]; omega)
          rw [Hfe.out, hF] at this
          exact this
        clear hF
        go_wp2_with (go_at_call 93; refine hc.mono ?_; rintro e w1 ⟨rfl, hb1⟩)
        go_ret
        exact ⟨by rw [hRk.out]; rfl, hB.trans (hb1.mono hB.size)⟩
      | false =>
        have hk3 : k < 4 := by
          rcases Nat.lt_or_ge k 4 with h | h
          · exact h
          · rw [full5 _ _ _ _ (by omega)] at hF; cases hF
        have hRk : Go.RowKit.Hid (bsz s.size (s.get! 0).toNat (s.get! 1).toNat (s.get! 2).toNat (4 - (k + 1)) (k + 1) = R) := by
          have h1 := hb.out
          obtain ⟨f, hf⟩ : ∃ f, 4 - (k + 1) = f := ⟨_, rfl⟩
          rw [show 4 - k = f + 1 from by omega, bsz, if_pos ⟨hlt, hF⟩] at h1
          rw [hf]; exact h1
        have hc : Calls Tryd.prog 93 #[.string (s.extract 0 (k + 1))] wr fun e w' => e = .returned (.bool false) ∧ Below wr.heap.size wr w' := by
          have := c93 (s.extract 0 (k + 1)) wr hT1.out (by rw [Hsz.out]; omega)
          rw [Hfe.out, hF] at this
          exact this
        clear hF
        go_wp2_with (go_at_call 93; refine hc.mono ?_; rintro e w1 ⟨rfl, hb1⟩)
        go_roundw
        case rel => exact ⟨k + 1, by omega, by omega, by omega, by go_num, hRk, hB.trans (hb1.mono hB.size)⟩
        case measure => simp [Go.RowKit.intOf]; omega
    · have hRk : Go.RowKit.Hid (R = k) := by
        have h1 := hb.out
        obtain ⟨f, hf⟩ : ∃ f, 4 - k = f := ⟨_, rfl⟩
        rw [hf] at h1
        cases f with
        | zero => exact h1.symm
        | succ f => rw [bsz, if_neg (by simp [hlt])] at h1; exact h1.symm
      have d1 : decide ((k : Int) < s.size) = false := by simp; omega
      go_wp2
      go_ret
      exact ⟨by rw [hRk.out]; rfl, hB⟩

theorem decodeGo_eq (s : ByteArray) (h0 : 0 < s.size) : decodeGo s = decodeN s.size (s.get! 0).toNat (s.get! 1).toNat (s.get! 2).toNat (s.get! 3).toNat := by
  unfold decodeGo
  rw [if_neg (by omega), decode_at, Nat.sub_zero, Nat.zero_add, Nat.zero_add, Nat.zero_add]
theorem one_bounds (s : ByteArray) (h0 : 0 < s.size) : 1 ≤ (one s).1 ∧ (one s).1 ≤ s.size ∧ (one s).1 ≤ 4 := oneN_bounds _ _ _ _ _ h0
theorem one_code (s : ByteArray) : -1 ≤ (one s).2 ∧ (one s).2 ≤ 1114111 := oneN_code _ _ _ _ _ (UInt8.toNat_lt _) (UInt8.toNat_lt _) (UInt8.toNat_lt _)

set_option maxHeartbeats 2000000 in
set_option maxRecDepth 100000 in
/-- nextUTF8: one character, or one row of broken bytes. -/
theorem c70 (s : ByteArray) (w : World) (hT : Lib.Utf8Tabs 0 1 w) (h0 : 0 < s.size) (hs : s.size ≤ 9223372036854775807) :
    Calls Tryd.prog 70 #[.string s] w fun e w' => e = .returned (.tuple #[.int .i64 (one s).1, .int .i64 (one s).2]) ∧ Below w.heap.size w w' := by
  have c85 := Tryd.utf8_DecodeRuneInString s w hT
  have c86' : ∀ w', Below w.heap.size w w' → Calls Tryd.prog 86 #[.string s] w' _ := fun w' hb => c86 s w' (Utf8Tabs_below hT hb) h0 hs
  rw [decodeGo_eq s h0] at c85
  by_cases hcode : 0 ≤ (one s).2
  · obtain ⟨⟨h1, h2⟩, h3⟩ := decode_one s.size (s.get! 0).toNat (s.get! 1).toNat (s.get! 2).toNat (s.get! 3).toNat h0 (UInt8.toNat_lt _) (UInt8.toNat_lt _) (UInt8.toNat_lt _) (UInt8.toNat_lt _) hcode
    have hb := one_code s
    change _ = (one s).2 at h1
    change _ = (one s).1 at h2
    rw [h2] at c85 h3
    rw [h1] at c85
    have h3' : ¬ ((one s).2 = 65533 ∧ ((one s).1 : Int) = 1) := fun h => h3 ⟨by omega, by omega⟩
    clear h1 h2 h3 c86' hT
    generalize (one s).2 = R at *
    generalize (one s).1 = K at *
    have hb1 := hb.2
    clear hb
    by_cases hr : R = 65533
    · have hk : ((K : Int) == 1) = false := by rw [beq_eq_false_iff_ne]; exact fun h => h3' ⟨hr, h⟩
      have hr' : (R == 65533) = true := by rw [hr]; rfl
      clear hr h3'
      go_enter Tryd.func70, Tryd.ntmps70
      go_wp2_with (go_at_call 85; refine c85.mono ?_; rintro e w1 ⟨rfl, hb1⟩)
      go_ret2
      exact ⟨rfl, hb1⟩
    · have hr' : (R == 65533) = false := by rw [beq_eq_false_iff_ne]; exact hr
      clear hr h3'
      go_enter Tryd.func70, Tryd.ntmps70
      go_wp2_with (go_at_call 85; refine c85.mono ?_; rintro e w1 ⟨rfl, hb1⟩)
      go_ret2
      exact ⟨rfl, hb1⟩
  · obtain ⟨h1, h2⟩ := decode_none s.size (s.get! 0).toNat (s.get! 1).toNat (s.get! 2).toNat (s.get! 3).toNat h0 (UInt8.toNat_lt _) (UInt8.toNat_lt _) (UInt8.toNat_lt _) (UInt8.toNat_lt _) (by change ¬ (0 ≤ (oneN _ _ _ _ _).2) at hcode; omega)
    have hb := one_code s
    have hm : (one s).2 = -1 := by omega
    change _ = (one s).1 at h2
    rw [h1] at c85
    rw [h2] at c86'
    rw [hm]
    clear h1 h2 hT hcode hb hm
    generalize (one s).1 = K at *
    have C86 := Lib.hid c86'
    clear c86'
    go_enter Tryd.func70, Tryd.ntmps70
    go_wp2_with (first | (go_at_call 85; refine c85.mono ?_; rintro e w1 ⟨rfl, hb1⟩) | (go_at_call 86; refine (C86.out _ hb1).mono ?_; rintro e w2 ⟨rfl, hb2⟩))
    go_ret2
    exact ⟨rfl, hb1.trans (hb2.mono hb1.size)⟩

set_option maxHeartbeats 2000000 in
set_option maxRecDepth 100000 in
/-- charUTF8 of a code that has no character. -/
theorem c71_no (c : Int) (w : World) (h : c < 0 ∨ 1114111 < c ∨ (55296 ≤ c ∧ c ≤ 57343)) :
    Calls Tryd.prog 71 #[.int .i64 c] w fun e w' => e = .returned (.tuple #[.string ⟨#[]⟩, .bool false]) ∧ Below w.heap.size w w' := by
  by_cases h0 : c < 0
  · have d0 : decide (c < 0) = true := by simp [h0]
    go_enter Tryd.func71, Tryd.ntmps71
    go_wp2
    go_ret2
    exact ⟨rfl, Below.refl _ _⟩
  have h0' : 0 ≤ c := by omega
  by_cases h1 : 1114111 < c
  · have d1 : decide (1114111 < c) = true := by simp [h1]
    go_enter Tryd.func71, Tryd.ntmps71
    go_wp2
    go_ret2
    exact ⟨rfl, Below.refl _ _⟩
  have h1' : c ≤ 1114111 := by omega
  have hv : Lib.validRune c = false := by simp [Lib.validRune]; omega
  have cV := Tryd.utf8_ValidRune c w
  rw [hv] at cV
  clear hv h
  go_enter Tryd.func71, Tryd.ntmps71
  go_wp2_with (go_at_call 87; refine cV.mono ?_; rintro e w1 ⟨rfl, rfl⟩)
  go_ret2
  exact ⟨rfl, Below.refl _ _⟩
theorem c71_yes (c : Int) (w : World) (h0 : 0 ≤ c) (h1 : c ≤ 1114111) (h2 : ¬ (55296 ≤ c ∧ c ≤ 57343)) :
    Calls Tryd.prog 71 #[.int .i64 c] w fun e w' => e = .returned (.tuple #[.string (Utf8.encode c), .bool true]) ∧ Below w.heap.size w w' := by
  have hv : Lib.validRune c = true := by simp [Lib.validRune]; omega
  have cV := Tryd.utf8_ValidRune c w
  rw [hv] at cV
  clear hv h2
  go_enter Tryd.func71, Tryd.ntmps71
  go_wp2_with (go_at_call 87; refine cV.mono ?_; rintro e w1 ⟨rfl, rfl⟩)
  go_ret2
  exact ⟨rfl, Below.refl _ _⟩
end Go.Proofs.YtjdnpgknamhnlaaDoor
