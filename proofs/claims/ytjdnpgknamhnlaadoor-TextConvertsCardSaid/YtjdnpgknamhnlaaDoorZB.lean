/- Contracts of Index: the program's and the reference's. -/
import Derived.Test.YtjdnpgknamhnlaaDoorZ
namespace Go.Proofs.YtjdnpgknamhnlaaDoor
open Go Go.RowKit Go.Shelf

/-- The part stands in the string at a byte. -/
def hitB (s p : ByteArray) (a : Nat) : Bool := Lib.hasPrefix (s.extract a s.size).data.toList p.data.toList
theorem cut_cut (s : ByteArray) (a n : Nat) (_ha : a ≤ s.size) (hn : a + n ≤ s.size) : (s.extract a s.size).extract 0 n = s.extract a (a + n) := by
  rw [ByteArray.extract_extract, Nat.add_zero, Nat.min_eq_left hn]
theorem hitB_iff (s p : ByteArray) (a : Nat) (ha : a ≤ s.size) : hitB s p a = true ↔ (a + p.size ≤ s.size ∧ s.extract a (a + p.size) = p) := by
  unfold hitB
  rw [← Lib.hasPrefix_raw]
  have hz : (s.extract a s.size).size = s.size - a := by simp
  rw [hz, Bool.and_eq_true, decide_eq_true_eq, beq_iff_eq]
  constructor
  · rintro ⟨h1, h2⟩
    have hn : a + p.size ≤ s.size := by omega
    rw [cut_cut s a p.size ha hn, Lib.toList_data, Lib.toList_data] at h2
    refine ⟨hn, ?_⟩
    have h3 : (s.extract a (a + p.size)).data = p.data := Array.toList_inj.1 h2
    cases hx : s.extract a (a + p.size); cases p
    rw [hx] at h3
    simpa using h3
  · rintro ⟨h1, h2⟩
    refine ⟨by omega, ?_⟩
    rw [cut_cut s a p.size ha h1, h2]
theorem first_of (H : Nat → Bool) : ∀ m k : Nat, (∃ r, k ≤ r ∧ r < k + m ∧ H r = true ∧ ∀ j, k ≤ j → j < r → H j = false) ∨ (∀ j, k ≤ j → j < k + m → H j = false) := fun m => by
  induction m with
  | zero => intro k; exact .inr fun j h1 h2 => by omega
  | succ m ih =>
    intro k
    rcases ih k with ⟨r, h1, h2, h3, h4⟩ | h
    · exact .inl ⟨r, h1, by omega, h3, h4⟩
    · cases hx : H (k + m) with
      | true => exact .inl ⟨k + m, by omega, by omega, hx, h⟩
      | false =>
        refine .inr fun j h1 h2 => ?_
        rcases Nat.lt_or_ge j (k + m) with h3 | h3
        · exact h j h1 h3
        · rw [show j = k + m by omega]; exact hx
def IdxRes (n : Nat) (H : Nat → Bool) (k : Nat) (e : Ending) : Prop :=
  (∃ r : Nat, k ≤ r ∧ r ≤ n ∧ H r = true ∧ (∀ j, k ≤ j → j < r → H j = false) ∧ e = .returned (.tuple #[.int .i64 r, .int .i64 0])) ∨
  ((∀ j, k ≤ j → j ≤ n → H j = false) ∧ e = .returned (.tuple #[.int .i64 0, .int .i64 3]))
theorem idxRes_one (n : Nat) (H : Nat → Bool) (k : Nat) : ∃ a b : Int, ∀ e, IdxRes n H k e → e = .returned (.tuple #[.int .i64 a, .int .i64 b]) := by
  rcases first_of H (n + 1 - k) k with ⟨r, h1, h2, h3, h4⟩ | h
  · refine ⟨r, 0, fun e he => ?_⟩
    rcases he with ⟨r', g1, g2, g3, g4, rfl⟩ | ⟨g, _⟩
    · rcases Nat.lt_trichotomy r r' with hl | hl | hl
      · have := g4 r h1 hl; rw [h3] at this; cases this
      · rw [hl]
      · have := h4 r' g1 hl; rw [g3] at this; cases this
    · have := g r h1 (by omega); rw [h3] at this; cases this
  · refine ⟨0, 3, fun e he => ?_⟩
    rcases he with ⟨r', g1, g2, g3, g4, rfl⟩ | ⟨_, rfl⟩
    · have := h r' g1 (by omega); rw [g3] at this; cases this
    · rfl

set_option maxRecDepth 100000 in
set_option maxHeartbeats 1000000 in
theorem t41_arg (s p : ByteArray) (e f : Int) (w : World) (hT : Lib.Utf8Tabs 0 1 w) (hs : s.size ≤ 9223372036854775807) (hp : p.size ≤ 9223372036854775807) (hbad : isEnc e = false ∨ (decide (100000 < s.size) || decide (100000 < p.size)) = true) :
    Calls Tryd.prog 41 #[.string s, .string p, .int .i64 e, .int .i64 f] w fun e' w' => e' = .returned (.tuple #[.int .i64 0, .int .i64 1]) ∧ Below w.heap.size w w' := by
  cases he : isEnc e with
  | false =>
    have cc := c47_no e w he
    clear he hbad
    go_enter Tryd.func41, Tryd.ntmps41
    go_wp2_with (go_at_call 47; refine cc.mono ?_; rintro e' w1 ⟨rfl, hb1⟩)
    go_ret2
    exact ⟨rfl, hb1.alloc hb1.size _⟩
  | true =>
    have hbig := Lib.hid (hbad.resolve_left (by simp [he]))
    have cc := c47 e w hT he
    clear he hbad
    go_enter Tryd.func41, Tryd.ntmps41
    go_wp2_with fail
    refine cc.mono ?_
    rintro e' w1 ⟨⟨c, rfl, kv, kn, kc, lb, rfl, hcod⟩, hb1⟩
    go_wp2_with fail
    refine (c48_2 s p true hbig.out _ _ hs hp (by simp) (by simp) (by simp)).mono ?_
    rintro e' w2 ⟨rfl, rfl⟩
    go_wp2
    go_ret2
    exact ⟨rfl, (hb1.alloc hb1.size _).alloc (by have := hb1.size; simp; omega) _⟩

set_option maxRecDepth 100000 in
set_option maxHeartbeats 2000000 in
theorem t41_out (s p : ByteArray) (e f : Int) (w : World) (hT : Lib.Utf8Tabs 0 1 w) (hs : s.size ≤ 100000) (hp : p.size ≤ 100000) (he : isEnc e = true) (hf1 : -9223372036854775808 ≤ f) (hf2 : f ≤ 9223372036854775807) (hf : f < 0 ∨ ((parts (nxOf e) s).length : Int) < f) :
    Calls Tryd.prog 41 #[.string s, .string p, .int .i64 e, .int .i64 f] w fun e' w' => e' = .returned (.tuple #[.int .i64 0, .int .i64 1]) ∧ Below w.heap.size w w' := by
  have cc := c47 e w hT he
  have hsm := Lib.hid (show (decide (100000 < s.size) || decide (100000 < p.size)) = false by rw [decide_eq_false (show ¬ 100000 < s.size by omega), decide_eq_false (show ¬ 100000 < p.size by omega)]; rfl)
  have hpl := parts_length (nxOf_ok e) s.size s rfl
  have hple : ((parts (nxOf e) s).length : Int) ≤ 100000 := by omega
  clear he
  have hf' := Lib.hid hf
  clear hf
  go_enter Tryd.func41, Tryd.ntmps41
  go_wp2_with fail
  refine cc.mono ?_
  rintro e' w1 ⟨⟨c, rfl, kv, kn, kc, lb, rfl, hcod⟩, hb1⟩
  go_wp2_with fail
  refine (c48_2 s p false hsm.out _ _ (by omega) (by omega) (by simp) (by simp) (by simp)).mono ?_
  rintro e' w2 ⟨rfl, rfl⟩
  have hB2 : Below w.heap.size w ((w1.alloc (.cells #[.func (.func kv) #[] #[], .func (.func kn) #[] lb, .func (.func kc) #[] lb] 64)).alloc (.cells #[.string s, .string p] 9)) := (hb1.alloc hb1.size _).alloc (by have := hb1.size; simp; omega) _
  have hB1 : Below w1.heap.size w1 ((w1.alloc (.cells #[.func (.func kv) #[] #[], .func (.func kn) #[] lb, .func (.func kc) #[] lb] 64)).alloc (.cells #[.string s, .string p] 9)) := ((Below.refl _ w1).alloc (Nat.le_refl _) _).alloc (by simp) _
  have c5 := c52' hcod.toNextOk (.func (.func kv) #[] #[]) (.func (.func kc) #[] lb) s hs _ hB1 (by simp; omega)
  go_wp2_with fail
  refine c5.mono ?_
  rintro e' w3 ⟨g, cap, rfl, hg1, hg2, hcell, hb3⟩
  clear hcell
  have hB3 := hB2.trans (hb3.mono hB2.size)
  rcases hf'.out with h | h
  · have d0 : decide (f < 0) = true := by simp [h]
    go_wp2
    go_ret2
    exact ⟨rfl, hB3⟩
  · have d0 : decide (f < 0) = false := by simp; omega
    have d1 : ((parts (nxOf e) s).length : Int) + 1 ≤ f := by omega
    go_wp2
    go_ret2
    exact ⟨rfl, hB3⟩

set_option maxRecDepth 100000 in
set_option maxHeartbeats 2000000 in
theorem t41 (s p : ByteArray) (e : Int) (k : Nat) (w : World) (hT : Lib.Utf8Tabs 0 1 w) (hs : s.size ≤ 100000) (hp : p.size ≤ 100000) (he : isEnc e = true) (hk : k ≤ (parts (nxOf e) s).length) :
    Calls Tryd.prog 41 #[.string s, .string p, .int .i64 e, .int .i64 k] w fun e' w' => IdxRes (parts (nxOf e) s).length (fun i => hitB s p (offN (parts (nxOf e) s) i)) k e' ∧ Below w.heap.size w w' := by
  have cc := c47 e w hT he
  have hsm := Lib.hid (show (decide (100000 < s.size) || decide (100000 < p.size)) = false by rw [decide_eq_false (show ¬ 100000 < s.size by omega), decide_eq_false (show ¬ 100000 < p.size by omega)]; rfl)
  have hpl := parts_length (nxOf_ok e) s.size s rfl
  have hle := Lib.hid (parts_le (nxOf_ok e) s)
  clear he
  go_enter Tryd.func41, Tryd.ntmps41
  go_wp2_with fail
  refine cc.mono ?_
  rintro e' w1 ⟨⟨c, rfl, kv, kn, kc, lb, rfl, hcod⟩, hb1⟩
  go_wp2_with fail
  refine (c48_2 s p false hsm.out _ _ (by omega) (by omega) (by simp) (by simp) (by simp)).mono ?_
  rintro e' w2 ⟨rfl, rfl⟩
  have hB2 : Below w.heap.size w ((w1.alloc (.cells #[.func (.func kv) #[] #[], .func (.func kn) #[] lb, .func (.func kc) #[] lb] 64)).alloc (.cells #[.string s, .string p] 9)) := (hb1.alloc hb1.size _).alloc (by have := hb1.size; simp; omega) _
  have hB1 : Below w1.heap.size w1 ((w1.alloc (.cells #[.func (.func kv) #[] #[], .func (.func kn) #[] lb, .func (.func kc) #[] lb] 64)).alloc (.cells #[.string s, .string p] 9)) := ((Below.refl _ w1).alloc (Nat.le_refl _) _).alloc (by simp) _
  have c5 := c52' hcod.toNextOk (.func (.func kv) #[] #[]) (.func (.func kc) #[] lb) s hs _ hB1 (by simp; omega)
  go_wp2_with fail
  refine c5.mono ?_
  rintro e' w3 ⟨g, cap, rfl, hg1, hg2, hcell, hb3⟩
  have HC := Lib.hid hcell
  clear hcell
  have hB3 := hB2.trans (hb3.mono hB2.size)
  obtain ⟨ps, hps⟩ : ∃ ps, parts (nxOf e) s = ps := ⟨_, rfl⟩
  rw [hps] at hk hpl hle HC ⊢
  have HP := Lib.hid hps
  clear hps
  have hki : (k : Int) < ps.length + 1 := by omega
  have hpli : (ps.length : Int) ≤ 100000 := by omega
  have d0 : decide ((k : Int) < 0) = false := by simp
  go_wp2
  go_loop [13] (fun i => ∃ j : Nat, k ≤ j ∧ j ≤ ps.length + 1 ∧ i = .int .i64 j ∧ Go.RowKit.Hid (∀ x, k ≤ x → x < j → hitB s p (offN ps x) = false)) (fun i => ps.length + 1 - (Go.RowKit.intOf i).toNat)
  case atStart => exact ⟨k, Nat.le_refl _, by omega, rfl, fun x h1 h2 => by omega⟩
  case round =>
    obtain ⟨j, hj1, hj2, rfl, hno⟩ := hrel
    by_cases hlt : j ≤ ps.length
    · have hji : (j : Int) < ps.length + 1 := by omega
      have x0 := HC.out j hlt
      have has := hle.out j
      obtain ⟨a, ha⟩ : ∃ a, offN ps j = a := ⟨_, rfl⟩
      rw [ha] at x0 has
      have Ha := Lib.hid ha
      clear ha
      have hasi : (a : Int) ≤ s.size := by omega
      have cH := Tryd.strings_HasPrefix (s.extract a s.size) p w3
      cases hh : hitB s p a with
      | true =>
        rw [show Lib.hasPrefix (s.extract a s.size).data.toList p.data.toList = true from hh] at cH
        have HH := Lib.hid hh
        clear hh
        go_wp2_with fail
        refine cH.mono ?_
        rintro e1 w4 ⟨rfl, rfl⟩
        go_wp2
        go_ret2
        exact ⟨by rw [HP.out]; exact .inl ⟨j, hj1, hlt, by show hitB s p (offN ps j) = true; rw [Ha.out]; exact HH.out, hno.out, rfl⟩, hB3⟩
      | false =>
        rw [show Lib.hasPrefix (s.extract a s.size).data.toList p.data.toList = false from hh] at cH
        have HH := Lib.hid hh
        clear hh
        go_wp2_with fail
        refine cH.mono ?_
        rintro e1 w4 ⟨rfl, rfl⟩
        go_wp2
        go_round
        case rel =>
          refine ⟨j + 1, by omega, by omega, by go_num, fun x h1 h2 => ?_⟩
          rcases Nat.lt_or_ge x j with h3 | h3
          · exact hno.out x h1 h3
          · rw [show x = j by omega, Ha.out]; exact HH.out
        case measure => simp [Go.RowKit.intOf]; omega
    · have hji : (ps.length : Int) + 1 ≤ j := by omega
      go_wp2
      go_ret2
      exact ⟨by rw [HP.out]; exact .inr ⟨fun x h1 h2 => hno.out x h1 (by omega), rfl⟩, hB3⟩
end Go.Proofs.YtjdnpgknamhnlaaDoor
