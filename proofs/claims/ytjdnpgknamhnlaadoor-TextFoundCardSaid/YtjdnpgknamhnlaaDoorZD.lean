/- The law TextFound: a part that is cut out of a string is found, at the latest where it was cut. -/
import Derived.Test.YtjdnpgknamhnlaaDoorZC
import Derived.Test.YtjdnpgknamhnlaaDoorU
namespace Go.Proofs.YtjdnpgknamhnlaaDoor
open Go Go.RowKit Go.Shelf

theorem hit_own (s : ByteArray) (a b : Nat) (hab : a ≤ b) (hb : b ≤ s.size) : hitB s (s.extract a b) a = true := by
  have hz : (s.extract a b).size = b - a := by simp; omega
  rw [hitB_iff s _ a (by omega), hz]
  exact ⟨by omega, by rw [show a + (b - a) = b by omega]⟩
theorem idx_first {n k : Nat} {H : Nat → Bool} (hk : k ≤ n) (hH : H k = true) {e : Ending} (h : IdxRes n H k e) : e = .returned (.tuple #[.int .i64 k, .int .i64 0]) := by
  rcases h with ⟨r, g1, g2, g3, g4, rfl⟩ | ⟨g, _⟩
  · rcases Nat.lt_or_ge k r with hl | hl
    · have := g4 k (Nat.le_refl _) hl; rw [hH] at this; cases this
    · rw [show r = k by omega]
  · have := g k (Nat.le_refl _) hk; rw [hH] at this; cases this
theorem idx_upto {n k : Nat} {H : Nat → Bool} (hk : k ≤ n) (hH : H k = true) {e : Ending} (h : IdxRes n H 0 e) : ∃ r : Nat, r ≤ k ∧ e = .returned (.tuple #[.int .i64 r, .int .i64 0]) := by
  rcases h with ⟨r, g1, g2, g3, g4, rfl⟩ | ⟨g, _⟩
  · rcases Nat.lt_or_ge k r with hl | hl
    · have := g4 k (Nat.zero_le _) hl; rw [hH] at this; cases this
    · exact ⟨r, hl, rfl⟩
  · have := g k (Nat.zero_le _) hk; rw [hH] at this; cases this
/-- What the law asks of the calls, of a short string. -/
theorem found_calls (s : ByteArray) (e k m : Nat) (he : isEnc (e : Int) = true) (hs : s.size ≤ 300) (hk : k ≤ (parts (nxOf e) s).length) :
    ∃ (p : ByteArray) (r : Nat), r ≤ k ∧ (∀ W, Lib.Utf8Tabs 0 1 W → m < 10 → Calls Tryd.prog 27 #[.string s, .int .i64 e, .int .i64 k, .int .i64 m] W fun e' w' => e' = .returned (.tuple #[.string p, .int .i64 0]) ∧ Below W.heap.size W w') ∧
      (∀ W, Lib.Utf8Tabs 0 1 W → Calls Tryd.prog 41 #[.string s, .string p, .int .i64 e, .int .i64 0] W fun e' w' => e' = .returned (.tuple #[.int .i64 r, .int .i64 0]) ∧ Below W.heap.size W w') ∧
      (∀ W, Lib.Utf8Tabs 0 1 W → Calls Tryd.prog 41 #[.string s, .string p, .int .i64 e, .int .i64 k] W fun e' w' => e' = .returned (.tuple #[.int .i64 k, .int .i64 0]) ∧ Below W.heap.size W w') := by
  have ok := nxOf_ok (e : Int)
  have hpl := parts_length ok s.size s rfl
  obtain ⟨j, hj⟩ : ∃ j : Nat, min (m : Int) (((parts (nxOf e) s).length : Int) - k) = (j : Int) := ⟨(min (m : Int) (((parts (nxOf e) s).length : Int) - k)).toNat, by omega⟩
  have hab := offN_mono (parts (nxOf e) s) (Nat.le_add_right k j)
  have hle := parts_le ok s (k + j)
  have hH := hit_own s _ _ hab hle
  obtain ⟨p, hp⟩ : ∃ p, s.extract (offN (parts (nxOf e) s) k) (offN (parts (nxOf e) s) (k + j)) = p := ⟨_, rfl⟩
  have hpz : p.size ≤ 100000 := by rw [← hp]; simp; omega
  have h27 : ∀ W, Lib.Utf8Tabs 0 1 W → m < 10 → Calls Tryd.prog 27 #[.string s, .int .i64 e, .int .i64 k, .int .i64 m] W fun e' w' => e' = .returned (.tuple #[.string p, .int .i64 0]) ∧ Below W.heap.size W w' := fun W hT hm => by
    have := t27 s e k m W hT (by omega) he (by omega) (by omega) (by omega) (by omega) k hk (by rw [if_neg (by omega)]) j hj
    rw [hp] at this
    exact this
  rw [hp] at hH
  have h0 := fun W hT => t41 s p e 0 W hT (by omega) hpz he (Nat.zero_le _)
  have h1 := fun W hT => t41 s p e k W hT (by omega) hpz he hk
  obtain ⟨a, b, hab2⟩ := idxRes_one (parts (nxOf e) s).length (fun i => hitB s p (offN (parts (nxOf e) s) i)) 0
  rcases first_of (fun i => hitB s p (offN (parts (nxOf e) s) i)) (k + 1) 0 with ⟨r, g1, g2, g3, g4⟩ | g
  · have hr := hab2 _ (.inl ⟨r, g1, by omega, g3, g4, rfl⟩)
    refine ⟨p, r, by omega, h27, fun W hT => (h0 W hT).mono fun _ _ ⟨q1, q2⟩ => ⟨by rw [hab2 _ q1, ← hr], q2⟩, fun W hT => (h1 W hT).mono fun _ _ ⟨q1, q2⟩ => ⟨idx_first hk hH q1, q2⟩⟩
  · have := g k (Nat.zero_le _) (by omega)
    rw [hH] at this
    cases this

set_option maxRecDepth 100000 in
set_option maxHeartbeats 2000000 in
theorem c12_small (s : ByteArray) (enc fr n : Int) (w : World) (hT : Lib.Utf8Tabs 0 1 w) (hsz : s.size ≤ 300) :
    Calls Tryd.prog 12 #[.agg #[.string s, .int .i64 enc, .int .i64 fr, .int .i64 n]] w fun e' w' => e' = .returned (.bool true) ∧ Below w.heap.size w w' := by
  obtain ⟨e, hek, hel⟩ := mod_k enc 3 (by omega) (by omega)
  have hek2 : Go.RowKit.Hid (wrap64 ((IntKind.u64.wrap enc).tmod 3) = (e : Int)) := by show _ = _; rw [show (3 : Int) = ((3 : Nat) : Int) from rfl, hek]; exact IntWalk.wrap64_in _ (by omega)
  clear hek
  obtain ⟨m, hmk, hml⟩ := mod_k n 10 (by omega) (by omega)
  have hmk2 : Go.RowKit.Hid (wrap64 ((IntKind.u64.wrap n).tmod 10) = (m : Int)) := by show _ = _; rw [show (10 : Int) = ((10 : Nat) : Int) from rfl, hmk]; exact IntWalk.wrap64_in _ (by omega)
  clear hmk
  have he : isEnc (e : Int) = true := enc_k _ (by omega) (by omega)
  have hB0 : Below w.heap.size w (w.alloc (.cells #[.string s, .int .i64 enc, .int .i64 fr, .int .i64 n] 55)) := (Below.refl _ _).alloc (Nat.le_refl _) _
  obtain ⟨W1, hW1⟩ : ∃ W1, w.alloc (.cells #[.string s, .int .i64 enc, .int .i64 fr, .int .i64 n] 55) = W1 := ⟨_, rfl⟩
  have hz1 : W1.heap.size = w.heap.size + 1 := by rw [← hW1]; simp
  have k0 : W1.cell? ⟨w.heap.size, 0, none⟩ = some (.string s) := by rw [← hW1]; simp
  have k1 : W1.cell? ⟨w.heap.size, 1, none⟩ = some (.int .i64 enc) := by rw [← hW1]; simp
  have k2 : W1.cell? ⟨w.heap.size, 2, none⟩ = some (.int .i64 fr) := by rw [← hW1]; simp
  have k3 : W1.cell? ⟨w.heap.size, 3, none⟩ = some (.int .i64 n) := by rw [← hW1]; simp
  have hk : ∀ W, Below W1.heap.size W1 W → W.cell? ⟨w.heap.size, 2, none⟩ = some (.int .i64 fr) ∧ W.cell? ⟨w.heap.size, 3, none⟩ = some (.int .i64 n) := fun W hb =>
    ⟨(hb.cell (p := ⟨w.heap.size, 2, none⟩) (by show w.heap.size < _; omega)).trans k2, (hb.cell (p := ⟨w.heap.size, 3, none⟩) (by show w.heap.size < _; omega)).trans k3⟩
  have HK := Lib.hid hk
  clear hk
  rw [hW1] at hB0
  have HT := Lib.hid hT
  clear hT
  have hsz' : (s.size : Int) ≤ 300 := by omega
  have d300 : decide ((300 : Int) < s.size) = false := by simp; omega
  go_enter Tryd.func12, Tryd.ntmps12
  go_wp2_with fail
  rw [hek2.out]
  clear k0 k1 k2 k3
  have ok := nxOf_ok e
  have hpl := parts_length ok s.size s rfl
  have cL := t20 s e W1 (Utf8Tabs_below HT.out hB0) (by omega) he
  have hfc := Lib.hid (fun k hk => found_calls s e k m he (by omega) hk)
  obtain ⟨L, hL⟩ : ∃ L, (parts (nxOf e) s).length = L := ⟨_, rfl⟩
  rw [hL] at hpl cL hfc
  clear hL he ok
  have hpl' : (L : Int) ≤ s.size := by omega
  obtain ⟨k, hkk, hkl⟩ := mod_k fr (L + 1) (by omega) (by omega)
  have hk2 : Go.RowKit.Hid (wrap64 ((IntKind.u64.wrap fr).tmod ((L : Int) + 1)) = (k : Int)) := by
    show _ = _
    rw [show ((L : Int) + 1) = ((L + 1 : Nat) : Int) from by omega, hkk]
    exact IntWalk.wrap64_in _ (by omega)
  clear hkk
  obtain ⟨p, r, hrk, q1, q2, q3⟩ := hfc.out k (by omega)
  have Q1 := Lib.hid q1
  have Q2 := Lib.hid q2
  have Q3 := Lib.hid q3
  have HE := Lib.hid (fun W (hb : Below w.heap.size w W) => c15 W (Utf8Tabs_below HT.out hb))
  clear q1 q2 q3 hfc
  refine cL.mono ?_
  rintro e1 w2 ⟨rfl, hb2⟩
  have hB2 := hB0.trans (hb2.mono hB0.size)
  obtain ⟨k2, k3⟩ := HK.out _ hb2
  go_wp2_with fail
  rw [hk2.out, hmk2.out]
  clear k2 k3
  refine (Q1.out _ (Utf8Tabs_below HT.out hB2) hml).mono ?_
  rintro e1 w3 ⟨rfl, hb3⟩
  have hB3 := hB2.trans (hb3.mono hB2.size)
  go_wp2_with fail
  refine (Q2.out _ (Utf8Tabs_below HT.out hB3)).mono ?_
  rintro e1 w4 ⟨rfl, hb4⟩
  have hB4 := hB3.trans (hb4.mono hB3.size)
  go_wp2_with fail
  refine (Q3.out _ (Utf8Tabs_below HT.out hB4)).mono ?_
  rintro e1 w5 ⟨rfl, hb5⟩
  have hB5 := hB4.trans (hb5.mono hB4.size)
  have hrki : (r : Int) ≤ k := by omega
  go_wp2_with fail
  refine (HE.out _ hB5).mono ?_
  rintro e1 w6 ⟨rfl, hb6⟩
  go_wp2
  go_ret
  exact ⟨rfl, hB5.trans (hb6.mono hB5.size)⟩

set_option maxRecDepth 100000 in
set_option maxHeartbeats 2000000 in
theorem c12_big (s0 : ByteArray) (enc fr n : Int) (w : World) (hT : Lib.Utf8Tabs 0 1 w) (hbig : 300 < s0.size) (hmax : s0.size ≤ 9223372036854775807) :
    Calls Tryd.prog 12 #[.agg #[.string s0, .int .i64 enc, .int .i64 fr, .int .i64 n]] w fun e' w' => e' = .returned (.bool true) ∧ Below w.heap.size w w' := by
  obtain ⟨e, hek, hel⟩ := mod_k enc 3 (by omega) (by omega)
  have hek2 : Go.RowKit.Hid (wrap64 ((IntKind.u64.wrap enc).tmod 3) = (e : Int)) := by show _ = _; rw [show (3 : Int) = ((3 : Nat) : Int) from rfl, hek]; exact IntWalk.wrap64_in _ (by omega)
  clear hek
  obtain ⟨m, hmk, hml⟩ := mod_k n 10 (by omega) (by omega)
  have hmk2 : Go.RowKit.Hid (wrap64 ((IntKind.u64.wrap n).tmod 10) = (m : Int)) := by show _ = _; rw [show (10 : Int) = ((10 : Nat) : Int) from rfl, hmk]; exact IntWalk.wrap64_in _ (by omega)
  clear hmk
  have he : isEnc (e : Int) = true := enc_k _ (by omega) (by omega)
  have hB0 : Below w.heap.size w (w.alloc (.cells #[.string s0, .int .i64 enc, .int .i64 fr, .int .i64 n] 55)) := (Below.refl _ _).alloc (Nat.le_refl _) _
  obtain ⟨W1, hW1⟩ : ∃ W1, w.alloc (.cells #[.string s0, .int .i64 enc, .int .i64 fr, .int .i64 n] 55) = W1 := ⟨_, rfl⟩
  have hz1 : W1.heap.size = w.heap.size + 1 := by rw [← hW1]; simp
  have k0 : W1.cell? ⟨w.heap.size, 0, none⟩ = some (.string s0) := by rw [← hW1]; simp
  have k1 : W1.cell? ⟨w.heap.size, 1, none⟩ = some (.int .i64 enc) := by rw [← hW1]; simp
  have k2 : W1.cell? ⟨w.heap.size, 2, none⟩ = some (.int .i64 fr) := by rw [← hW1]; simp
  have k3 : W1.cell? ⟨w.heap.size, 3, none⟩ = some (.int .i64 n) := by rw [← hW1]; simp
  have hk : ∀ W, Below W1.heap.size W1 W → W.cell? ⟨w.heap.size, 2, none⟩ = some (.int .i64 fr) ∧ W.cell? ⟨w.heap.size, 3, none⟩ = some (.int .i64 n) := fun W hb =>
    ⟨(hb.cell (p := ⟨w.heap.size, 2, none⟩) (by show w.heap.size < _; omega)).trans k2, (hb.cell (p := ⟨w.heap.size, 3, none⟩) (by show w.heap.size < _; omega)).trans k3⟩
  have HK := Lib.hid hk
  clear hk
  rw [hW1] at hB0
  have HT := Lib.hid hT
  clear hT
  have hbig' : (300 : Int) < s0.size := by omega
  have d300 : decide ((300 : Int) < s0.size) = true := by simp; omega
  go_enter Tryd.func12, Tryd.ntmps12
  go_wp2_with fail
  rw [hek2.out]
  have hsz : (s0.extract 0 300).size ≤ 300 := by simp; omega
  generalize s0.extract 0 300 = s at hsz ⊢
  have hsz' : (s.size : Int) ≤ 300 := by omega
  clear k0 k1 k2 k3
  have ok := nxOf_ok e
  have hpl := parts_length ok s.size s rfl
  have cL := t20 s e W1 (Utf8Tabs_below HT.out hB0) (by omega) he
  have hfc := Lib.hid (fun k hk => found_calls s e k m he (by omega) hk)
  obtain ⟨L, hL⟩ : ∃ L, (parts (nxOf e) s).length = L := ⟨_, rfl⟩
  rw [hL] at hpl cL hfc
  clear hL he ok
  have hpl' : (L : Int) ≤ s.size := by omega
  obtain ⟨k, hkk, hkl⟩ := mod_k fr (L + 1) (by omega) (by omega)
  have hk2 : Go.RowKit.Hid (wrap64 ((IntKind.u64.wrap fr).tmod ((L : Int) + 1)) = (k : Int)) := by
    show _ = _
    rw [show ((L : Int) + 1) = ((L + 1 : Nat) : Int) from by omega, hkk]
    exact IntWalk.wrap64_in _ (by omega)
  clear hkk
  obtain ⟨p, r, hrk, q1, q2, q3⟩ := hfc.out k (by omega)
  have Q1 := Lib.hid q1
  have Q2 := Lib.hid q2
  have Q3 := Lib.hid q3
  have HE := Lib.hid (fun W (hb : Below w.heap.size w W) => c15 W (Utf8Tabs_below HT.out hb))
  clear q1 q2 q3 hfc
  refine cL.mono ?_
  rintro e1 w2 ⟨rfl, hb2⟩
  have hB2 := hB0.trans (hb2.mono hB0.size)
  obtain ⟨k2, k3⟩ := HK.out _ hb2
  go_wp2_with fail
  rw [hk2.out, hmk2.out]
  clear k2 k3
  refine (Q1.out _ (Utf8Tabs_below HT.out hB2) hml).mono ?_
  rintro e1 w3 ⟨rfl, hb3⟩
  have hB3 := hB2.trans (hb3.mono hB2.size)
  go_wp2_with fail
  refine (Q2.out _ (Utf8Tabs_below HT.out hB3)).mono ?_
  rintro e1 w4 ⟨rfl, hb4⟩
  have hB4 := hB3.trans (hb4.mono hB3.size)
  go_wp2_with fail
  refine (Q3.out _ (Utf8Tabs_below HT.out hB4)).mono ?_
  rintro e1 w5 ⟨rfl, hb5⟩
  have hB5 := hB4.trans (hb5.mono hB4.size)
  have hrki : (r : Int) ≤ k := by omega
  go_wp2_with fail
  refine (HE.out _ hB5).mono ?_
  rintro e1 w6 ⟨rfl, hb6⟩
  go_wp2
  go_ret
  exact ⟨rfl, hB5.trans (hb6.mono hB5.size)⟩

theorem c12 (s : ByteArray) (enc fr n : Int) (w : World) (hT : Lib.Utf8Tabs 0 1 w) (hmax : s.size ≤ 9223372036854775807) :
    Calls Tryd.prog 12 #[.agg #[.string s, .int .i64 enc, .int .i64 fr, .int .i64 n]] w fun e' w' => e' = .returned (.bool true) ∧ Below w.heap.size w w' := by
  by_cases h : 300 < s.size
  · exact c12_big s enc fr n w hT h hmax
  · exact c12_small s enc fr n w hT (by omega)
end Go.Proofs.YtjdnpgknamhnlaaDoor
