/- The law TextConverts: Convert and Lossy are those of 1.3, of every string and encodings; Convert there and back is the string, and Lossy is the same where nothing is lost. -/
import Derived.Test.YtjdnpgknamhnlaaDoorZK
namespace Go.Proofs.YtjdnpgknamhnlaaDoor
open Go Go.RowKit Go.Shelf

/-! Convert. -/
set_option maxRecDepth 100000 in
set_option maxHeartbeats 1000000 in
theorem t31_to (s : ByteArray) (f t : Int) (w : World) (ht : isEnc t = false) :
    Calls Tryd.prog 31 #[.string s, .int .i64 f, .int .i64 t] w fun e' w' => e' = .returned (.tuple #[.string ⟨#[]⟩, .int .i64 1]) ∧ Below w.heap.size w w' := by
  have cc := c47_no t w ht
  clear ht
  go_enter Tryd.func31, Tryd.ntmps31
  go_wp2_with (go_at_call 47; refine cc.mono ?_; rintro e' w1 ⟨rfl, hb1⟩)
  go_ret2
  exact ⟨rfl, hb1.alloc hb1.size _⟩
set_option maxRecDepth 100000 in
set_option maxHeartbeats 1000000 in
theorem t31_from (s : ByteArray) (f t : Int) (w : World) (hT : Lib.Utf8Tabs 0 1 w) (hs : s.size ≤ 100000) (ht : isEnc t = true) (hf : isEnc f = false) :
    Calls Tryd.prog 31 #[.string s, .int .i64 f, .int .i64 t] w fun e' w' => e' = .returned (.tuple #[.string ⟨#[]⟩, .int .i64 1]) ∧ Below w.heap.size w w' := by
  have cc := c47 t w hT ht
  have H1 := Lib.hid (fun W (hb : Below w.heap.size w W) => t18_arg s f W (Utf8Tabs_below hT hb) (by omega) (.inl hf))
  clear ht hf
  go_enter Tryd.func31, Tryd.ntmps31
  go_wp2_with fail
  refine cc.mono ?_
  rintro e' w1 ⟨⟨c, rfl, kv, kn, kc, lb, rfl, hcod⟩, hb1⟩
  have hB1 : Below w.heap.size w (w1.alloc (.cells #[.func (.func kv) #[] #[], .func (.func kn) #[] lb, .func (.func kc) #[] lb] 64)) := hb1.alloc hb1.size _
  go_wp2_with fail
  refine (H1.out _ hB1).mono ?_
  rintro e' w2 ⟨rfl, hb2⟩
  go_wp2
  go_ret2
  exact ⟨rfl, hB1.trans (hb2.mono hB1.size)⟩

/-- What Convert comes to, of good encodings. -/
def ConvRes (f t : Int) (s : ByteArray) (r : Ending) : Prop :=
  ((∃ p ∈ parts (nxOf f) s, p.2 = -1) ∧ r = .returned (.tuple #[.string ⟨#[]⟩, .int .i64 4])) ∨ ((∀ p ∈ parts (nxOf f) s, p.2 ≠ -1) ∧ OfRes t (codesP (parts (nxOf f) s)) r)
theorem codesP_length (f : Int) (s : ByteArray) : (codesP (parts (nxOf f) s)).length ≤ s.size := by
  have := parts_length (nxOf_ok f) s.size s rfl
  simp [codesP]
  omega
set_option maxRecDepth 100000 in
set_option maxHeartbeats 2000000 in
theorem t31 (s : ByteArray) (f t : Int) (w : World) (hT : Lib.Utf8Tabs 0 1 w) (hs : s.size ≤ 100000) (ht : isEnc t = true) (hf : isEnc f = true) :
    Calls Tryd.prog 31 #[.string s, .int .i64 f, .int .i64 t] w fun e' w' => ConvRes f t s e' ∧ Below w.heap.size w w' := by
  have cc := c47 t w hT ht
  have H1 := Lib.hid (fun W (hb : Below w.heap.size w W) => t18 s f W (Utf8Tabs_below hT hb) (by omega) hf)
  have hcl := codesP_length f s
  have H2 := Lib.hid (fun W v (hb : Below w.heap.size w W) hv hall => t23 (codesP (parts (nxOf f) s)) v t W (Utf8Tabs_below hT hb) ht hv (by omega) hall)
  have H3 := Lib.hid (fun W v (hb : Below w.heap.size w W) hv hall => t23_no (codesP (parts (nxOf f) s)) v t W (Utf8Tabs_below hT hb) ht hv (by omega) hall)
  clear ht hf hcl
  go_enter Tryd.func31, Tryd.ntmps31
  go_wp2_with fail
  refine cc.mono ?_
  rintro e' w1 ⟨⟨c, rfl, kv, kn, kc, lb, rfl, hcod⟩, hb1⟩
  have hB1 : Below w.heap.size w (w1.alloc (.cells #[.func (.func kv) #[] #[], .func (.func kn) #[] lb, .func (.func kc) #[] lb] 64)) := hb1.alloc hb1.size _
  go_wp2_with fail
  refine (H1.out _ hB1).mono ?_
  rintro e' w2 ⟨⟨hok, v2, rfl, hrow⟩ | ⟨hbad, rfl⟩, hb2⟩
  · have hB2 := hB1.trans (hb2.mono hB1.size)
    have hv2 := Lib.hid (codesP_row hrow)
    have Hok := Lib.hid hok
    clear hrow hok
    cases ha : allOk t (codesP (parts (nxOf f) s)) with
    | true =>
      have c2 := H2.out w2 v2 hB2 hv2.out ha
      have Ha := Lib.hid ha
      clear ha
      go_wp2_with fail
      refine c2.mono ?_
      rintro e' w3 ⟨rfl, hb3⟩
      go_wp2
      go_ret2
      exact ⟨.inr ⟨Hok.out, .inl ⟨Ha.out, rfl⟩⟩, hB2.trans (hb3.mono hB2.size)⟩
    | false =>
      have c3 := H3.out w2 v2 hB2 hv2.out ha
      have Ha := Lib.hid ha
      clear ha
      go_wp2_with fail
      refine c3.mono ?_
      rintro e' w3 ⟨rfl, hb3⟩
      go_wp2
      go_ret2
      exact ⟨.inr ⟨Hok.out, .inr ⟨Ha.out, rfl⟩⟩, hB2.trans (hb3.mono hB2.size)⟩
  · have Hbad := Lib.hid hbad
    clear hbad
    go_wp2
    go_ret2
    exact ⟨.inl ⟨Hbad.out, rfl⟩, hB1.trans (hb2.mono hB1.size)⟩

set_option maxRecDepth 100000 in
set_option maxHeartbeats 1000000 in
theorem r32_arg (s : ByteArray) (f t : Int) (w : World) (hs : s.size ≤ 100000) (hbad : isEnc f = false ∨ isEnc t = false) :
    Calls Tryd.prog 32 #[.string s, .int .i64 f, .int .i64 t] w fun e' w' => e' = .returned (.tuple #[.string ⟨#[]⟩, .int .i64 1]) ∧ Below w.heap.size w w' := by
  cases hf : isEnc f with
  | false =>
    have hb : Go.RowKit.Hid ((!isEnc f || decide (100000 < s.size)) = true) := by show _ = _; rw [hf]; rfl
    clear hf hbad
    go_enter Tryd.func32, Tryd.ntmps32
    go_wp2_with fail
    refine (c49_1 f s true hb.out _ _ (by omega) (by simp) (by simp)).mono ?_
    rintro e' w2 ⟨rfl, rfl⟩
    go_wp2
    go_ret2
    exact ⟨rfl, (Below.refl _ _).alloc (Nat.le_refl _) _⟩
  | true =>
    have ht : isEnc t = false := hbad.resolve_left (by simp [hf])
    have hb := enc1_good hf hs
    have c0 := fun W => c49_0 t W
    rw [ht] at c0
    clear hf hbad ht
    go_enter Tryd.func32, Tryd.ntmps32
    go_wp2_with fail
    refine (c49_1 f s false hb.out _ _ (by omega) (by simp) (by simp)).mono ?_
    rintro e' w2 ⟨rfl, rfl⟩
    go_wp2_with fail
    refine (c0 _).mono ?_
    rintro e' w3 ⟨rfl, rfl⟩
    go_wp2
    go_ret2
    exact ⟨rfl, (Below.refl _ _).alloc (Nat.le_refl _) _⟩
set_option maxRecDepth 100000 in
set_option maxHeartbeats 2000000 in
theorem r32 (s : ByteArray) (f t : Int) (w : World) (hs : s.size ≤ 100000) (ht : isEnc t = true) (hf : isEnc f = true) :
    Calls Tryd.prog 32 #[.string s, .int .i64 f, .int .i64 t] w fun e' w' => ConvRes f t s e' ∧ Below w.heap.size w w' := by
  have hb := enc1_good hf hs
  have c0 := fun W => c49_0 t W
  rw [ht] at c0
  have H1 := Lib.hid (fun W => r19 s f W hs hf)
  have hcl := codesP_length f s
  have H2 := Lib.hid (fun W v hv => r24 (codesP (parts (nxOf f) s)) v t W ht hv (by omega))
  have hB1 : Below w.heap.size w (w.alloc (.cells #[.string s] 9)) := (Below.refl _ _).alloc (Nat.le_refl _) _
  clear ht hf hcl
  go_enter Tryd.func32, Tryd.ntmps32
  go_wp2_with fail
  refine (c49_1 f s false hb.out _ _ (by omega) (by simp) (by simp)).mono ?_
  rintro e' w2 ⟨rfl, rfl⟩
  go_wp2_with fail
  refine (c0 _).mono ?_
  rintro e' w3 ⟨rfl, rfl⟩
  go_wp2_with fail
  refine (H1.out _).mono ?_
  rintro e' w2 ⟨⟨hok, v2, rfl, hrow⟩ | ⟨hbad, rfl⟩, hb2⟩
  · have hB2 := hB1.trans (hb2.mono hB1.size)
    have hv2 := codesP_row hrow
    have Hok := Lib.hid hok
    have c2 := H2.out w2 v2 hv2
    clear hrow hok hv2
    go_wp2_with fail
    refine c2.mono ?_
    rintro e' w3 ⟨⟨ha, rfl⟩ | ⟨ha, rfl⟩, hb3⟩
    · have Ha := Lib.hid ha
      clear ha
      go_wp2
      go_ret2
      exact ⟨.inr ⟨Hok.out, .inl ⟨Ha.out, rfl⟩⟩, hB2.trans (hb3.mono hB2.size)⟩
    · have Ha := Lib.hid ha
      clear ha
      go_wp2
      go_ret2
      exact ⟨.inr ⟨Hok.out, .inr ⟨Ha.out, rfl⟩⟩, hB2.trans (hb3.mono hB2.size)⟩
  · have Hbad := Lib.hid hbad
    clear hbad
    go_wp2
    go_ret2
    exact ⟨.inl ⟨Hbad.out, rfl⟩, hB1.trans (hb2.mono hB1.size)⟩

theorem convRes_one (f t : Int) (s : ByteArray) : ∃ (a : ByteArray) (r : Int), (∀ e, ConvRes f t s e → e = .returned (.tuple #[.string a, .int .i64 r])) ∧
    ((r = 0 ∧ (∀ p ∈ parts (nxOf f) s, p.2 ≠ -1) ∧ allOk t (codesP (parts (nxOf f) s)) = true ∧ a = ofT t (codesP (parts (nxOf f) s))) ∨ (r = 4 ∨ r = 5)) := by
  by_cases h : ∃ p ∈ parts (nxOf f) s, p.2 = -1
  · refine ⟨⟨#[]⟩, 4, fun e he => ?_, .inr (.inl rfl)⟩
    rcases he with ⟨_, rfl⟩ | ⟨h2, _⟩
    · rfl
    · obtain ⟨p, hp, hp1⟩ := h
      exact absurd hp1 (h2 p hp)
  · have h' : ∀ p ∈ parts (nxOf f) s, p.2 ≠ -1 := fun p hp hp1 => h ⟨p, hp, hp1⟩
    cases ha : allOk t (codesP (parts (nxOf f) s)) with
    | true =>
      refine ⟨_, 0, fun e he => ?_, .inl ⟨rfl, h', rfl, rfl⟩⟩
      rcases he with ⟨h2, _⟩ | ⟨_, ⟨_, rfl⟩ | ⟨h2, _⟩⟩
      · exact absurd h2 h
      · rfl
      · rw [ha] at h2; cases h2
    | false =>
      refine ⟨⟨#[]⟩, 5, fun e he => ?_, .inr (.inr rfl)⟩
      rcases he with ⟨h2, _⟩ | ⟨_, ⟨h2, _⟩ | ⟨_, rfl⟩⟩
      · exact absurd h2 h
      · rw [ha] at h2; cases h2
      · rfl
/-- There and back. -/
theorem conv_back (f t : Int) (s : ByteArray) (w : World) (hT : Lib.Utf8Tabs 0 1 w) (hs : s.size ≤ 3000) (ht : isEnc t = true) (hf : isEnc f = true) (hok : ∀ p ∈ parts (nxOf f) s, p.2 ≠ -1) (ha : allOk t (codesP (parts (nxOf f) s)) = true) :
    Calls Tryd.prog 31 #[.string (ofT t (codesP (parts (nxOf f) s))), .int .i64 t, .int .i64 f] w fun e' w' => e' = .returned (.tuple #[.string s, .int .i64 0]) ∧ Below w.heap.size w w' := by
  have hcl := codesP_length f s
  have hz := ofT_size t (codesP (parts (nxOf f) s)) (by omega)
  have hc := ofT_codes t _ ha
  have hfn := ofT_fine t _ ha
  obtain ⟨b1, b2, _⟩ := codes_back f s hok
  refine (t31 (ofT t (codesP (parts (nxOf f) s))) t f w hT hz hf ht).mono ?_
  rintro e' w' ⟨⟨⟨p, hp, hp1⟩, _⟩ | ⟨_, ⟨_, rfl⟩ | ⟨h2, _⟩⟩, hb⟩
  · exact absurd hp1 (hfn p hp)
  · exact ⟨by rw [hc, b2], hb⟩
  · rw [hc, b1] at h2; cases h2

/-! Lossy. -/
theorem lossy_same (f t : Int) (s by' : ByteArray) (ha : allOk t (codesP (parts (nxOf f) s)) = true) : glue (pcs t by' (parts (nxOf f) s)) = ofT t (codesP (parts (nxOf f) s)) := by
  unfold ofT
  congr 1
  unfold pcs codesP
  rw [List.map_map]
  refine List.map_congr_left fun p hp => ?_
  have := all_some ha (List.mem_map.2 ⟨p, hp, rfl⟩)
  show (chrOf t p.2).getD by' = chrS t p.2
  rw [this]
  rfl
set_option maxRecDepth 100000 in
set_option maxHeartbeats 2000000 in
theorem t33_arg (s by' : ByteArray) (e f : Int) (w : World) (hT : Lib.Utf8Tabs 0 1 w) (hbad : isEnc e = false ∨ isEnc f = false) :
    Calls Tryd.prog 33 #[.string s, .int .i64 e, .int .i64 f, .string by'] w fun e' w' => e' = .returned (.tuple #[.string ⟨#[]⟩, .int .i64 1]) ∧ Below w.heap.size w w' := by
  have hB0 : Below w.heap.size w (w.alloc (.cells #[.string by'] 9)) := (Below.refl _ _).alloc (Nat.le_refl _) _
  cases he : isEnc e with
  | false =>
    have c1 := fun W => c47_no e W he
    cases hf : isEnc f with
    | false =>
      have c2 := fun W => c47_no f W hf
      clear he hf hbad
      go_enter Tryd.func33, Tryd.ntmps33
      go_wp2_with fail
      refine (c1 _).mono ?_
      rintro e' w1 ⟨rfl, hb1⟩
      have hB1 := hB0.trans (hb1.mono hB0.size)
      go_wp2_with fail
      refine (c2 _).mono ?_
      rintro e' w2 ⟨rfl, hb2⟩
      have hB1' := hB1.alloc hB1.size (.cells #[.nilFunc, .nilFunc, .nilFunc] 64)
      have hB2 := hB1'.trans (hb2.mono hB1'.size)
      go_wp2
      go_ret2
      exact ⟨rfl, hB2.alloc hB2.size _⟩
    | true =>
      have c2 := Lib.hid (fun W (hb : Below w.heap.size w W) => c47 f W (Utf8Tabs_below hT hb) hf)
      clear he hf hbad
      go_enter Tryd.func33, Tryd.ntmps33
      go_wp2_with fail
      refine (c1 _).mono ?_
      rintro e' w1 ⟨rfl, hb1⟩
      have hB1 := hB0.trans (hb1.mono hB0.size)
      have hB1' := hB1.alloc hB1.size (.cells #[.nilFunc, .nilFunc, .nilFunc] 64)
      go_wp2_with fail
      refine (c2.out _ hB1').mono ?_
      rintro e' w2 ⟨⟨c, rfl, kv, kn, kc, lb, rfl, hcod⟩, hb2⟩
      have hB2 := hB1'.trans (hb2.mono hB1'.size)
      go_wp2
      go_ret2
      exact ⟨rfl, hB2.alloc hB2.size _⟩
  | true =>
    have hf : isEnc f = false := hbad.resolve_left (by simp [he])
    have c1 := Lib.hid (fun W (hb : Below w.heap.size w W) => c47 e W (Utf8Tabs_below hT hb) he)
    have c2 := fun W => c47_no f W hf
    clear he hf hbad
    go_enter Tryd.func33, Tryd.ntmps33
    go_wp2_with fail
    refine (c1.out _ hB0).mono ?_
    rintro e' w1 ⟨⟨c, rfl, kv, kn, kc, lb, rfl, hcod⟩, hb1⟩
    have hB1 := hB0.trans (hb1.mono hB0.size)
    have hB1' := hB1.alloc hB1.size (.cells #[.func (.func kv) #[] #[], .func (.func kn) #[] lb, .func (.func kc) #[] lb] 64)
    go_wp2_with fail
    refine (c2 _).mono ?_
    rintro e' w2 ⟨rfl, hb2⟩
    have hB2 := hB1'.trans (hb2.mono hB1'.size)
    go_wp2
    go_ret2
    exact ⟨rfl, hB2.alloc hB2.size _⟩
end Go.Proofs.YtjdnpgknamhnlaaDoor
