/- Contracts of text.Codes, text.Valid, text.Length. -/
import Derived.Test.YtjdnpgknamhnlaaDoorI
namespace Go.Proofs.YtjdnpgknamhnlaaDoor
open Go Go.RowKit Go.Shelf

theorem tooB1 (s : ByteArray) : tooB [s] = decide (100000 < s.size) := by simp [tooB]
theorem tooB2 (s t : ByteArray) : tooB [s, t] = (decide (100000 < s.size) || decide (100000 < t.size)) := by simp [tooB]

theorem c48_1 (s : ByteArray) (b : Bool) (hb : decide (100000 < s.size) = b) (W : World) (g : Nat) (hs : s.size ≤ 9223372036854775807) (hc : W.cell? ⟨g, 0, none⟩ = some (.string s)) (hg : g < W.heap.size) :
    Calls Tryd.prog 48 #[.slice (some ⟨g, 0, none⟩) 1 1] W fun e w' => e = .returned (.bool b) ∧ W = w' := by
  have := c48 [s] (.slice (some ⟨g, 0, none⟩) 1 1) W ⟨_, _, rfl, fun k hk => by
    obtain rfl : k = 0 := by simpa using hk
    exact ⟨g, rfl, hg, hc⟩⟩ (by simp) (by simpa using hs)
  rw [tooB1, hb] at this
  exact this
theorem c48_2 (s t : ByteArray) (b : Bool) (hb : (decide (100000 < s.size) || decide (100000 < t.size)) = b) (W : World) (g : Nat) (hs : s.size ≤ 9223372036854775807) (ht : t.size ≤ 9223372036854775807) (hc : W.cell? ⟨g, 0, none⟩ = some (.string s)) (hc1 : W.cell? ⟨g, 1, none⟩ = some (.string t)) (hg : g < W.heap.size) :
    Calls Tryd.prog 48 #[.slice (some ⟨g, 0, none⟩) 2 2] W fun e w' => e = .returned (.bool b) ∧ W = w' := by
  have := c48 [s, t] (.slice (some ⟨g, 0, none⟩) 2 2) W ⟨_, _, rfl, fun k hk => by
    have : k < 2 := by simpa using hk
    rcases (by omega : k = 0 ∨ k = 1) with rfl | rfl
    · exact ⟨g, rfl, hg, hc⟩
    · exact ⟨g, rfl, hg, hc1⟩⟩ (by simp) (by simp; exact ⟨hs, ht⟩)
  rw [tooB2, hb] at this
  exact this

/-- What Codes hands back, where its arguments are as asked. -/
def CodesRes (B : Nat) (ps : List (ByteArray × Int)) (e : Ending) (W' : World) : Prop :=
  ((∀ p ∈ ps, p.2 ≠ -1) ∧ ∃ v, e = .returned (.tuple #[v, .int .i64 0]) ∧ W'.ownsRow B 3 1 v ps.length (ps.map fun p => Value.int .i64 p.2)) ∨
  ((∃ p ∈ ps, p.2 = -1) ∧ e = .returned (.tuple #[.slice none 0 0, .int .i64 4]))
theorem ownsRow_mono {w : World} {B B' : Nat} {e : TypeId} {size n : Nat} {v : Value} {xs : List Value} (h : w.ownsRow B e size v n xs) (hB : B' ≤ B) : w.ownsRow B' e size v n xs := by
  obtain ⟨h1, h2⟩ := h
  refine ⟨h1, ?_⟩
  rcases h2 with h2 | ⟨g, cap, cur, hv, hg, r⟩
  · exact .inl h2
  · exact .inr ⟨g, cap, cur, hv, Nat.le_trans hB hg, r⟩

set_option maxRecDepth 100000 in
set_option maxHeartbeats 2000000 in
theorem t18_arg (s : ByteArray) (e : Int) (w : World) (hT : Lib.Utf8Tabs 0 1 w) (hs : s.size ≤ 9223372036854775807) (hbad : isEnc e = false ∨ 100000 < s.size) :
    Calls Tryd.prog 18 #[.string s, .int .i64 e] w fun e' w' => e' = .returned (.tuple #[.slice none 0 0, .int .i64 1]) ∧ Below w.heap.size w w' := by
  cases he : isEnc e with
  | false =>
    have cc := c47_no e w he
    clear he hbad
    go_enter Tryd.func18, Tryd.ntmps18
    go_wp2_with (go_at_call 47; refine cc.mono ?_; rintro e' w1 ⟨rfl, hb1⟩)
    go_ret2
    exact ⟨rfl, hb1.alloc hb1.size _⟩
  | true =>
    have cc := c47 e w hT he
    have hbig : 100000 < s.size := by rcases hbad with h | h; · rw [he] at h; cases h
                                      · exact h
    have hbig' := Lib.hid (decide_eq_true hbig)
    clear he hbad hbig
    go_enter Tryd.func18, Tryd.ntmps18
    go_wp2_with fail
    refine cc.mono ?_
    rintro e' w1 ⟨⟨c, rfl, kv, kn, kc, lb, rfl, hcod⟩, hb1⟩
    go_wp2_with fail
    refine (c48_1 s true hbig'.out _ _ hs (by simp) (by simp)).mono ?_
    rintro e' w2 ⟨rfl, rfl⟩
    go_wp2
    go_ret2
    exact ⟨rfl, (hb1.alloc hb1.size _).alloc (by have := hb1.size; simp; omega) _⟩

set_option maxRecDepth 100000 in
set_option maxHeartbeats 1000000 in
theorem t18 (s : ByteArray) (e : Int) (w : World) (hT : Lib.Utf8Tabs 0 1 w) (hs : s.size ≤ 100000) (he : isEnc e = true) :
    Calls Tryd.prog 18 #[.string s, .int .i64 e] w fun e' w' => CodesRes w.heap.size (parts (nxOf e) s) e' w' ∧ Below w.heap.size w w' := by
  have cc := c47 e w hT he
  have hsm := Lib.hid (decide_eq_false (show ¬ 100000 < s.size by omega))
  clear he
  go_enter Tryd.func18, Tryd.ntmps18
  go_wp2_with fail
  refine cc.mono ?_
  rintro e' w1 ⟨⟨c, rfl, kv, kn, kc, lb, rfl, hcod⟩, hb1⟩
  go_wp2_with fail
  refine (c48_1 s false hsm.out _ _ (by omega) (by simp) (by simp)).mono ?_
  rintro e' w2 ⟨rfl, rfl⟩
  have hB2 : Below w.heap.size w ((w1.alloc (.cells #[.func (.func kv) #[] #[], .func (.func kn) #[] lb, .func (.func kc) #[] lb] 64)).alloc (.cells #[.string s] 9)) := (hb1.alloc hb1.size _).alloc (by have := hb1.size; simp; omega) _
  have hB1 : Below w1.heap.size w1 ((w1.alloc (.cells #[.func (.func kv) #[] #[], .func (.func kn) #[] lb, .func (.func kc) #[] lb] 64)).alloc (.cells #[.string s] 9)) := ((Below.refl _ w1).alloc (Nat.le_refl _) _).alloc (by simp) _
  have c5 := c51 hcod.toNextOk (.func (.func kv) #[] #[]) (.func (.func kc) #[] lb) s hs _ hB1 (by simp; omega)
  go_wp2_with fail
  refine c5.mono ?_
  rintro e' w3 ⟨(⟨hall, v, rfl, hrow⟩ | ⟨hex, rfl⟩), hb3⟩
  · have hall' := Lib.hid hall
    clear hall
    go_wp2
    go_ret2
    exact ⟨.inl ⟨hall'.out, v, rfl, ownsRow_mono hrow (Nat.le_trans hb1.size (by simp; omega))⟩, hB2.trans (hb3.mono hB2.size)⟩
  · have hex' := Lib.hid hex
    clear hex
    go_wp2
    go_ret2
    exact ⟨.inr ⟨hex'.out, rfl⟩, hB2.trans (hb3.mono hB2.size)⟩

set_option maxRecDepth 100000 in
set_option maxHeartbeats 1000000 in
theorem t20_arg (s : ByteArray) (e : Int) (w : World) (hT : Lib.Utf8Tabs 0 1 w) (hs : s.size ≤ 9223372036854775807) (hbad : isEnc e = false ∨ 100000 < s.size) :
    Calls Tryd.prog 20 #[.string s, .int .i64 e] w fun e' w' => e' = .returned (.tuple #[.int .i64 0, .int .i64 1]) ∧ Below w.heap.size w w' := by
  cases he : isEnc e with
  | false =>
    have cc := c47_no e w he
    clear he hbad
    go_enter Tryd.func20, Tryd.ntmps20
    go_wp2_with (go_at_call 47; refine cc.mono ?_; rintro e' w1 ⟨rfl, hb1⟩)
    go_ret2
    exact ⟨rfl, hb1.alloc hb1.size _⟩
  | true =>
    have cc := c47 e w hT he
    have hbig : 100000 < s.size := by
      rcases hbad with h | h
      · rw [he] at h; cases h
      · exact h
    have hbig' := Lib.hid (decide_eq_true hbig)
    clear he hbad hbig
    go_enter Tryd.func20, Tryd.ntmps20
    go_wp2_with fail
    refine cc.mono ?_
    rintro e' w1 ⟨⟨c, rfl, kv, kn, kc, lb, rfl, hcod⟩, hb1⟩
    go_wp2_with fail
    refine (c48_1 s true hbig'.out _ _ hs (by simp) (by simp)).mono ?_
    rintro e' w2 ⟨rfl, rfl⟩
    go_wp2
    go_ret2
    exact ⟨rfl, (hb1.alloc hb1.size _).alloc (by have := hb1.size; simp; omega) _⟩

set_option maxRecDepth 100000 in
set_option maxHeartbeats 1000000 in
theorem t20 (s : ByteArray) (e : Int) (w : World) (hT : Lib.Utf8Tabs 0 1 w) (hs : s.size ≤ 100000) (he : isEnc e = true) :
    Calls Tryd.prog 20 #[.string s, .int .i64 e] w fun e' w' => e' = .returned (.tuple #[.int .i64 (parts (nxOf e) s).length, .int .i64 0]) ∧ Below w.heap.size w w' := by
  have cc := c47 e w hT he
  have hsm := Lib.hid (decide_eq_false (show ¬ 100000 < s.size by omega))
  clear he
  go_enter Tryd.func20, Tryd.ntmps20
  go_wp2_with fail
  refine cc.mono ?_
  rintro e' w1 ⟨⟨c, rfl, kv, kn, kc, lb, rfl, hcod⟩, hb1⟩
  go_wp2_with fail
  refine (c48_1 s false hsm.out _ _ (by omega) (by simp) (by simp)).mono ?_
  rintro e' w2 ⟨rfl, rfl⟩
  have hB2 : Below w.heap.size w ((w1.alloc (.cells #[.func (.func kv) #[] #[], .func (.func kn) #[] lb, .func (.func kc) #[] lb] 64)).alloc (.cells #[.string s] 9)) := (hb1.alloc hb1.size _).alloc (by have := hb1.size; simp; omega) _
  have hB1 : Below w1.heap.size w1 ((w1.alloc (.cells #[.func (.func kv) #[] #[], .func (.func kn) #[] lb, .func (.func kc) #[] lb] 64)).alloc (.cells #[.string s] 9)) := ((Below.refl _ w1).alloc (Nat.le_refl _) _).alloc (by simp) _
  have c5 := c52 hcod.toNextOk (.func (.func kv) #[] #[]) (.func (.func kc) #[] lb) s hs _ hB1 (by simp; omega)
  have hpl := parts_length (nxOf_ok e) s.size s rfl
  go_wp2_with fail
  refine c5.mono ?_
  rintro e' w3 ⟨v, rfl, hrow, hb3⟩
  obtain ⟨g, cap, rfl⟩ := ownsRow_succ hrow
  have hle : ((parts (nxOf e) s).length : Int) ≤ 100000 := by omega
  go_wp2
  go_ret2
  exact ⟨by simp, hB2.trans (hb3.mono hB2.size)⟩

set_option maxRecDepth 100000 in
set_option maxHeartbeats 1000000 in
theorem t16_arg (s : ByteArray) (e : Int) (w : World) (hT : Lib.Utf8Tabs 0 1 w) (hs : s.size ≤ 9223372036854775807) (hbad : isEnc e = false ∨ 100000 < s.size) :
    Calls Tryd.prog 16 #[.string s, .int .i64 e] w fun e' w' => e' = .returned (.tuple #[.bool false, .int .i64 1]) ∧ Below w.heap.size w w' := by
  cases he : isEnc e with
  | false =>
    have cc := c47_no e w he
    clear he hbad
    go_enter Tryd.func16, Tryd.ntmps16
    go_wp2_with (go_at_call 47; refine cc.mono ?_; rintro e' w1 ⟨rfl, hb1⟩)
    go_ret2
    exact ⟨rfl, hb1.alloc hb1.size _⟩
  | true =>
    have cc := c47 e w hT he
    have hbig : 100000 < s.size := by
      rcases hbad with h | h
      · rw [he] at h; cases h
      · exact h
    have hbig' := Lib.hid (decide_eq_true hbig)
    clear he hbad hbig
    go_enter Tryd.func16, Tryd.ntmps16
    go_wp2_with fail
    refine cc.mono ?_
    rintro e' w1 ⟨⟨c, rfl, kv, kn, kc, lb, rfl, hcod⟩, hb1⟩
    go_wp2_with fail
    refine (c48_1 s true hbig'.out _ _ hs (by simp) (by simp)).mono ?_
    rintro e' w2 ⟨rfl, rfl⟩
    go_wp2
    go_ret2
    exact ⟨rfl, (hb1.alloc hb1.size _).alloc (by have := hb1.size; simp; omega) _⟩

set_option maxRecDepth 100000 in
set_option maxHeartbeats 1000000 in
theorem t16 (s : ByteArray) (e : Int) (w : World) (hT : Lib.Utf8Tabs 0 1 w) (hs : s.size ≤ 100000) (he : isEnc e = true) :
    Calls Tryd.prog 16 #[.string s, .int .i64 e] w fun e' w' => e' = .returned (.tuple #[.bool (vldOf e s), .int .i64 0]) ∧ Below w.heap.size w w' := by
  have cc := c47 e w hT he
  have hsm := Lib.hid (decide_eq_false (show ¬ 100000 < s.size by omega))
  clear he
  go_enter Tryd.func16, Tryd.ntmps16
  go_wp2_with fail
  refine cc.mono ?_
  rintro e' w1 ⟨⟨c, rfl, kv, kn, kc, lb, rfl, hcod⟩, hb1⟩
  go_wp2_with fail
  refine (c48_1 s false hsm.out _ _ (by omega) (by simp) (by simp)).mono ?_
  rintro e' w2 ⟨rfl, rfl⟩
  have hB2 : Below w.heap.size w ((w1.alloc (.cells #[.func (.func kv) #[] #[], .func (.func kn) #[] lb, .func (.func kc) #[] lb] 64)).alloc (.cells #[.string s] 9)) := (hb1.alloc hb1.size _).alloc (by have := hb1.size; simp; omega) _
  have hB1 : Below w1.heap.size w1 ((w1.alloc (.cells #[.func (.func kv) #[] #[], .func (.func kn) #[] lb, .func (.func kc) #[] lb] 64)).alloc (.cells #[.string s] 9)) := ((Below.refl _ w1).alloc (Nat.le_refl _) _).alloc (by simp) _
  have c5 := hcod.valid _ s hB1 (by omega)
  have hent := hcod.entersV
  go_wp2_with fail
  refine c5.mono ?_
  rintro e' w3 ⟨rfl, hb3⟩
  go_wp2
  go_ret2
  exact ⟨rfl, hB2.trans (hb3.mono hB2.size)⟩
end Go.Proofs.YtjdnpgknamhnlaaDoor
