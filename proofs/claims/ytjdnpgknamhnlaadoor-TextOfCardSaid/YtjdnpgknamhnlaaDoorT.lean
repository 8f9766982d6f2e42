/- Contract of text.Slice. -/
import Derived.Test.YtjdnpgknamhnlaaDoorN
import Derived.Deep.RegionWith
namespace Go.Proofs.YtjdnpgknamhnlaaDoor
open Go Go.RowKit Go.Shelf

set_option maxRecDepth 100000 in
set_option maxHeartbeats 1000000 in
theorem t27_arg (s : ByteArray) (e : Int) (i n : Int) (w : World) (hT : Lib.Utf8Tabs 0 1 w) (hs : s.size ≤ 9223372036854775807) (hbad : isEnc e = false ∨ 100000 < s.size) :
    Calls Tryd.prog 27 #[.string s, .int .i64 e, .int .i64 i, .int .i64 n] w fun e' w' => e' = .returned (.tuple #[.string ⟨#[]⟩, .int .i64 1]) ∧ Below w.heap.size w w' := by
  cases he : isEnc e with
  | false =>
    have cc := c47_no e w he
    clear he hbad
    go_enter Tryd.func27, Tryd.ntmps27
    go_wp2_with (go_at_call 47; refine cc.mono ?_; rintro e' w1 ⟨rfl, hb1⟩)
    go_ret2
    exact ⟨rfl, hb1.alloc hb1.size _⟩
  | true =>
    have cc := c47 e w hT he
    have hbig : 100000 < s.size := by
      rcases hbad with h | h
      · rw [he] at h; cases h
      · exact h
    have hbig' := Lib.hid (decide_eq_true hbig)
    clear he hbad hbig
    go_enter Tryd.func27, Tryd.ntmps27
    go_wp2_with fail
    refine cc.mono ?_
    rintro e' w1 ⟨⟨c, rfl, kv, kn, kc, lb, rfl, hcod⟩, hb1⟩
    go_wp2_with fail
    refine (c48_1 s true hbig'.out _ _ hs (by simp) (by simp)).mono ?_
    rintro e' w2 ⟨rfl, rfl⟩
    go_wp2
    go_ret2
    exact ⟨rfl, (hb1.alloc hb1.size _).alloc (by have := hb1.size; simp; omega) _⟩

set_option maxRecDepth 100000 in
set_option maxHeartbeats 1000000 in
theorem t27_neg (s : ByteArray) (e i n : Int) (w : World) (hT : Lib.Utf8Tabs 0 1 w) (hs : s.size ≤ 100000) (he : isEnc e = true) (hn : n < 0) :
    Calls Tryd.prog 27 #[.string s, .int .i64 e, .int .i64 i, .int .i64 n] w fun e' w' => e' = .returned (.tuple #[.string ⟨#[]⟩, .int .i64 1]) ∧ Below w.heap.size w w' := by
  have dn : decide (n < 0) = true := by simp [hn]
  have cc := c47 e w hT he
  have hsm := Lib.hid (decide_eq_false (show ¬ 100000 < s.size by omega))
  clear he
  go_enter Tryd.func27, Tryd.ntmps27
  go_wp2_with fail
  refine cc.mono ?_
  rintro e' w1 ⟨⟨c, rfl, kv, kn, kc, lb, rfl, hcod⟩, hb1⟩
  go_wp2_with fail
  refine (c48_1 s false hsm.out _ _ (by omega) (by simp) (by simp)).mono ?_
  rintro e' w2 ⟨rfl, rfl⟩
  have hB2 : Below w.heap.size w ((w1.alloc (.cells #[.func (.func kv) #[] #[], .func (.func kn) #[] lb, .func (.func kc) #[] lb] 64)).alloc (.cells #[.string s] 9)) := (hb1.alloc hb1.size _).alloc (by have := hb1.size; simp; omega) _
  have hB1 : Below w1.heap.size w1 ((w1.alloc (.cells #[.func (.func kv) #[] #[], .func (.func kn) #[] lb, .func (.func kc) #[] lb] 64)).alloc (.cells #[.string s] 9)) := ((Below.refl _ w1).alloc (Nat.le_refl _) _).alloc (by simp) _
  go_wp2
  go_ret2
  exact ⟨rfl, hB2⟩

set_option maxRecDepth 100000 in
set_option maxHeartbeats 1000000 in
theorem t27_out (s : ByteArray) (e i n : Int) (w : World) (hT : Lib.Utf8Tabs 0 1 w) (hs : s.size ≤ 100000) (he : isEnc e = true) (hn : 0 ≤ n) (hi1 : -9223372036854775808 ≤ i) (hi2 : i ≤ 9223372036854775807)
    (hj : (if i < 0 then i + (parts (nxOf e) s).length else i) < 0 ∨ ((parts (nxOf e) s).length : Int) < (if i < 0 then i + (parts (nxOf e) s).length else i)) :
    Calls Tryd.prog 27 #[.string s, .int .i64 e, .int .i64 i, .int .i64 n] w fun e' w' => e' = .returned (.tuple #[.string ⟨#[]⟩, .int .i64 3]) ∧ Below w.heap.size w w' := by
  have dn : decide (n < 0) = false := by simp; omega
  have hj' := Lib.hid hj
  clear hj
  have cc := c47 e w hT he
  have hsm := Lib.hid (decide_eq_false (show ¬ 100000 < s.size by omega))
  clear he
  go_enter Tryd.func27, Tryd.ntmps27
  go_wp2_with fail
  refine cc.mono ?_
  rintro e' w1 ⟨⟨c, rfl, kv, kn, kc, lb, rfl, hcod⟩, hb1⟩
  go_wp2_with fail
  refine (c48_1 s false hsm.out _ _ (by omega) (by simp) (by simp)).mono ?_
  rintro e' w2 ⟨rfl, rfl⟩
  have hB2 : Below w.heap.size w ((w1.alloc (.cells #[.func (.func kv) #[] #[], .func (.func kn) #[] lb, .func (.func kc) #[] lb] 64)).alloc (.cells #[.string s] 9)) := (hb1.alloc hb1.size _).alloc (by have := hb1.size; simp; omega) _
  have hB1 : Below w1.heap.size w1 ((w1.alloc (.cells #[.func (.func kv) #[] #[], .func (.func kn) #[] lb, .func (.func kc) #[] lb] 64)).alloc (.cells #[.string s] 9)) := ((Below.refl _ w1).alloc (Nat.le_refl _) _).alloc (by simp) _
  have c5 := c52' hcod.toNextOk (.func (.func kv) #[] #[]) (.func (.func kc) #[] lb) s hs _ hB1 (by simp; omega)
  have hpl := parts_length (nxOf_ok e) s.size s rfl
  have hple : ((parts (nxOf e) s).length : Int) ≤ 100000 := by omega
  go_wp2_with fail
  refine c5.mono ?_
  rintro e' w3 ⟨g, cap, rfl, hg1, hg2, hcell, hb3⟩
  clear hcell
  have cF := c57 i (parts (nxOf e) s).length w3 hi1 hi2 (by omega) hple
  have hB3 := hB2.trans (hb3.mono hB2.size)
  obtain ⟨j, hj⟩ : ∃ j, (if i < 0 then i + (parts (nxOf e) s).length else i) = j := ⟨_, rfl⟩
  rw [hj] at cF
  have hj2 := hj'.out
  rw [hj] at hj2
  clear hj hj'
  go_wp2_with fail
  refine cF.mono ?_
  rintro e' w4 ⟨rfl, rfl⟩
  by_cases h0 : j < 0
  · have d0 : decide (j < 0) = true := by simp [h0]
    clear hj2
    go_wp2
    go_ret2
    exact ⟨rfl, hB3⟩
  · have h1 : ((parts (nxOf e) s).length : Int) < j := by omega
    have d0 : decide (j < 0) = false := by simp; omega
    clear hj2
    go_wp2
    go_ret2
    exact ⟨rfl, hB3⟩

set_option maxRecDepth 100000 in
set_option maxHeartbeats 1000000 in
theorem t27 (s : ByteArray) (e i n : Int) (w : World) (hT : Lib.Utf8Tabs 0 1 w) (hs : s.size ≤ 100000) (he : isEnc e = true) (hn : 0 ≤ n) (_hn2 : n ≤ 9223372036854775807) (hi1 : -9223372036854775808 ≤ i) (hi2 : i ≤ 9223372036854775807)
    (k : Nat) (hk : k ≤ (parts (nxOf e) s).length) (hj : (if i < 0 then i + (parts (nxOf e) s).length else i) = k) (m : Nat) (hm : (min n ((parts (nxOf e) s).length - k)) = (m : Int)) :
    Calls Tryd.prog 27 #[.string s, .int .i64 e, .int .i64 i, .int .i64 n] w fun e' w' => e' = .returned (.tuple #[.string (s.extract (offN (parts (nxOf e) s) k) (offN (parts (nxOf e) s) (k + m))), .int .i64 0]) ∧ Below w.heap.size w w' := by
  have dn : decide (n < 0) = false := by simp; omega
  have hle := parts_le (nxOf_ok e) s (k + m)
  have hmn := offN_mono (parts (nxOf e) s) (Nat.le_add_right k m)
  have hj' := Lib.hid hj
  have hm' := Lib.hid hm
  have hkm : k + m ≤ (parts (nxOf e) s).length := by omega
  clear hj hm
  have cc := c47 e w hT he
  have hsm := Lib.hid (decide_eq_false (show ¬ 100000 < s.size by omega))
  clear he
  go_enter Tryd.func27, Tryd.ntmps27
  go_wp2_with fail
  refine cc.mono ?_
  rintro e' w1 ⟨⟨c, rfl, kv, kn, kc, lb, rfl, hcod⟩, hb1⟩
  go_wp2_with fail
  refine (c48_1 s false hsm.out _ _ (by omega) (by simp) (by simp)).mono ?_
  rintro e' w2 ⟨rfl, rfl⟩
  have hB2 : Below w.heap.size w ((w1.alloc (.cells #[.func (.func kv) #[] #[], .func (.func kn) #[] lb, .func (.func kc) #[] lb] 64)).alloc (.cells #[.string s] 9)) := (hb1.alloc hb1.size _).alloc (by have := hb1.size; simp; omega) _
  have hB1 : Below w1.heap.size w1 ((w1.alloc (.cells #[.func (.func kv) #[] #[], .func (.func kn) #[] lb, .func (.func kc) #[] lb] 64)).alloc (.cells #[.string s] 9)) := ((Below.refl _ w1).alloc (Nat.le_refl _) _).alloc (by simp) _
  have c5 := c52' hcod.toNextOk (.func (.func kv) #[] #[]) (.func (.func kc) #[] lb) s hs _ hB1 (by simp; omega)
  have hpl := parts_length (nxOf_ok e) s.size s rfl
  have hple : ((parts (nxOf e) s).length : Int) ≤ 100000 := by omega
  go_wp2_with fail
  refine c5.mono ?_
  rintro e' w3 ⟨g, cap, rfl, hg1, hg2, hcell, hb3⟩
  have hk0 := hcell k (by omega)
  have hk1 := hcell (k + m) (by omega)
  clear hcell
  have cF := c57 i (parts (nxOf e) s).length w3 hi1 hi2 (by omega) hple
  rw [hj'.out] at cF
  have hB3 := hB2.trans (hb3.mono hB2.size)
  obtain ⟨a, ha⟩ : ∃ a, offN (parts (nxOf e) s) k = a := ⟨_, rfl⟩
  obtain ⟨b, hb⟩ : ∃ b, offN (parts (nxOf e) s) (k + m) = b := ⟨_, rfl⟩
  rw [ha] at hk0 hmn
  rw [hb] at hk1 hmn hle
  have Ha := Lib.hid ha
  have Hb := Lib.hid hb
  clear ha hb
  have hmn' : a ≤ b := hmn
  clear hmn
  go_wp2_with fail
  refine cF.mono ?_
  rintro e' w4 ⟨rfl, rfl⟩
  have hkl : (k : Int) ≤ (parts (nxOf e) s).length := by omega
  have hz : (s.extract a b).size ≤ 281474976710656 := by simp; omega
  have hi0 : (k : Int) < (parts (nxOf e) s).length + 1 := by omega
  have hi1' : (k : Int) + m < (parts (nxOf e) s).length + 1 := by omega
  have hab : (a : Int) ≤ b := by omega
  have hbs : (b : Int) ≤ s.size := by omega
  have hmm : min n (((parts (nxOf e) s).length : Int) - k) = (m : Int) := hm'.out
  go_wp2
  have hw2 : (0 : Int) ≤ (k : Int) + m := by omega
  have hw3 : ((k : Int) + m).toNat = k + m := by omega
  go_region_with ((go_at_call 58; refine (c58 _ _ hz).mono ?_; rintro e w5 ⟨rfl, hb5⟩))
  all_goals go_wp2
  all_goals (refine bodyPost_ret (v := .tuple #[.string (s.extract a b), .int .i64 0]) ?_ rfl ⟨by rw [Ha.out, Hb.out], ?_⟩)
  all_goals first | (simp [results, Tryd.results27, go_sem]; done) | exact hB3.drew.trans (hb5.mono hB3.size)
end Go.Proofs.YtjdnpgknamhnlaaDoor
