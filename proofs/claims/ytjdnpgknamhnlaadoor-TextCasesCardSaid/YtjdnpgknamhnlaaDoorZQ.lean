/- The law TextCases: Upper and Lower are those of 1.4, of every string and encoding; each of the other one is itself again, and lengths stay. -/
import Derived.Test.YtjdnpgknamhnlaaDoorZO
import Derived.Test.YtjdnpgknamhnlaaDoorZP
namespace Go.Proofs.YtjdnpgknamhnlaaDoor
open Go Go.RowKit Go.Shelf

set_option maxRecDepth 100000 in
set_option maxHeartbeats 1000000 in
theorem t61_arg (fn : Nat) (s : ByteArray) (e : Int) (w : World) (_hT : Lib.Utf8Tabs 0 1 w) (_hs : s.size ≤ 9223372036854775807) (hbad : isEnc e = false) :
    Calls Tryd.prog 61 #[.string s, .int .i64 e, .func (.func fn) #[] #[]] w fun e' w' => e' = .returned (.tuple #[.string ⟨#[]⟩, .int .i64 1]) ∧ Below w.heap.size w w' := by
  have cc := c47_no e (w.alloc (.cells #[.func (.func fn) #[] #[]] 90)) hbad
  clear hbad
  go_enter Tryd.func61, Tryd.ntmps61
  go_wp2_with fail
  refine cc.mono ?_
  rintro e' w1 ⟨rfl, hb1⟩
  rw [World.size_alloc] at hb1
  have hB1 : Below w.heap.size w w1 := ((Below.refl _ w).alloc (Nat.le_refl _) _).trans (hb1.mono (by omega))
  go_wp2
  go_ret2
  exact ⟨rfl, hB1.alloc hB1.size _⟩

set_option maxRecDepth 100000 in
theorem t35_arg (s : ByteArray) (e : Int) (w : World) (hT : Lib.Utf8Tabs 0 1 w) (hs : s.size ≤ 9223372036854775807) (hbad : isEnc e = false) :
    Calls Tryd.prog 35 #[.string s, .int .i64 e] w fun e' w' => e' = .returned (.tuple #[.string ⟨#[]⟩, .int .i64 1]) ∧ Below w.heap.size w w' := by
  have cc := t61_arg 62 s e w hT hs hbad
  clear hbad hT
  go_enter Tryd.func35, Tryd.ntmps35
  go_wp2_with fail
  refine cc.mono ?_
  rintro e' w1 ⟨rfl, hb1⟩
  go_wp2
  go_ret2
  exact ⟨rfl, hb1⟩

set_option maxRecDepth 100000 in
theorem t35 (s : ByteArray) (e : Int) (w : World) (hT : Lib.Utf8Tabs 0 1 w) (hs : s.size ≤ 100000) (he : isEnc e = true) :
    Calls Tryd.prog 35 #[.string s, .int .i64 e] w fun e' w' => e' = .returned (.tuple #[.string (caseS e upC s), .int .i64 0]) ∧ Below w.heap.size w w' := by
  have cc := t61 62 upC upC_ok (enters_of Tryd.func62 (by kernel_rfl) rfl) c62 s e w hT hs he
  clear he hT
  go_enter Tryd.func35, Tryd.ntmps35
  go_wp2_with fail
  refine cc.mono ?_
  rintro e' w1 ⟨rfl, hb1⟩
  go_wp2
  go_ret2
  exact ⟨rfl, hb1⟩

set_option maxRecDepth 100000 in
theorem t37_arg (s : ByteArray) (e : Int) (w : World) (hT : Lib.Utf8Tabs 0 1 w) (hs : s.size ≤ 9223372036854775807) (hbad : isEnc e = false) :
    Calls Tryd.prog 37 #[.string s, .int .i64 e] w fun e' w' => e' = .returned (.tuple #[.string ⟨#[]⟩, .int .i64 1]) ∧ Below w.heap.size w w' := by
  have cc := t61_arg 64 s e w hT hs hbad
  clear hbad hT
  go_enter Tryd.func37, Tryd.ntmps37
  go_wp2_with fail
  refine cc.mono ?_
  rintro e' w1 ⟨rfl, hb1⟩
  go_wp2
  go_ret2
  exact ⟨rfl, hb1⟩

set_option maxRecDepth 100000 in
theorem t37 (s : ByteArray) (e : Int) (w : World) (hT : Lib.Utf8Tabs 0 1 w) (hs : s.size ≤ 100000) (he : isEnc e = true) :
    Calls Tryd.prog 37 #[.string s, .int .i64 e] w fun e' w' => e' = .returned (.tuple #[.string (caseS e loC s), .int .i64 0]) ∧ Below w.heap.size w w' := by
  have cc := t61 64 loC loC_ok (enters_of Tryd.func64 (by kernel_rfl) rfl) c64 s e w hT hs he
  clear he hT
  go_enter Tryd.func37, Tryd.ntmps37
  go_wp2_with fail
  refine cc.mono ?_
  rintro e' w1 ⟨rfl, hb1⟩
  go_wp2
  go_ret2
  exact ⟨rfl, hb1⟩

set_option maxRecDepth 100000 in
set_option maxHeartbeats 2000000 in
theorem c9_big (s : ByteArray) (e : Int) (w : World) (hb : 3000 < s.size) (HE : Go.RowKit.Hid (∀ W, Below w.heap.size w W → Calls Tryd.prog 15 #[] W fun e' w' => e' = .returned (.bool true) ∧ Below W.heap.size W w')) :
    Calls Tryd.prog 9 #[.string s, .int .i64 e] w fun e' w' => e' = .returned (.bool true) ∧ Below w.heap.size w w' := by
  have hbi : (3000 : Int) < s.size := by omega
  have d : decide ((3000 : Int) < s.size) = true := by simp; omega
  have hB1 : Below w.heap.size w w := Below.refl _ _
  clear hb
  go_enter Tryd.func9, Tryd.ntmps9
  go_wp2_with fail
  refine (HE.out _ hB1).mono ?_
  rintro e1 w2 ⟨rfl, hb2⟩
  have hB2 := hB1.trans (hb2.mono hB1.size)
  go_wp2
  go_ret
  exact ⟨rfl, hB2⟩

set_option maxRecDepth 100000 in
set_option maxHeartbeats 4000000 in
theorem c9_no (s a c : ByteArray) (e r q : Int) (w : World) (hr : (r == 0) = false) (g1 : (s.size : Int) ≤ 3000)
    (HA : Go.RowKit.Hid (∀ W, Below w.heap.size w W → Calls Tryd.prog 35 #[.string s, .int .i64 e] W fun e' w' => e' = .returned (.tuple #[.string a, .int .i64 r]) ∧ Below W.heap.size W w'))
    (HB : Go.RowKit.Hid (∀ W, Calls Tryd.prog 36 #[.string s, .int .i64 e] W fun e' w' => e' = .returned (.tuple #[.string a, .int .i64 r]) ∧ Below W.heap.size W w'))
    (HC : Go.RowKit.Hid (∀ W, Below w.heap.size w W → Calls Tryd.prog 37 #[.string s, .int .i64 e] W fun e' w' => e' = .returned (.tuple #[.string c, .int .i64 q]) ∧ Below W.heap.size W w'))
    (HD : Go.RowKit.Hid (∀ W, Calls Tryd.prog 38 #[.string s, .int .i64 e] W fun e' w' => e' = .returned (.tuple #[.string c, .int .i64 q]) ∧ Below W.heap.size W w'))
    (HE : Go.RowKit.Hid (∀ W, Below w.heap.size w W → Calls Tryd.prog 15 #[] W fun e' w' => e' = .returned (.bool true) ∧ Below W.heap.size W w')) :
    Calls Tryd.prog 9 #[.string s, .int .i64 e] w fun e' w' => e' = .returned (.bool true) ∧ Below w.heap.size w w' := by
  have d : decide ((3000 : Int) < s.size) = false := by simp; omega
  have hB1 : Below w.heap.size w w := Below.refl _ _
  go_enter Tryd.func9, Tryd.ntmps9
  go_wp2_with fail
  refine (HA.out _ hB1).mono ?_
  rintro e1 w2 ⟨rfl, hb2⟩
  have hB2 := hB1.trans (hb2.mono hB1.size)
  go_wp2_with fail
  refine (HB.out _).mono ?_
  rintro e1 w3 ⟨rfl, hb3⟩
  have hB3 := hB2.trans (hb3.mono hB2.size)
  go_wp2_with fail
  refine (HC.out _ hB3).mono ?_
  rintro e1 w4 ⟨rfl, hb4⟩
  have hB4 := hB3.trans (hb4.mono hB3.size)
  go_wp2_with fail
  refine (HD.out _).mono ?_
  rintro e1 w5 ⟨rfl, hb5⟩
  have hB5 := hB4.trans (hb5.mono hB4.size)
  go_wp2_with fail
  refine (HE.out _ hB5).mono ?_
  rintro e1 w6 ⟨rfl, hb6⟩
  have hB6 := hB5.trans (hb6.mono hB5.size)
  go_wp2
  go_ret
  exact ⟨rfl, hB6⟩

set_option maxRecDepth 100000 in
set_option maxHeartbeats 4000000 in
theorem c9_yes (s a c : ByteArray) (e : Int) (w : World) (g1 : (s.size : Int) ≤ 3000) (hz : a.size = s.size)
    (HA : Go.RowKit.Hid (∀ W, Below w.heap.size w W → Calls Tryd.prog 35 #[.string s, .int .i64 e] W fun e' w' => e' = .returned (.tuple #[.string a, .int .i64 0]) ∧ Below W.heap.size W w'))
    (HB : Go.RowKit.Hid (∀ W, Calls Tryd.prog 36 #[.string s, .int .i64 e] W fun e' w' => e' = .returned (.tuple #[.string a, .int .i64 0]) ∧ Below W.heap.size W w'))
    (HC : Go.RowKit.Hid (∀ W, Below w.heap.size w W → Calls Tryd.prog 37 #[.string s, .int .i64 e] W fun e' w' => e' = .returned (.tuple #[.string c, .int .i64 0]) ∧ Below W.heap.size W w'))
    (HD : Go.RowKit.Hid (∀ W, Calls Tryd.prog 38 #[.string s, .int .i64 e] W fun e' w' => e' = .returned (.tuple #[.string c, .int .i64 0]) ∧ Below W.heap.size W w'))
    (HF : Go.RowKit.Hid (∀ W, Below w.heap.size w W → Calls Tryd.prog 35 #[.string c, .int .i64 e] W fun e' w' => e' = .returned (.tuple #[.string a, .int .i64 0]) ∧ Below W.heap.size W w'))
    (HG : Go.RowKit.Hid (∀ W, Below w.heap.size w W → Calls Tryd.prog 37 #[.string a, .int .i64 e] W fun e' w' => e' = .returned (.tuple #[.string c, .int .i64 0]) ∧ Below W.heap.size W w'))
    (HE : Go.RowKit.Hid (∀ W, Below w.heap.size w W → Calls Tryd.prog 15 #[] W fun e' w' => e' = .returned (.bool true) ∧ Below W.heap.size W w')) :
    Calls Tryd.prog 9 #[.string s, .int .i64 e] w fun e' w' => e' = .returned (.bool true) ∧ Below w.heap.size w w' := by
  have d : decide ((3000 : Int) < s.size) = false := by simp; omega
  have hB1 : Below w.heap.size w w := Below.refl _ _
  go_enter Tryd.func9, Tryd.ntmps9
  go_wp2_with fail
  refine (HA.out _ hB1).mono ?_
  rintro e1 w2 ⟨rfl, hb2⟩
  have hB2 := hB1.trans (hb2.mono hB1.size)
  go_wp2_with fail
  refine (HB.out _).mono ?_
  rintro e1 w3 ⟨rfl, hb3⟩
  have hB3 := hB2.trans (hb3.mono hB2.size)
  go_wp2_with fail
  refine (HC.out _ hB3).mono ?_
  rintro e1 w4 ⟨rfl, hb4⟩
  have hB4 := hB3.trans (hb4.mono hB3.size)
  go_wp2_with fail
  refine (HD.out _).mono ?_
  rintro e1 w5 ⟨rfl, hb5⟩
  have hB5 := hB4.trans (hb5.mono hB4.size)
  go_wp2_with fail
  refine (HF.out _ hB5).mono ?_
  rintro e1 w6 ⟨rfl, hb6⟩
  have hB6 := hB5.trans (hb6.mono hB5.size)
  go_wp2_with fail
  refine (HG.out _ hB6).mono ?_
  rintro e1 w7 ⟨rfl, hb7⟩
  have hB7 := hB6.trans (hb7.mono hB6.size)
  go_wp2_with fail
  refine (HE.out _ hB7).mono ?_
  rintro e1 w8 ⟨rfl, hb8⟩
  have hB8 := hB7.trans (hb8.mono hB7.size)
  go_wp2
  go_ret
  exact ⟨rfl, hB8⟩

theorem c9 (s : ByteArray) (e : Int) (w : World) (hT : Lib.Utf8Tabs 0 1 w) :
    Calls Tryd.prog 9 #[.string s, .int .i64 e] w fun e' w' => e' = .returned (.bool true) ∧ Below w.heap.size w w' := by
  have HE := Lib.hid (fun W (hb : Below w.heap.size w W) => c15 W (Utf8Tabs_below hT hb))
  by_cases hb : 3000 < s.size
  · exact c9_big s e w hb HE
  · have hs : s.size ≤ 3000 := by omega
    have g1 : (s.size : Int) ≤ 3000 := by omega
    cases he : isEnc e with
    | false =>
      have HA := Lib.hid (fun W (hb : Below w.heap.size w W) => t35_arg s e W (Utf8Tabs_below hT hb) (by omega) he)
      have HB := Lib.hid (fun W => r36_arg s e W (by omega) (.inl he))
      have HC := Lib.hid (fun W (hb : Below w.heap.size w W) => t37_arg s e W (Utf8Tabs_below hT hb) (by omega) he)
      have HD := Lib.hid (fun W => r38_arg s e W (by omega) (.inl he))
      exact c9_no s _ _ e 1 1 w rfl g1 HA HB HC HD HE
    | true =>
      have hz1 := (case_parts upC_ok e s).2
      have hz2 := (case_parts loC_ok e s).2
      have HA := Lib.hid (fun W (hb : Below w.heap.size w W) => t35 s e W (Utf8Tabs_below hT hb) (by omega) he)
      have HB := Lib.hid (fun W => r36 s e W (by omega) he)
      have HC := Lib.hid (fun W (hb : Below w.heap.size w W) => t37 s e W (Utf8Tabs_below hT hb) (by omega) he)
      have HD := Lib.hid (fun W => r38 s e W (by omega) he)
      have HF := Lib.hid (fun W (hb : Below w.heap.size w W) => t35 (caseS e loC s) e W (Utf8Tabs_below hT hb) (by omega) he)
      have HG := Lib.hid (fun W (hb : Below w.heap.size w W) => t37 (caseS e upC s) e W (Utf8Tabs_below hT hb) (by omega) he)
      rw [case_case loC_ok upC_ok up_lo] at HF
      rw [case_case upC_ok loC_ok lo_up] at HG
      exact c9_yes s _ _ e w g1 hz1 HA HB HC HD HF HG HE
end Go.Proofs.YtjdnpgknamhnlaaDoor
