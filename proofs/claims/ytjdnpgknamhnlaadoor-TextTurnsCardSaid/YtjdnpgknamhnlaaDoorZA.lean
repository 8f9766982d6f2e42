/- The law TextTurns: Reverse is that of 1.4, of every string and encoding; twice it is the string, if that is valid. -/
import Derived.Test.YtjdnpgknamhnlaaDoorZ
namespace Go.Proofs.YtjdnpgknamhnlaaDoor
open Go Go.RowKit Go.Shelf

set_option maxRecDepth 100000 in
set_option maxHeartbeats 2000000 in
theorem c10_big (s : ByteArray) (e : Int) (w : World) (hT : Lib.Utf8Tabs 0 1 w) (hb : 3000 < s.size) :
    Calls Tryd.prog 10 #[.string s, .int .i64 e] w fun e' w' => e' = .returned (.bool true) ∧ Below w.heap.size w w' := by
  have cE := c15 w hT
  clear hT
  have hbi : (3000 : Int) < s.size := by omega
  have d : decide ((3000 : Int) < s.size) = true := by simp; omega
  go_enter Tryd.func10, Tryd.ntmps10
  go_wp2_with fail
  refine cE.mono ?_
  rintro e1 w2 ⟨rfl, hb2⟩
  go_wp2
  go_ret
  exact ⟨rfl, hb2⟩

set_option maxRecDepth 100000 in
set_option maxHeartbeats 2000000 in
theorem c10_arg (s : ByteArray) (e : Int) (w : World) (hT : Lib.Utf8Tabs 0 1 w) (hs : s.size ≤ 3000) (he : isEnc e = false) :
    Calls Tryd.prog 10 #[.string s, .int .i64 e] w fun e' w' => e' = .returned (.bool true) ∧ Below w.heap.size w w' := by
  have HT := Lib.hid hT
  have cA := t39_arg s e w hT (by omega) (.inl he)
  have cB : ∀ W, Calls Tryd.prog 40 #[.string s, .int .i64 e] W _ := fun W => r40_arg s e W (by omega) (.inl he)
  have cC : ∀ W, Below w.heap.size w W → Calls Tryd.prog 16 #[.string s, .int .i64 e] W _ := fun W hb => t16_arg s e W (Utf8Tabs_below HT.out hb) (by omega) (.inl he)
  have cE : ∀ W, Below w.heap.size w W → Calls Tryd.prog 15 #[] W _ := fun W hb => c15 W (Utf8Tabs_below HT.out hb)
  have HB := Lib.hid cB
  have HC := Lib.hid cC
  have HE := Lib.hid cE
  clear hT he cB cC cE
  have hbi : (s.size : Int) ≤ 3000 := by omega
  have d : decide ((3000 : Int) < s.size) = false := by simp; omega
  go_enter Tryd.func10, Tryd.ntmps10
  go_wp2_with fail
  refine cA.mono ?_
  rintro e1 w2 ⟨rfl, hb2⟩
  go_wp2_with fail
  refine (HB.out _).mono ?_
  rintro e1 w3 ⟨rfl, hb3⟩
  have hB3 := hb2.trans (hb3.mono hb2.size)
  go_wp2_with fail
  refine (HC.out _ hB3).mono ?_
  rintro e1 w4 ⟨rfl, hb4⟩
  have hB4 := hB3.trans (hb4.mono hB3.size)
  go_wp2_with fail
  refine (HE.out _ hB4).mono ?_
  rintro e1 w5 ⟨rfl, hb5⟩
  go_wp2
  go_ret
  exact ⟨rfl, hB4.trans (hb5.mono hB4.size)⟩

set_option maxRecDepth 100000 in
set_option maxHeartbeats 2000000 in
theorem c10_good (s : ByteArray) (e : Int) (w : World) (hT : Lib.Utf8Tabs 0 1 w) (hs : s.size ≤ 3000) (he : isEnc e = true) :
    Calls Tryd.prog 10 #[.string s, .int .i64 e] w fun e' w' => e' = .returned (.bool true) ∧ Below w.heap.size w w' := by
  have HT := Lib.hid hT
  have cA := t39 s e w hT (by omega) he
  have cB : ∀ W, Calls Tryd.prog 40 #[.string s, .int .i64 e] W _ := fun W => r40 s e W (by omega) he
  have cC : ∀ W, Below w.heap.size w W → Calls Tryd.prog 16 #[.string s, .int .i64 e] W _ := fun W hb => t16 s e W (Utf8Tabs_below HT.out hb) (by omega) he
  have cD : vldOf e s = true → ∀ W, Below w.heap.size w W → Calls Tryd.prog 39 #[.string (turn (nxOf e) s), .int .i64 e] W fun e' w' => e' = .returned (.tuple #[.string s, .int .i64 0]) ∧ Below W.heap.size W w' := fun hv W hb => by
    have := t39 (turn (nxOf e) s) e W (Utf8Tabs_below HT.out hb) (by rw [turn_size (nxOf_ok e)]; omega) he
    rw [turn_turn e s (vldOf_parts e s hv)] at this
    exact this
  have cE : ∀ W, Below w.heap.size w W → Calls Tryd.prog 15 #[] W _ := fun W hb => c15 W (Utf8Tabs_below HT.out hb)
  generalize turn (nxOf e) s = t at cA cB cD
  have HB := Lib.hid cB
  have HC := Lib.hid cC
  have HD := Lib.hid cD
  have HE := Lib.hid cE
  clear hT he cB cC cD cE
  have hbi : (s.size : Int) ≤ 3000 := by omega
  have d : decide ((3000 : Int) < s.size) = false := by simp; omega
  cases hv : vldOf e s with
  | false =>
    rw [hv] at HC HD
    clear hv HD
    go_enter Tryd.func10, Tryd.ntmps10
    go_wp2_with fail
    refine cA.mono ?_
    rintro e1 w2 ⟨rfl, hb2⟩
    go_wp2_with fail
    refine (HB.out _).mono ?_
    rintro e1 w3 ⟨rfl, hb3⟩
    have hB3 := hb2.trans (hb3.mono hb2.size)
    go_wp2_with fail
    refine (HC.out _ hB3).mono ?_
    rintro e1 w4 ⟨rfl, hb4⟩
    have hB4 := hB3.trans (hb4.mono hB3.size)
    go_wp2_with fail
    refine (HE.out _ hB4).mono ?_
    rintro e1 w5 ⟨rfl, hb5⟩
    go_wp2
    go_ret
    exact ⟨rfl, hB4.trans (hb5.mono hB4.size)⟩
  | true =>
    have hd := HD.out hv
    rw [hv] at HC
    have HD2 := Lib.hid hd
    clear hv HD hd
    go_enter Tryd.func10, Tryd.ntmps10
    go_wp2_with fail
    refine cA.mono ?_
    rintro e1 w2 ⟨rfl, hb2⟩
    go_wp2_with fail
    refine (HB.out _).mono ?_
    rintro e1 w3 ⟨rfl, hb3⟩
    have hB3 := hb2.trans (hb3.mono hb2.size)
    go_wp2_with fail
    refine (HC.out _ hB3).mono ?_
    rintro e1 w4 ⟨rfl, hb4⟩
    have hB4 := hB3.trans (hb4.mono hB3.size)
    go_wp2_with fail
    refine (HD2.out _ hB4).mono ?_
    rintro e1 w5 ⟨rfl, hb5⟩
    have hB5 := hB4.trans (hb5.mono hB4.size)
    go_wp2_with fail
    refine (HE.out _ hB5).mono ?_
    rintro e1 w6 ⟨rfl, hb6⟩
    go_wp2
    go_ret
    exact ⟨rfl, hB5.trans (hb6.mono hB5.size)⟩

theorem c10 (s : ByteArray) (e : Int) (w : World) (hT : Lib.Utf8Tabs 0 1 w) :
    Calls Tryd.prog 10 #[.string s, .int .i64 e] w fun e' w' => e' = .returned (.bool true) ∧ Below w.heap.size w w' := by
  by_cases hb : 3000 < s.size
  · exact c10_big s e w hT hb
  · cases he : isEnc e with
    | false => exact c10_arg s e w hT (by omega) he
    | true => exact c10_good s e w hT (by omega) he
end Go.Proofs.YtjdnpgknamhnlaaDoor
