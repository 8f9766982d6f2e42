/- Contracts of unicode/utf8.FullRuneInString and of brokenSize. -/
import Derived.Test.YtjdnpgknamhnlaaDoorA
import Derived.Test.YtjdnpgknamhnlaaDoorSpec
import Derived.Shelf.Unicode.DecodeAny
import Derived.Handy
import Derived.WalkSmall
namespace Go.Proofs.YtjdnpgknamhnlaaDoor
open Go Go.RowKit Go.Lib

def fullB (s : ByteArray) : Bool := fullN s.size (s.get! 0).toNat (s.get! 1).toNat (s.get! 2).toNat

theorem bret {a b : Bool} (h : a = b) : Ending.returned (.bool a) = Ending.returned (.bool b) := by rw [h]

set_option maxHeartbeats 2000000 in
set_option maxRecDepth 100000 in
theorem c93 (s : ByteArray) (w : World) (hT : Lib.Utf8Tabs 0 1 w) (h0 : 0 < s.size) :
    Calls Tryd.prog 93 #[.string s] w fun e w' => e = .returned (.bool (fullB s)) ∧ Below w.heap.size w w' := by
  obtain ⟨x0, hx0⟩ : ∃ x0, s.get! 0 = x0 := ⟨_, rfl⟩
  obtain ⟨x1, hx1⟩ : ∃ x1, s.get! 1 = x1 := ⟨_, rfl⟩
  obtain ⟨x2, hx2⟩ : ∃ x2, s.get! 2 = x2 := ⟨_, rfl⟩
  have hz0 : (0 : Int) < (s.size : Int) := by omega
  have hz0' : ((s.size : Int) == 0) = false := by rw [beq_eq_false_iff_ne]; omega
  have hs0 : s[0]'(by omega) = x0 := by rw [← hx0]; exact (Utf8W.get!_of_lt s 0 (by omega)).symm
  have l0 := x0.toNat_lt
  have hc0 := hT.1 x0.toNat (by omega)
  unfold fullB fullN
  rw [hx0, hx1, hx2]
  rcases Lib.firstT_cases x0.toNat with hX | hX | hX | hX | hX | hX | hX | hX | hX
  · rw [hX] at hc0 ⊢
    clear hT hX
    go_enter Tryd.func93, Tryd.ntmps93
    go_wp2
    go_ret
    exact ⟨rfl, Below.refl _ _⟩
  · rw [hX] at hc0 ⊢
    clear hT hX
    have hz1 : (1 : Int) ≤ (s.size : Int) := by omega
    go_enter Tryd.func93, Tryd.ntmps93
    go_wp2
    go_ret
    exact ⟨bret (by simp; omega), Below.refl _ _⟩
  · rw [hX] at hc0 ⊢
    have ha0 := (hT.2 0 (by omega)).1
    have ha1 := (hT.2 0 (by omega)).2
    simp only [accLo, accHi, Nat.reduceMul, Nat.reduceAdd, Nat.reduceEqDiff, if_true, if_false, Nat.reduceMod, Nat.reduceDiv] at ha0 ha1 ⊢
    clear hT hX
    by_cases hn : 2 ≤ s.size
    · have hz1 : (2 : Int) ≤ (s.size : Int) := by omega
      go_enter Tryd.func93, Tryd.ntmps93
      go_wp2
      go_ret
      exact ⟨bret (by simp; omega), Below.refl _ _⟩
    · have hz1 : (s.size : Int) < 2 := by omega
      have hz2 : (s.size : Int) ≤ 1 := by omega
      have hz3 : (s.size : Int) ≤ 2 := by omega
      have d1 : decide ((1 : Int) < s.size) = false := by simp; omega
      have d2 : decide ((2 : Int) < s.size) = false := by simp; omega
      go_enter Tryd.func93, Tryd.ntmps93
      go_wp2
      go_quiet (fail)
      go_wp2
      go_ret
      exact ⟨bret (by simp; omega), below_drewN ((Below.refl _ _).alloc (Nat.le_refl _) _) _⟩
  · rw [hX] at hc0 ⊢
    have ha0 := (hT.2 1 (by omega)).1
    have ha1 := (hT.2 1 (by omega)).2
    simp only [accLo, accHi, Nat.reduceMul, Nat.reduceAdd, Nat.reduceEqDiff, if_true, if_false, Nat.reduceMod, Nat.reduceDiv] at ha0 ha1 ⊢
    clear hT hX
    by_cases hn : 3 ≤ s.size
    · have hz1 : (3 : Int) ≤ (s.size : Int) := by omega
      go_enter Tryd.func93, Tryd.ntmps93
      go_wp2
      go_ret
      exact ⟨bret (by simp; omega), Below.refl _ _⟩
    have hz1 : (s.size : Int) < 3 := by omega
    by_cases hn1 : s.size = 1
    · have hz2 : (s.size : Int) ≤ 1 := by omega
      have hz3 : (s.size : Int) ≤ 2 := by omega
      have d1 : decide ((1 : Int) < s.size) = false := by simp; omega
      have d2 : decide ((2 : Int) < s.size) = false := by simp; omega
      have hn1' := Lib.hid hn1
      clear hn1
      go_enter Tryd.func93, Tryd.ntmps93
      go_wp2
      go_quiet (fail)
      go_wp2
      go_ret
      have := hn1'.out
      exact ⟨bret (by simp; omega), below_drewN ((Below.refl _ _).alloc (Nat.le_refl _) _) _⟩
    have hz2 : (1 : Int) < (s.size : Int) := by omega
    have d1 : decide ((1 : Int) < s.size) = true := by simp; omega
    have hs1 : s[1]'(by omega) = x1 := by rw [← hx1]; exact (Utf8W.get!_of_lt s 1 (by omega)).symm
    have l1 := x1.toNat_lt
    by_cases hA : x1.toNat < 160
    · have e1 : (x1.toNat : Int) < 160 := by omega
      have e2 : decide ((x1.toNat : Int) < 160) = true := by simp; omega
      go_enter Tryd.func93, Tryd.ntmps93
      go_wp2
      go_quiet (fail)
      go_wp2
      go_ret
      exact ⟨bret (by simp; omega), below_drewN ((Below.refl _ _).alloc (Nat.le_refl _) _) _⟩
    have e1 : (160 : Int) ≤ (x1.toNat : Int) := by omega
    have e2 : decide ((x1.toNat : Int) < 160) = false := by simp; omega
    by_cases hB : 191 < x1.toNat
    · have e3 : (191 : Int) < (x1.toNat : Int) := by omega
      have e4 : decide ((191 : Int) < (x1.toNat : Int)) = true := by simp; omega
      go_enter Tryd.func93, Tryd.ntmps93
      go_wp2
      go_quiet (fail)
      go_wp2
      go_ret
      exact ⟨bret (by simp; omega), below_drewN ((Below.refl _ _).alloc (Nat.le_refl _) _) _⟩
    have e3 : (x1.toNat : Int) ≤ 191 := by omega
    have e4 : decide ((191 : Int) < (x1.toNat : Int)) = false := by simp; omega
    have hz3 : (s.size : Int) ≤ 2 := by omega
    have d2 : decide ((2 : Int) < s.size) = false := by simp; omega
    go_enter Tryd.func93, Tryd.ntmps93
    go_wp2
    go_quiet (fail)
    go_wp2
    go_ret
    exact ⟨bret (by simp; omega), below_drewN ((Below.refl _ _).alloc (Nat.le_refl _) _) _⟩
  · rw [hX] at hc0 ⊢
    have ha0 := (hT.2 0 (by omega)).1
    have ha1 := (hT.2 0 (by omega)).2
    simp only [accLo, accHi, Nat.reduceMul, Nat.reduceAdd, Nat.reduceEqDiff, if_true, if_false, Nat.reduceMod, Nat.reduceDiv] at ha0 ha1 ⊢
    clear hT hX
    by_cases hn : 3 ≤ s.size
    · have hz1 : (3 : Int) ≤ (s.size : Int) := by omega
      go_enter Tryd.func93, Tryd.ntmps93
      go_wp2
      go_ret
      exact ⟨bret (by simp; omega), Below.refl _ _⟩
    have hz1 : (s.size : Int) < 3 := by omega
    by_cases hn1 : s.size = 1
    · have hz2 : (s.size : Int) ≤ 1 := by omega
      have hz3 : (s.size : Int) ≤ 2 := by omega
      have d1 : decide ((1 : Int) < s.size) = false := by simp; omega
      have d2 : decide ((2 : Int) < s.size) = false := by simp; omega
      have hn1' := Lib.hid hn1
      clear hn1
      go_enter Tryd.func93, Tryd.ntmps93
      go_wp2
      go_quiet (fail)
      go_wp2
      go_ret
      have := hn1'.out
      exact ⟨bret (by simp; omega), below_drewN ((Below.refl _ _).alloc (Nat.le_refl _) _) _⟩
    have hz2 : (1 : Int) < (s.size : Int) := by omega
    have d1 : decide ((1 : Int) < s.size) = true := by simp; omega
    have hs1 : s[1]'(by omega) = x1 := by rw [← hx1]; exact (Utf8W.get!_of_lt s 1 (by omega)).symm
    have l1 := x1.toNat_lt
    by_cases hA : x1.toNat < 128
    · have e1 : (x1.toNat : Int) < 128 := by omega
      have e2 : decide ((x1.toNat : Int) < 128) = true := by simp; omega
      go_enter Tryd.func93, Tryd.ntmps93
      go_wp2
      go_quiet (fail)
      go_wp2
      go_ret
      exact ⟨bret (by simp; omega), below_drewN ((Below.refl _ _).alloc (Nat.le_refl _) _) _⟩
    have e1 : (128 : Int) ≤ (x1.toNat : Int) := by omega
    have e2 : decide ((x1.toNat : Int) < 128) = false := by simp; omega
    by_cases hB : 191 < x1.toNat
    · have e3 : (191 : Int) < (x1.toNat : Int) := by omega
      have e4 : decide ((191 : Int) < (x1.toNat : Int)) = true := by simp; omega
      go_enter Tryd.func93, Tryd.ntmps93
      go_wp2
      go_quiet (fail)
      go_wp2
      go_ret
      exact ⟨bret (by simp; omega), below_drewN ((Below.refl _ _).alloc (Nat.le_refl _) _) _⟩
    have e3 : (x1.toNat : Int) ≤ 191 := by omega
    have e4 : decide ((191 : Int) < (x1.toNat : Int)) = false := by simp; omega
    have hz3 : (s.size : Int) ≤ 2 := by omega
    have d2 : decide ((2 : Int) < s.size) = false := by simp; omega
    go_enter Tryd.func93, Tryd.ntmps93
    go_wp2
    go_quiet (fail)
    go_wp2
    go_ret
    exact ⟨bret (by simp; omega), below_drewN ((Below.refl _ _).alloc (Nat.le_refl _) _) _⟩
  · rw [hX] at hc0 ⊢
    have ha0 := (hT.2 2 (by omega)).1
    have ha1 := (hT.2 2 (by omega)).2
    simp only [accLo, accHi, Nat.reduceMul, Nat.reduceAdd, Nat.reduceEqDiff, if_true, if_false, Nat.reduceMod, Nat.reduceDiv] at ha0 ha1 ⊢
    clear hT hX
    by_cases hn : 3 ≤ s.size
    · have hz1 : (3 : Int) ≤ (s.size : Int) := by omega
      go_enter Tryd.func93, Tryd.ntmps93
      go_wp2
      go_ret
      exact ⟨bret (by simp; omega), Below.refl _ _⟩
    have hz1 : (s.size : Int) < 3 := by omega
    by_cases hn1 : s.size = 1
    · have hz2 : (s.size : Int) ≤ 1 := by omega
      have hz3 : (s.size : Int) ≤ 2 := by omega
      have d1 : decide ((1 : Int) < s.size) = false := by simp; omega
      have d2 : decide ((2 : Int) < s.size) = false := by simp; omega
      have hn1' := Lib.hid hn1
      clear hn1
      go_enter Tryd.func93, Tryd.ntmps93
      go_wp2
      go_quiet (fail)
      go_wp2
      go_ret
      have := hn1'.out
      exact ⟨bret (by simp; omega), below_drewN ((Below.refl _ _).alloc (Nat.le_refl _) _) _⟩
    have hz2 : (1 : Int) < (s.size : Int) := by omega
    have d1 : decide ((1 : Int) < s.size) = true := by simp; omega
    have hs1 : s[1]'(by omega) = x1 := by rw [← hx1]; exact (Utf8W.get!_of_lt s 1 (by omega)).symm
    have l1 := x1.toNat_lt
    by_cases hA : x1.toNat < 128
    · have e1 : (x1.toNat : Int) < 128 := by omega
      have e2 : decide ((x1.toNat : Int) < 128) = true := by simp; omega
      go_enter Tryd.func93, Tryd.ntmps93
      go_wp2
      go_quiet (fail)
      go_wp2
      go_ret
      exact ⟨bret (by simp; omega), below_drewN ((Below.refl _ _).alloc (Nat.le_refl _) _) _⟩
    have e1 : (128 : Int) ≤ (x1.toNat : Int) := by omega
    have e2 : decide ((x1.toNat : Int) < 128) = false := by simp; omega
    by_cases hB : 159 < x1.toNat
    · have e3 : (159 : Int) < (x1.toNat : Int) := by omega
      have e4 : decide ((159 : Int) < (x1.toNat : Int)) = true := by simp; omega
      go_enter Tryd.func93, Tryd.ntmps93
      go_wp2
      go_quiet (fail)
      go_wp2
      go_ret
      exact ⟨bret (by simp; omega), below_drewN ((Below.refl _ _).alloc (Nat.le_refl _) _) _⟩
    have e3 : (x1.toNat : Int) ≤ 159 := by omega
    have e4 : decide ((159 : Int) < (x1.toNat : Int)) = false := by simp; omega
    have hz3 : (s.size : Int) ≤ 2 := by omega
    have d2 : decide ((2 : Int) < s.size) = false := by simp; omega
    go_enter Tryd.func93, Tryd.ntmps93
    go_wp2
    go_quiet (fail)
    go_wp2
    go_ret
    exact ⟨bret (by simp; omega), below_drewN ((Below.refl _ _).alloc (Nat.le_refl _) _) _⟩
  · rw [hX] at hc0 ⊢
    have ha0 := (hT.2 3 (by omega)).1
    have ha1 := (hT.2 3 (by omega)).2
    simp only [accLo, accHi, Nat.reduceMul, Nat.reduceAdd, Nat.reduceEqDiff, if_true, if_false, Nat.reduceMod, Nat.reduceDiv] at ha0 ha1 ⊢
    clear hT hX
    by_cases hn : 4 ≤ s.size
    · have hz1 : (4 : Int) ≤ (s.size : Int) := by omega
      go_enter Tryd.func93, Tryd.ntmps93
      go_wp2
      go_ret
      exact ⟨bret (by simp; omega), Below.refl _ _⟩
    have hz1 : (s.size : Int) < 4 := by omega
    by_cases hn1 : s.size = 1
    · have hz2 : (s.size : Int) ≤ 1 := by omega
      have hz3 : (s.size : Int) ≤ 2 := by omega
      have d1 : decide ((1 : Int) < s.size) = false := by simp; omega
      have d2 : decide ((2 : Int) < s.size) = false := by simp; omega
      have hn1' := Lib.hid hn1
      clear hn1
      go_enter Tryd.func93, Tryd.ntmps93
      go_wp2
      go_quiet (fail)
      go_wp2
      go_ret
      have := hn1'.out
      exact ⟨bret (by simp; omega), below_drewN ((Below.refl _ _).alloc (Nat.le_refl _) _) _⟩
    have hz2 : (1 : Int) < (s.size : Int) := by omega
    have d1 : decide ((1 : Int) < s.size) = true := by simp; omega
    have hs1 : s[1]'(by omega) = x1 := by rw [← hx1]; exact (Utf8W.get!_of_lt s 1 (by omega)).symm
    have l1 := x1.toNat_lt
    by_cases hA : x1.toNat < 144
    · have e1 : (x1.toNat : Int) < 144 := by omega
      have e2 : decide ((x1.toNat : Int) < 144) = true := by simp; omega
      go_enter Tryd.func93, Tryd.ntmps93
      go_wp2
      go_quiet (fail)
      go_wp2
      go_ret
      exact ⟨bret (by simp; omega), below_drewN ((Below.refl _ _).alloc (Nat.le_refl _) _) _⟩
    have e1 : (144 : Int) ≤ (x1.toNat : Int) := by omega
    have e2 : decide ((x1.toNat : Int) < 144) = false := by simp; omega
    by_cases hB : 191 < x1.toNat
    · have e3 : (191 : Int) < (x1.toNat : Int) := by omega
      have e4 : decide ((191 : Int) < (x1.toNat : Int)) = true := by simp; omega
      go_enter Tryd.func93, Tryd.ntmps93
      go_wp2
      go_quiet (fail)
      go_wp2
      go_ret
      exact ⟨bret (by simp; omega), below_drewN ((Below.refl _ _).alloc (Nat.le_refl _) _) _⟩
    have e3 : (x1.toNat : Int) ≤ 191 := by omega
    have e4 : decide ((191 : Int) < (x1.toNat : Int)) = false := by simp; omega
    by_cases hn2 : s.size = 2
    · have hn2' := Lib.hid hn2
      have hle : s.size ≤ 2 := by omega
      clear hn2
      have hz3 : (s.size : Int) ≤ 2 := by omega
      have d2 : decide ((2 : Int) < s.size) = false := by simp; omega
      go_enter Tryd.func93, Tryd.ntmps93
      go_wp2
      go_quiet (fail)
      go_wp2
      go_ret
      exact ⟨bret (by simp; omega), below_drewN ((Below.refl _ _).alloc (Nat.le_refl _) _) _⟩
    have hz3 : (2 : Int) < (s.size : Int) := by omega
    have d2 : decide ((2 : Int) < s.size) = true := by simp; omega
    have hs2 : s[2]'(by omega) = x2 := by rw [← hx2]; exact (Utf8W.get!_of_lt s 2 (by omega)).symm
    by_cases hC : x2.toNat < 128
    · have f1 : (x2.toNat : Int) < 128 := by omega
      have f2 : decide ((x2.toNat : Int) < 128) = true := by simp; omega
      go_enter Tryd.func93, Tryd.ntmps93
      go_wp2
      go_quiet (fail)
      go_wp2
      go_ret
      exact ⟨bret (by simp; omega), below_drewN ((Below.refl _ _).alloc (Nat.le_refl _) _) _⟩
    have f1 : (128 : Int) ≤ (x2.toNat : Int) := by omega
    have f2 : decide ((x2.toNat : Int) < 128) = false := by simp; omega
    by_cases hD : 191 < x2.toNat
    · have f3 : (191 : Int) < (x2.toNat : Int) := by omega
      have f4 : decide ((191 : Int) < (x2.toNat : Int)) = true := by simp; omega
      go_enter Tryd.func93, Tryd.ntmps93
      go_wp2
      go_quiet (fail)
      go_wp2
      go_ret
      exact ⟨bret (by simp; omega), below_drewN ((Below.refl _ _).alloc (Nat.le_refl _) _) _⟩
    have f3 : (x2.toNat : Int) ≤ 191 := by omega
    have f4 : decide ((191 : Int) < (x2.toNat : Int)) = false := by simp; omega
    go_enter Tryd.func93, Tryd.ntmps93
    go_wp2
    go_quiet (fail)
    go_wp2
    go_ret
    exact ⟨bret (by simp; omega), below_drewN ((Below.refl _ _).alloc (Nat.le_refl _) _) _⟩
  · rw [hX] at hc0 ⊢
    have ha0 := (hT.2 0 (by omega)).1
    have ha1 := (hT.2 0 (by omega)).2
    simp only [accLo, accHi, Nat.reduceMul, Nat.reduceAdd, Nat.reduceEqDiff, if_true, if_false, Nat.reduceMod, Nat.reduceDiv] at ha0 ha1 ⊢
    clear hT hX
    by_cases hn : 4 ≤ s.size
    · have hz1 : (4 : Int) ≤ (s.size : Int) := by omega
      go_enter Tryd.func93, Tryd.ntmps93
      go_wp2
      go_ret
      exact ⟨bret (by simp; omega), Below.refl _ _⟩
    have hz1 : (s.size : Int) < 4 := by omega
    by_cases hn1 : s.size = 1
    · have hz2 : (s.size : Int) ≤ 1 := by omega
      have hz3 : (s.size : Int) ≤ 2 := by omega
      have d1 : decide ((1 : Int) < s.size) = false := by simp; omega
      have d2 : decide ((2 : Int) < s.size) = false := by simp; omega
      have hn1' := Lib.hid hn1
      clear hn1
      go_enter Tryd.func93, Tryd.ntmps93
      go_wp2
      go_quiet (fail)
      go_wp2
      go_ret
      have := hn1'.out
      exact ⟨bret (by simp; omega), below_drewN ((Below.refl _ _).alloc (Nat.le_refl _) _) _⟩
    have hz2 : (1 : Int) < (s.size : Int) := by omega
    have d1 : decide ((1 : Int) < s.size) = true := by simp; omega
    have hs1 : s[1]'(by omega) = x1 := by rw [← hx1]; exact (Utf8W.get!_of_lt s 1 (by omega)).symm
    have l1 := x1.toNat_lt
    by_cases hA : x1.toNat < 128
    · have e1 : (x1.toNat : Int) < 128 := by omega
      have e2 : decide ((x1.toNat : Int) < 128) = true := by simp; omega
      go_enter Tryd.func93, Tryd.ntmps93
      go_wp2
      go_quiet (fail)
      go_wp2
      go_ret
      exact ⟨bret (by simp; omega), below_drewN ((Below.refl _ _).alloc (Nat.le_refl _) _) _⟩
    have e1 : (128 : Int) ≤ (x1.toNat : Int) := by omega
    have e2 : decide ((x1.toNat : Int) < 128) = false := by simp; omega
    by_cases hB : 191 < x1.toNat
    · have e3 : (191 : Int) < (x1.toNat : Int) := by omega
      have e4 : decide ((191 : Int) < (x1.toNat : Int)) = true := by simp; omega
      go_enter Tryd.func93, Tryd.ntmps93
      go_wp2
      go_quiet (fail)
      go_wp2
      go_ret
      exact ⟨bret (by simp; omega), below_drewN ((Below.refl _ _).alloc (Nat.le_refl _) _) _⟩
    have e3 : (x1.toNat : Int) ≤ 191 := by omega
    have e4 : decide ((191 : Int) < (x1.toNat : Int)) = false := by simp; omega
    by_cases hn2 : s.size = 2
    · have hn2' := Lib.hid hn2
      have hle : s.size ≤ 2 := by omega
      clear hn2
      have hz3 : (s.size : Int) ≤ 2 := by omega
      have d2 : decide ((2 : Int) < s.size) = false := by simp; omega
      go_enter Tryd.func93, Tryd.ntmps93
      go_wp2
      go_quiet (fail)
      go_wp2
      go_ret
      exact ⟨bret (by simp; omega), below_drewN ((Below.refl _ _).alloc (Nat.le_refl _) _) _⟩
    have hz3 : (2 : Int) < (s.size : Int) := by omega
    have d2 : decide ((2 : Int) < s.size) = true := by simp; omega
    have hs2 : s[2]'(by omega) = x2 := by rw [← hx2]; exact (Utf8W.get!_of_lt s 2 (by omega)).symm
    by_cases hC : x2.toNat < 128
    · have f1 : (x2.toNat : Int) < 128 := by omega
      have f2 : decide ((x2.toNat : Int) < 128) = true := by simp; omega
      go_enter Tryd.func93, Tryd.ntmps93
      go_wp2
      go_quiet (fail)
      go_wp2
      go_ret
      exact ⟨bret (by simp; omega), below_drewN ((Below.refl _ _).alloc (Nat.le_refl _) _) _⟩
    have f1 : (128 : Int) ≤ (x2.toNat : Int) := by omega
    have f2 : decide ((x2.toNat : Int) < 128) = false := by simp; omega
    by_cases hD : 191 < x2.toNat
    · have f3 : (191 : Int) < (x2.toNat : Int) := by omega
      have f4 : decide ((191 : Int) < (x2.toNat : Int)) = true := by simp; omega
      go_enter Tryd.func93, Tryd.ntmps93
      go_wp2
      go_quiet (fail)
      go_wp2
      go_ret
      exact ⟨bret (by simp; omega), below_drewN ((Below.refl _ _).alloc (Nat.le_refl _) _) _⟩
    have f3 : (x2.toNat : Int) ≤ 191 := by omega
    have f4 : decide ((191 : Int) < (x2.toNat : Int)) = false := by simp; omega
    go_enter Tryd.func93, Tryd.ntmps93
    go_wp2
    go_quiet (fail)
    go_wp2
    go_ret
    exact ⟨bret (by simp; omega), below_drewN ((Below.refl _ _).alloc (Nat.le_refl _) _) _⟩
  · rw [hX] at hc0 ⊢
    have ha0 := (hT.2 4 (by omega)).1
    have ha1 := (hT.2 4 (by omega)).2
    simp only [accLo, accHi, Nat.reduceMul, Nat.reduceAdd, Nat.reduceEqDiff, if_true, if_false, Nat.reduceMod, Nat.reduceDiv] at ha0 ha1 ⊢
    clear hT hX
    by_cases hn : 4 ≤ s.size
    · have hz1 : (4 : Int) ≤ (s.size : Int) := by omega
      go_enter Tryd.func93, Tryd.ntmps93
      go_wp2
      go_ret
      exact ⟨bret (by simp; omega), Below.refl _ _⟩
    have hz1 : (s.size : Int) < 4 := by omega
    by_cases hn1 : s.size = 1
    · have hz2 : (s.size : Int) ≤ 1 := by omega
      have hz3 : (s.size : Int) ≤ 2 := by omega
      have d1 : decide ((1 : Int) < s.size) = false := by simp; omega
      have d2 : decide ((2 : Int) < s.size) = false := by simp; omega
      have hn1' := Lib.hid hn1
      clear hn1
      go_enter Tryd.func93, Tryd.ntmps93
      go_wp2
      go_quiet (fail)
      go_wp2
      go_ret
      have := hn1'.out
      exact ⟨bret (by simp; omega), below_drewN ((Below.refl _ _).alloc (Nat.le_refl _) _) _⟩
    have hz2 : (1 : Int) < (s.size : Int) := by omega
    have d1 : decide ((1 : Int) < s.size) = true := by simp; omega
    have hs1 : s[1]'(by omega) = x1 := by rw [← hx1]; exact (Utf8W.get!_of_lt s 1 (by omega)).symm
    have l1 := x1.toNat_lt
    by_cases hA : x1.toNat < 128
    · have e1 : (x1.toNat : Int) < 128 := by omega
      have e2 : decide ((x1.toNat : Int) < 128) = true := by simp; omega
      go_enter Tryd.func93, Tryd.ntmps93
      go_wp2
      go_quiet (fail)
      go_wp2
      go_ret
      exact ⟨bret (by simp; omega), below_drewN ((Below.refl _ _).alloc (Nat.le_refl _) _) _⟩
    have e1 : (128 : Int) ≤ (x1.toNat : Int) := by omega
    have e2 : decide ((x1.toNat : Int) < 128) = false := by simp; omega
    by_cases hB : 143 < x1.toNat
    · have e3 : (143 : Int) < (x1.toNat : Int) := by omega
      have e4 : decide ((143 : Int) < (x1.toNat : Int)) = true := by simp; omega
      go_enter Tryd.func93, Tryd.ntmps93
      go_wp2
      go_quiet (fail)
      go_wp2
      go_ret
      exact ⟨bret (by simp; omega), below_drewN ((Below.refl _ _).alloc (Nat.le_refl _) _) _⟩
    have e3 : (x1.toNat : Int) ≤ 143 := by omega
    have e4 : decide ((143 : Int) < (x1.toNat : Int)) = false := by simp; omega
    by_cases hn2 : s.size = 2
    · have hn2' := Lib.hid hn2
      have hle : s.size ≤ 2 := by omega
      clear hn2
      have hz3 : (s.size : Int) ≤ 2 := by omega
      have d2 : decide ((2 : Int) < s.size) = false := by simp; omega
      go_enter Tryd.func93, Tryd.ntmps93
      go_wp2
      go_quiet (fail)
      go_wp2
      go_ret
      exact ⟨bret (by simp; omega), below_drewN ((Below.refl _ _).alloc (Nat.le_refl _) _) _⟩
    have hz3 : (2 : Int) < (s.size : Int) := by omega
    have d2 : decide ((2 : Int) < s.size) = true := by simp; omega
    have hs2 : s[2]'(by omega) = x2 := by rw [← hx2]; exact (Utf8W.get!_of_lt s 2 (by omega)).symm
    by_cases hC : x2.toNat < 128
    · have f1 : (x2.toNat : Int) < 128 := by omega
      have f2 : decide ((x2.toNat : Int) < 128) = true := by simp; omega
      go_enter Tryd.func93, Tryd.ntmps93
      go_wp2
      go_quiet (fail)
      go_wp2
      go_ret
      exact ⟨bret (by simp; omega), below_drewN ((Below.refl _ _).alloc (Nat.le_refl _) _) _⟩
    have f1 : (128 : Int) ≤ (x2.toNat : Int) := by omega
    have f2 : decide ((x2.toNat : Int) < 128) = false := by simp; omega
    by_cases hD : 191 < x2.toNat
    · have f3 : (191 : Int) < (x2.toNat : Int) := by omega
      have f4 : decide ((191 : Int) < (x2.toNat : Int)) = true := by simp; omega
      go_enter Tryd.func93, Tryd.ntmps93
      go_wp2
      go_quiet (fail)
      go_wp2
      go_ret
      exact ⟨bret (by simp; omega), below_drewN ((Below.refl _ _).alloc (Nat.le_refl _) _) _⟩
    have f3 : (x2.toNat : Int) ≤ 191 := by omega
    have f4 : decide ((191 : Int) < (x2.toNat : Int)) = false := by simp; omega
    go_enter Tryd.func93, Tryd.ntmps93
    go_wp2
    go_quiet (fail)
    go_wp2
    go_ret
    exact ⟨bret (by simp; omega), below_drewN ((Below.refl _ _).alloc (Nat.le_refl _) _) _⟩
end Go.Proofs.YtjdnpgknamhnlaaDoor
