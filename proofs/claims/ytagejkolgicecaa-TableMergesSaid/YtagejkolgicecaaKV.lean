/- ContainsFunc of the keys. -/
import Derived.Test.YtagejkolgicecaaKU
namespace Go.Proofs.Ytagejkolgicecaa
open Go Go.RowKit Go.Maps
def KsAt (w : World) (ao : Option Addr) (ks : List Int) : Prop := ∀ (j : Nat) (k : Int), ks[j]? = some k → ∃ g, ao = some ⟨g, 0, none⟩ ∧ w.cell? ⟨g, j, none⟩ = some (.int .i64 k)
theorem KsAt.below {w w' : World} {ao : Option Addr} {ks : List Int} (h : KsAt w ao ks) (hb : Below w.heap.size w w') : KsAt w' ao ks := fun j k hj => by
  obtain ⟨g, h1, h2⟩ := h j k hj
  exact ⟨g, h1, below_cell hb h2⟩
def IxK (S : Tb) (ps : List Int) (e : Ending) : Prop := ∃ i : Int, e = .returned (.int .i64 i) ∧ (if ps.any (fun x => !S.has x) then 0 ≤ i ∧ i ≤ 500 else i = -1)
section
variable {F : Nat → Prop} {b m0 m1 : Nat} {kv : Value} {S : Tb}
set_option maxRecDepth 100000 in
set_option maxHeartbeats 4000000 in
theorem t73 (w : World) (h : Wit F w b S m0 m1 kv) (ao : Option Addr) (cap : Nat) (ps : List Int) (hr : KsAt w ao ps) (hk : ∀ x ∈ ps, WF x) (hl : ps.length ≤ 500) :
    Calls Try.prog 73 #[.slice ao ps.length cap, .func (.func 59) #[.pointer (some ⟨b, 0, none⟩)] #[]] w fun e w' => IxK S ps e ∧ Below w.heap.size w w' := by
  have HR := Lib.hid hr
  have HK := Lib.hid hk
  have C61 := Lib.hid (fun w1 (hb : Below w.heap.size w w1) k (hk : WF k) => t59 w1 (h.below hb) hk)
  have hl' : (ps.length : Int) ≤ 500 := by omega
  have H0 : Hid ((ps.take 0).any (fun x => !S.has x) = false) := rfl
  clear h hr hk
  go_enter Try.func73, Try.ntmps73
  go_wp2_with fail
  go_loopw [8, 5] (fun i u wr => ∃ j : Nat, j ≤ ps.length ∧ i = .int .i64 j ∧ Hid ((ps.take j).any (fun x => !S.has x) = false) ∧ Hid (Below w.heap.size w wr)) (fun i _ _ => ps.length - (intOf i).toNat)
  case atStart => exact ⟨0, Nat.zero_le _, rfl, H0, Below.refl _ _⟩
  case round =>
    obtain ⟨j, hj, rfl, HD, HB⟩ := hrel
    clear H0
    by_cases hlt : j < ps.length
    · obtain ⟨k, hg⟩ : ∃ k, ps[j]? = some k := ⟨_, List.getElem?_eq_getElem hlt⟩
      obtain ⟨rb, rfl, c0⟩ := HR.out.below HB.out j k hg
      have hlt' : (j : Int) < ps.length := by omega
      have HKk := Lib.hid (HK.out k (List.mem_of_getElem? hg))
      have C := Lib.hid (C61.out wr HB.out k HKk.out)
      have HS : Hid ((ps.take (j + 1)).any (fun x => !S.has x) = !S.has k) := by
        show _ = _
        rw [List.take_add_one, hg, List.any_append, HD.out]; simp
      have HM := Lib.hid (List.mem_of_getElem? hg)
      clear hg
      cases hh : S.has k with
      | true =>
        rw [hh] at C HS
        clear hh
        go_wp2_with fail
        refine C.out.mono ?_
        rintro e w1 ⟨rfl, hb⟩
        have HB1 := Lib.hid (bThen HB.out hb)
        clear hb HB C c0
        go_wp2_with fail
        go_roundw
        case rel => exact ⟨j + 1, by omega, by go_num, HS, HB1⟩
        case measure => simp [intOf]; omega
      | false =>
        rw [hh] at C
        have HA : Hid (ps.any (fun x => !S.has x) = true) := List.any_eq_true.2 ⟨k, HM.out, by simp [hh]⟩
        clear hh
        go_wp2_with fail
        refine C.out.mono ?_
        rintro e w1 ⟨rfl, hb⟩
        have HB1 := Lib.hid (bThen HB.out hb)
        clear hb HB C c0
        go_wp2
        go_ret
        exact ⟨⟨j, rfl, by rw [if_pos HA.out]; omega⟩, HB1.out⟩
    · obtain rfl : j = ps.length := by omega
      rw [List.take_length] at HD
      have hlt' : ¬ ((ps.length : Int) < ps.length) := by omega
      go_wp2
      go_ret
      exact ⟨⟨-1, rfl, by rw [HD.out]; rfl⟩, HB.out⟩
set_option maxRecDepth 100000 in
set_option maxHeartbeats 4000000 in
theorem t58 (w : World) (h : Wit F w b S m0 m1 kv) (ao : Option Addr) (cap : Nat) (ps : List Int) (hr : KsAt w ao ps) (hk : ∀ x ∈ ps, WF x) (hl : ps.length ≤ 500) :
    Calls Try.prog 58 #[.slice ao ps.length cap, .func (.func 59) #[.pointer (some ⟨b, 0, none⟩)] #[]] w fun e w' => e = .returned (.bool (ps.any (fun x => !S.has x))) ∧ Below w.heap.size w w' := by
  have C := Lib.hid (t73 w h ao cap ps hr hk hl)
  clear h hr hk hl
  go_enter Try.func58, Try.ntmps58
  go_wp2_with fail
  refine C.out.mono ?_
  rintro e w1 ⟨⟨i, rfl, hi⟩, hb⟩
  have HB := Lib.hid hb
  clear hb C
  cases ha : ps.any (fun x => !S.has x) with
  | true =>
    rw [ha, if_pos rfl] at hi
    obtain ⟨h1, h2⟩ := hi
    have HA := Lib.hid ha
    clear ha
    go_wp2
    go_ret
    exact ⟨by rw [HA.out]; rfl, HB.out⟩
  | false =>
    rw [ha] at hi
    obtain rfl : i = -1 := hi
    have HA := Lib.hid ha
    clear ha
    go_wp2
    go_ret
    exact ⟨by rw [HA.out]; rfl, HB.out⟩
end
end Go.Proofs.Ytagejkolgicecaa
