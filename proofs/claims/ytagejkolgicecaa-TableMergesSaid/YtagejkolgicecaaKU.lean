/- ContainsFunc of the pairs. -/
import Derived.Test.YtagejkolgicecaaKT
namespace Go.Proofs.Ytagejkolgicecaa
open Go Go.RowKit Go.Maps
def IxR (S : Tb) (ps : List (Int × Int)) (e : Ending) : Prop := ∃ i : Int, e = .returned (.int .i64 i) ∧ (if ps.any (fun x => !S.has x.1) then 0 ≤ i ∧ i ≤ 500 else i = -1)
section
variable {F : Nat → Prop} {b m0 m1 : Nat} {kv : Value} {S : Tb}
set_option maxRecDepth 100000 in
set_option maxHeartbeats 4000000 in
theorem t61 (w : World) (h : Wit F w b S m0 m1 kv) (p : Nat) (hp : w.cell? ⟨p, 0, none⟩ = some (.pointer (some ⟨b, 0, none⟩))) (k v : Int) (hk : WF k) :
    Calls Try.prog 61 #[.agg #[.int .i64 k, .int .i64 v], .pointer (some ⟨p, 0, none⟩)] w fun e w' => e = .returned (.bool (!S.has k)) ∧ Below w.heap.size w w' := by
  have hpl : p < w.heap.size := World.block_lt_of_cell? w _ hp
  have C59 := Lib.hid (t59 (w.alloc (.cells #[.int .i64 k, .int .i64 v] 42)) (h.below (bSelf _ _)) hk)
  clear h hk
  go_enter Try.func61, Try.ntmps61
  go_wp2_with fail
  refine C59.out.mono ?_
  rintro e w1 ⟨rfl, hb⟩
  have HB := Lib.hid (bThen (bSelf w (.cells #[.int .i64 k, .int .i64 v] 42)) hb)
  clear hb C59
  go_wp2
  go_ret
  exact ⟨rfl, HB.out⟩
set_option maxRecDepth 100000 in
set_option maxHeartbeats 4000000 in
theorem t74 (w : World) (h : Wit F w b S m0 m1 kv) (p : Nat) (hp : w.cell? ⟨p, 0, none⟩ = some (.pointer (some ⟨b, 0, none⟩))) (ao : Option Addr) (cap : Nat) (ps : List (Int × Int)) (hr : RowsO w ao ps) (hk : ∀ x ∈ ps, WF x.1) (hl : ps.length ≤ 500) :
    Calls Try.prog 74 #[.slice ao ps.length cap, .func (.func 61) #[] #[.pointer (some ⟨p, 0, none⟩)]] w fun e w' => IxR S ps e ∧ Below w.heap.size w w' := by
  have HR := Lib.hid hr
  have HK := Lib.hid hk
  have C61 := Lib.hid (fun w1 (hb : Below w.heap.size w w1) k v hk => t61 w1 (h.below hb) p (below_cell hb hp) k v hk)
  have hl' : (ps.length : Int) ≤ 500 := by omega
  have H0 : Hid ((ps.take 0).any (fun x => !S.has x.1) = false) := rfl
  clear h hp hr hk
  go_enter Try.func74, Try.ntmps74
  go_wp2_with fail
  go_loopw [8, 5] (fun i u wr => ∃ j : Nat, j ≤ ps.length ∧ i = .int .i64 j ∧ Hid ((ps.take j).any (fun x => !S.has x.1) = false) ∧ Hid (Below w.heap.size w wr)) (fun i _ _ => ps.length - (intOf i).toNat)
  case atStart => exact ⟨0, Nat.zero_le _, rfl, H0, Below.refl _ _⟩
  case round =>
    obtain ⟨j, hj, rfl, HD, HB⟩ := hrel
    clear H0
    by_cases hlt : j < ps.length
    · obtain ⟨k, v, hg⟩ : ∃ k v, ps[j]? = some (k, v) := ⟨_, _, List.getElem?_eq_getElem hlt⟩
      obtain ⟨rb, ro, rfl, c0, c1⟩ := HR.out.below HB.out j k v hg
      have hlt' : (j : Int) < ps.length := by omega
      have HKk := Lib.hid (HK.out (k, v) (List.mem_of_getElem? hg))
      have C := Lib.hid (C61.out wr HB.out k v HKk.out)
      have HS : Hid ((ps.take (j + 1)).any (fun x => !S.has x.1) = !S.has k) := by
        show _ = _
        rw [List.take_add_one, hg, List.any_append, HD.out]; simp
      have HM := Lib.hid (List.mem_of_getElem? hg)
      clear hg
      cases hh : S.has k with
      | true =>
        rw [hh] at C HS
        clear hh
        go_wp2_with fail
        refine C.out.mono ?_
        rintro e w1 ⟨rfl, hb⟩
        have HB1 := Lib.hid (bThen HB.out hb)
        clear hb HB C c0 c1
        go_wp2_with fail
        go_roundw
        case rel => exact ⟨j + 1, by omega, by go_num, HS, HB1⟩
        case measure => simp [intOf]; omega
      | false =>
        rw [hh] at C
        have HA : Hid (ps.any (fun x => !S.has x.1) = true) := List.any_eq_true.2 ⟨(k, v), HM.out, by simp [hh]⟩
        clear hh
        go_wp2_with fail
        refine C.out.mono ?_
        rintro e w1 ⟨rfl, hb⟩
        have HB1 := Lib.hid (bThen HB.out hb)
        clear hb HB C c0 c1
        go_wp2
        go_ret
        exact ⟨⟨j, rfl, by rw [if_pos HA.out]; omega⟩, HB1.out⟩
    · obtain rfl : j = ps.length := by omega
      rw [List.take_length] at HD
      have hlt' : ¬ ((ps.length : Int) < ps.length) := by omega
      go_wp2
      go_ret
      exact ⟨⟨-1, rfl, by rw [HD.out]; rfl⟩, HB.out⟩
set_option maxRecDepth 100000 in
set_option maxHeartbeats 4000000 in
theorem t60 (w : World) (h : Wit F w b S m0 m1 kv) (p : Nat) (hp : w.cell? ⟨p, 0, none⟩ = some (.pointer (some ⟨b, 0, none⟩))) (ao : Option Addr) (cap : Nat) (ps : List (Int × Int)) (hr : RowsO w ao ps) (hk : ∀ x ∈ ps, WF x.1) (hl : ps.length ≤ 500) :
    Calls Try.prog 60 #[.slice ao ps.length cap, .func (.func 61) #[] #[.pointer (some ⟨p, 0, none⟩)]] w fun e w' => e = .returned (.bool (ps.any (fun x => !S.has x.1))) ∧ Below w.heap.size w w' := by
  have C := Lib.hid (t74 w h p hp ao cap ps hr hk hl)
  clear h hp hr hk hl
  go_enter Try.func60, Try.ntmps60
  go_wp2_with fail
  refine C.out.mono ?_
  rintro e w1 ⟨⟨i, rfl, hi⟩, hb⟩
  have HB := Lib.hid hb
  clear hb C
  cases ha : ps.any (fun x => !S.has x.1) with
  | true =>
    rw [ha, if_pos rfl] at hi
    obtain ⟨h1, h2⟩ := hi
    have HA := Lib.hid ha
    clear ha
    go_wp2
    go_ret
    exact ⟨by rw [HA.out]; rfl, HB.out⟩
  | false =>
    rw [ha] at hi
    obtain rfl : i = -1 := hi
    have HA := Lib.hid ha
    clear ha
    go_wp2
    go_ret
    exact ⟨by rw [HA.out]; rfl, HB.out⟩
end
end Go.Proofs.Ytagejkolgicecaa
