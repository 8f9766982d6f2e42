/- Lists of pairs compared. -/
import Derived.Laws.StructEq
import Derived.ChangeKeysEq
import Derived.Test.YtagejkolgicecaaKR
import Derived.Test.YtagejkolgicecaaMO
namespace Go.Proofs.Ytagejkolgicecaa
open Go Go.RowKit Go.Maps
theorem guard42 : Try.prog.eqGuardType Try.prog.depth 42 = false := by kernel_rfl
theorem neq42 (a b c d : Int) (w : World) : (Op.equalIn 10000 42 (Value.agg #[.int .i64 a, .int .i64 b]) (Value.agg #[.int .i64 c, .int .i64 d])).run Try.prog w = .ok (a == c && b == d) w := by
  have u3 := Try.underlying3
  have a3 := Try.isAgg3
  have z3 := Try.sizeOf3
  obtain ⟨i, hi⟩ : ∃ i, Try.prog.info? 3 = some i := ⟨_, rfl⟩
  have ce : Try.prog.cellsOf 3 = 1 := by kernel_rfl
  rw [show (10000 : Nat) = 9999 + 1 from rfl, run_equalIn_array w 9999 _ _ Try.underlying42 hi, ce, show List.range 2 = [0, 1] from rfl]
  simp only [Op.eqItems]
  go_simp
  by_cases h1 : a = c <;> by_cases h2 : b = d <;> simp [h1, h2]
set_option maxRecDepth 100000 in
set_option maxHeartbeats 4000000 in
theorem t19o (w : World) (ao ao' : Option Addr) (cap cap' : Nat) (l l' : List (Int × Int)) (h : RowsO w ao l) (h' : RowsO w ao' l') (hl : l.length ≤ 9223372036854775807) :
    Calls Try.prog 19 #[.slice ao l.length cap, .slice ao' l'.length cap'] w fun e w' => e = .returned (.bool (decide (l = l'))) ∧ Below w.heap.size w w' := by
  have HA := Lib.hid h
  have HA' := Lib.hid h'
  have H0 : Hid (l.take 0 = l'.take 0) := by show l.take 0 = l'.take 0; simp
  clear h h'
  by_cases hln : l.length = l'.length
  · have hln' : (l.length : Int) = l'.length := by omega
    have hbe : ((l.length : Int) == (l'.length : Int)) = true := by rw [beq_iff_eq]; omega
    have HL := Lib.hid hln
    clear hln
    go_enter Try.func19, Try.ntmps19
    go_wp2_with fail
    go_loopw [5] (fun i wr => ∃ j : Nat, j ≤ l.length ∧ i = .int .i64 j ∧ Hid (l.take j = l'.take j) ∧ Below w.heap.size w wr) (fun i _ => l.length - (intOf i).toNat)
    case atStart => exact ⟨0, Nat.zero_le _, rfl, H0, Below.refl _ _⟩
    case round =>
      obtain ⟨j, hj, rfl, HE, hb⟩ := hrel
      clear H0
      by_cases hlt : j < l.length
      · obtain ⟨k, v, hg⟩ : ∃ k v, l[j]? = some (k, v) := ⟨_, _, List.getElem?_eq_getElem hlt⟩
        obtain ⟨k', v', hg'⟩ : ∃ k v, l'[j]? = some (k, v) := ⟨_, _, List.getElem?_eq_getElem (by have := HL.out; omega)⟩
        obtain ⟨rb, ro, rfl, c0, c1⟩ := HA.out.below hb j k v hg
        obtain ⟨rb', ro', rfl, c0', c1'⟩ := HA'.out.below hb j k' v' hg'
        have hlt' : (j : Int) < l.length := by omega
        have hlt2 : (j : Int) < l'.length := by have := HL.out; omega
        have n1 := neq42 k v k' v' wr.drew
        have n2 := guard42
        have HG := Lib.hid hg
        have HG' := Lib.hid hg'
        clear hg hg'
        by_cases he : k = k' ∧ v = v'
        · have hx : (k == k' && v == v') = true := by simp [he.1, he.2]
          rw [hx] at n1
          have HS : Hid (l.take (j + 1) = l'.take (j + 1)) := by
            show _ = _
            rw [List.take_add_one, List.take_add_one, HE.out, HG.out, HG'.out, he.1, he.2]
          clear he hx HE
          have hB := hb.drew
          go_wp2_with fail
          go_region
          all_goals go_wp2_with fail
          all_goals go_roundw
          case rel => exact ⟨j + 1, by omega, by go_num, HS, hB⟩
          case measure => simp [intOf]; omega
        · have hx : (k == k' && v == v') = false := by
            simp only [Bool.and_eq_false_iff, beq_eq_false_iff_ne]
            by_cases h1 : k = k'
            · exact .inr (fun h2 => he ⟨h1, h2⟩)
            · exact .inl h1
          rw [hx] at n1
          have HD : Hid (decide (l = l') = false) := by
            show _ = _
            refine decide_eq_false (fun e => he ?_)
            have h1 := HG.out
            rw [e, HG'.out] at h1
            simp at h1
            exact ⟨h1.1.symm, h1.2.symm⟩
          have HB := Lib.hid hb.drew
          clear he hx HE hb
          go_wp2_with fail
          go_region
          all_goals go_wp2
          all_goals go_ret
          all_goals exact ⟨by rw [HD.out]; rfl, HB.out⟩
      · obtain rfl : j = l.length := by omega
        have HD : Hid (decide (l = l') = true) := by
          show _ = _
          have h1 := HE.out
          rw [List.take_length, HL.out, List.take_length] at h1
          exact decide_eq_true h1
        have HB := Lib.hid hb
        clear hb
        go_wp2
        go_ret
        exact ⟨by rw [HD.out]; rfl, HB.out⟩
  · have hbe : ((l.length : Int) == (l'.length : Int)) = false := beq_eq_false_iff_ne.2 (by omega)
    have hne : ¬ ((l.length : Int) = (l'.length : Int)) := by omega
    have HD : Hid (decide (l = l') = false) := by
      show _ = _
      exact decide_eq_false (fun e => hln (by rw [e]))
    clear hln
    go_enter Try.func19, Try.ntmps19
    go_wp2
    go_ret
    exact ⟨by rw [HD.out]; rfl, Below.refl _ _⟩
theorem t19 (w : World) (ao ao' : Option Addr) (cap cap' : Nat) (l l' : List (Int × Int)) (h : RowsAt w ao l) (h' : RowsAt w ao' l') (hl : l.length ≤ 9223372036854775807) :
    Calls Try.prog 19 #[.slice ao l.length cap, .slice ao' l'.length cap'] w fun e w' => e = .returned (.bool (decide (l = l'))) ∧ Below w.heap.size w w' := t19o w ao ao' cap cap' l l' h.any h'.any hl
set_option maxRecDepth 100000 in
set_option maxHeartbeats 4000000 in
theorem t69 (w : World) (ao ao' : Option Addr) (cap cap' : Nat) (l l' : List (Int × Int)) (h : RowsAt w ao l) (h' : RowsAt w ao' l') (hl : l.length ≤ 9223372036854775807) :
    Calls Try.prog 69 #[.slice ao l.length cap, .slice ao' l'.length cap'] w fun e w' => e = .returned (.bool (decide (l = l'))) ∧ Below w.heap.size w w' := by
  have HA := Lib.hid h
  have HA' := Lib.hid h'
  have H0 : Hid (l.take 0 = l'.take 0) := by show l.take 0 = l'.take 0; simp
  clear h h'
  by_cases hln : l.length = l'.length
  · have hln' : (l.length : Int) = l'.length := by omega
    have hbe : ((l.length : Int) == (l'.length : Int)) = true := by rw [beq_iff_eq]; omega
    have HL := Lib.hid hln
    clear hln
    go_enter Try.func69, Try.ntmps69
    go_wp2_with fail
    go_loopw [13] (fun i wr => ∃ j : Nat, j ≤ l.length ∧ i = .int .i64 j ∧ Hid (l.take j = l'.take j) ∧ Below w.heap.size w wr) (fun i _ => l.length - (intOf i).toNat)
    case atStart => exact ⟨0, Nat.zero_le _, rfl, H0, Below.refl _ _⟩
    case round =>
      obtain ⟨j, hj, rfl, HE, hb⟩ := hrel
      clear H0
      by_cases hlt : j < l.length
      · obtain ⟨k, v, hg⟩ : ∃ k v, l[j]? = some (k, v) := ⟨_, _, List.getElem?_eq_getElem hlt⟩
        obtain ⟨k', v', hg'⟩ : ∃ k v, l'[j]? = some (k, v) := ⟨_, _, List.getElem?_eq_getElem (by have := HL.out; omega)⟩
        obtain ⟨rb, rfl, c0, c1⟩ := HA.out.below hb j k v hg
        obtain ⟨rb', rfl, c0', c1'⟩ := HA'.out.below hb j k' v' hg'
        have hlt' : (j : Int) < l.length := by omega
        have hlt2 : (j : Int) < l'.length := by have := HL.out; omega
        have n1 := neq42 k v k' v' wr.drew
        have n2 := guard42
        have HG := Lib.hid hg
        have HG' := Lib.hid hg'
        clear hg hg'
        by_cases he : k = k' ∧ v = v'
        · have hx : (k == k' && v == v') = true := by simp [he.1, he.2]
          rw [hx] at n1
          have HS : Hid (l.take (j + 1) = l'.take (j + 1)) := by
            show _ = _
            rw [List.take_add_one, List.take_add_one, HE.out, HG.out, HG'.out, he.1, he.2]
          clear he hx HE
          have hB := hb.drew
          go_wp2_with fail
          go_region
          all_goals go_wp2_with fail
          all_goals go_roundw
          case rel => exact ⟨j + 1, by omega, by go_num, HS, hB⟩
          case measure => simp [intOf]; omega
        · have hx : (k == k' && v == v') = false := by
            simp only [Bool.and_eq_false_iff, beq_eq_false_iff_ne]
            by_cases h1 : k = k'
            · exact .inr (fun h2 => he ⟨h1, h2⟩)
            · exact .inl h1
          rw [hx] at n1
          have HD : Hid (decide (l = l') = false) := by
            show _ = _
            refine decide_eq_false (fun e => he ?_)
            have h1 := HG.out
            rw [e, HG'.out] at h1
            simp at h1
            exact ⟨h1.1.symm, h1.2.symm⟩
          have HB := Lib.hid hb.drew
          clear he hx HE hb
          go_wp2_with fail
          go_region
          all_goals go_wp2
          all_goals go_ret
          all_goals exact ⟨by rw [HD.out]; rfl, HB.out⟩
      · obtain rfl : j = l.length := by omega
        have HD : Hid (decide (l = l') = true) := by
          show _ = _
          have h1 := HE.out
          rw [List.take_length, HL.out, List.take_length] at h1
          exact decide_eq_true h1
        have HB := Lib.hid hb
        clear hb
        go_wp2
        go_ret
        exact ⟨by rw [HD.out]; rfl, HB.out⟩
  · have hbe : ((l.length : Int) == (l'.length : Int)) = false := beq_eq_false_iff_ne.2 (by omega)
    have hne : ¬ ((l.length : Int) = (l'.length : Int)) := by omega
    have HD : Hid (decide (l = l') = false) := by
      show _ = _
      exact decide_eq_false (fun e => hln (by rw [e]))
    clear hln
    go_enter Try.func69, Try.ntmps69
    go_wp2
    go_ret
    exact ⟨by rw [HD.out]; rfl, Below.refl _ _⟩
end Go.Proofs.Ytagejkolgicecaa
