/- Contracts of Tidy and Compare: the program's and the reference's. -/
import Derived.Test.YtjdnpgknamhnlaaDoorZ
namespace Go.Proofs.YtjdnpgknamhnlaaDoor
open Go Go.RowKit Go.Shelf

def inB (t : ByteArray) (c : UInt8) : Bool := t.data.toList.contains c
theorem inB_at (t : ByteArray) (k : Nat) (h : k < t.size) : inB t (t.get! k) = true := by
  rw [Utf8W.get!_of_lt t k h]
  unfold inB
  rw [List.contains_iff_mem]
  exact List.getElem_mem (l := t.data.toList) (n := k) h
theorem inB_no (t : ByteArray) (c : UInt8) (h : ∀ k, k < t.size → t.get! k ≠ c) : inB t c = false := by
  cases hx : inB t c with
  | false => rfl
  | true =>
    exfalso
    unfold inB at hx
    rw [List.contains_iff_mem] at hx
    obtain ⟨k, hk, he⟩ := List.mem_iff_getElem.1 hx
    exact h k hk (by rw [Utf8W.get!_of_lt t k hk]; exact he)

set_option maxRecDepth 100000 in
set_option maxHeartbeats 2000000 in
theorem r66 (c : UInt8) (t : ByteArray) (w : World) (ht : t.size ≤ 100000) :
    Calls Tryd.prog 66 #[.int .u8 c.toNat, .string t] w fun e' w' => e' = .returned (.bool (inB t c)) ∧ w' = w := by
  go_enter Tryd.func66, Tryd.ntmps66
  go_wp2
  go_loop [5] (fun i => ∃ k : Nat, k ≤ t.size ∧ i = .int .i64 k ∧ Go.RowKit.Hid (∀ x, x < k → t.get! x ≠ c)) (fun i => t.size - (Go.RowKit.intOf i).toNat)
  case atStart => exact ⟨0, Nat.zero_le _, rfl, fun x h => by omega⟩
  case round =>
    obtain ⟨k, hk, rfl, hno⟩ := hrel
    by_cases hlt : k < t.size
    · have hki : (k : Int) < t.size := by omega
      obtain ⟨x0, hx0⟩ : ∃ x0, t.get! k = x0 := ⟨_, rfl⟩
      have hs0 : t[k]'hlt = x0 := by rw [← hx0]; exact (Utf8W.get!_of_lt t k hlt).symm
      by_cases hc : x0 = c
      · subst hc
        have hin := Lib.hid (inB_at t k hlt)
        rw [hx0] at hin
        clear hx0
        go_wp2
        go_ret
        exact ⟨by rw [hin.out]; rfl, rfl⟩
      · have hne : ¬ ((x0.toNat : Int) = c.toNat) := fun h => hc (UInt8.toNat_inj.1 (by omega))
        have hb : ((x0.toNat : Int) == c.toNat) = false := by rw [beq_eq_false_iff_ne]; exact hne
        have HX := Lib.hid hx0
        have HN := Lib.hid hc
        clear hx0 hc hne
        go_wp2
        go_round
        case rel =>
          refine ⟨k + 1, by omega, by go_num, fun x h => ?_⟩
          rcases Nat.lt_or_ge x k with h3 | h3
          · exact hno.out x h3
          · rw [show x = k by omega, HX.out]; exact HN.out
        case measure => simp [Go.RowKit.intOf]; omega
    · have hki : (t.size : Int) ≤ k := by omega
      have hf := Lib.hid (inB_no t c (fun x h => hno.out x (by omega)))
      go_wp2
      go_ret
      exact ⟨by rw [hf.out]; rfl, rfl⟩

theorem t45 (s t : ByteArray) (w : World) :
    Calls Tryd.prog 45 #[.string s, .string t] w fun e' w' => e' = .returned (.int .i64 (Lib.compareBytes s.data.toList t.data.toList)) ∧ w' = w := by
  have cC := Tryd.strings_Compare s t w
  go_enter Tryd.func45, Tryd.ntmps45
  go_wp2_with fail
  refine cC.mono ?_
  rintro e1 w2 ⟨rfl, rfl⟩
  go_wp2
  go_ret
  exact ⟨rfl, rfl⟩

/-- The place of the first byte, from one on, that is not in the set. -/
def leadN (t s : ByteArray) : Nat → Nat → Nat
  | 0, i => i
  | f + 1, i => if inB t (s.get! i) = true then leadN t s f (i + 1) else i
/-- The length without the last bytes that are in the set. -/
def trailN (t u : ByteArray) : Nat → Nat
  | 0 => 0
  | j + 1 => if inB t (u.get! j) = true then trailN t u j else j + 1
theorem trailN_yes {t u : ByteArray} {j : Nat} (h : inB t (u.get! j) = true) : trailN t u (j + 1) = trailN t u j := if_pos h
theorem trailN_no {t u : ByteArray} {j : Nat} (h : inB t (u.get! j) = false) : trailN t u (j + 1) = j + 1 := if_neg (by rw [h]; decide)
theorem leadN_yes {t s : ByteArray} {f i : Nat} (h : inB t (s.get! i) = true) : leadN t s (f + 1) i = leadN t s f (i + 1) := if_pos h
theorem leadN_no {t s : ByteArray} {f i : Nat} (h : inB t (s.get! i) = false) : leadN t s (f + 1) i = i := if_neg (by rw [h]; decide)
theorem trailN_le (t u : ByteArray) : ∀ j, trailN t u j ≤ j := fun j => by
  induction j with
  | zero => exact Nat.le_refl _
  | succ j ih => unfold trailN; split <;> omega
def leadS (t s : ByteArray) : ByteArray := s.extract (leadN t s s.size 0) s.size
def tidyS (s t : ByteArray) : ByteArray := (leadS t s).extract 0 (trailN t (leadS t s) (leadS t s).size)
theorem get!_sub (s : ByteArray) (i k : Nat) (h : i + k < s.size) : (s.extract i s.size).get! k = s.get! (i + k) := by
  have h1 : k < (s.extract i s.size).size := by simp; omega
  rw [Utf8W.get!_of_lt _ k h1, Utf8W.get!_of_lt s (i + k) h, ByteArray.getElem_extract]
theorem cut_next (s : ByteArray) (i : Nat) (h : i < s.size) : (s.extract i s.size).extract 1 (s.extract i s.size).size = s.extract (i + 1) s.size := by
  rw [ByteArray.extract_extract]
  have hz : (s.extract i s.size).size = s.size - i := by simp
  rw [hz]
  congr 1
  omega
theorem cut_last (u : ByteArray) (j : Nat) (_h : j + 1 ≤ u.size) : (u.extract 0 (j + 1)).extract 0 j = u.extract 0 j := by
  rw [ByteArray.extract_extract, Nat.zero_add, Nat.zero_add, Nat.min_eq_left (by omega)]

theorem tooSmall {s t : ByteArray} (hs : s.size ≤ 100000) (ht : t.size ≤ 100000) : Go.RowKit.Hid ((decide (100000 < s.size) || decide (100000 < t.size)) = false) := by
  show _ = _
  rw [decide_eq_false (show ¬ 100000 < s.size by omega), decide_eq_false (show ¬ 100000 < t.size by omega)]; rfl

set_option maxRecDepth 100000 in
set_option maxHeartbeats 4000000 in
theorem r44 (s t : ByteArray) (w : World) (hs : s.size ≤ 100000) (ht : t.size ≤ 100000) :
    Calls Tryd.prog 44 #[.string s, .string t] w fun e' w' => e' = .returned (.tuple #[.string (tidyS s t), .int .i64 0]) ∧ Below w.heap.size w w' := by
  have hb : Go.RowKit.Hid ((!isEnc 2 || (decide (100000 < s.size) || decide (100000 < t.size))) = false) := by
    show _ = _
    rw [(tooSmall hs ht).out]; rfl
  have hB1 : Below w.heap.size w (w.alloc (.cells #[.string s, .string t] 9)) := (Below.refl _ _).alloc (Nat.le_refl _) _
  go_enter Tryd.func44, Tryd.ntmps44
  go_wp2_with fail
  refine (c49_2 2 s t false hb.out _ _ (by omega) (by omega) (by simp) (by simp) (by simp)).mono ?_
  rintro e' w2 ⟨rfl, rfl⟩
  go_wp2
  go_loop [0] (fun c => ∃ (i : Nat) (cv : ByteArray), i ≤ s.size ∧ c = .string cv ∧ Go.RowKit.Hid (cv = s.extract i s.size) ∧ Go.RowKit.Hid (cv.size = s.size - i) ∧ Go.RowKit.Hid (leadN t s (s.size - i) i = leadN t s s.size 0)) (fun c => strLenV c)
  case atStart => exact ⟨0, s, Nat.zero_le _, rfl, (ByteArray.extract_zero_size).symm, rfl, rfl⟩
  case round =>
    obtain ⟨i, cur, hi, rfl, hcur, hcz0, hlead⟩ := hrel
    have hcz : cur.size = s.size - i := hcz0.out
    have hcle : cur.size ≤ 100000 := by omega
    by_cases h0 : cur.size = 0
    · have hz1 : (cur.size : Int) ≤ 0 := by omega
      have hI : leadN t s s.size 0 = i := by
        have := hlead.out
        rw [show s.size - i = 0 by omega] at this
        exact this.symm
      clear h0 hcz
      obtain ⟨u, hu⟩ : ∃ u, leadS t s = u := ⟨_, rfl⟩
      have hux : cur = u := by rw [← hu, hcur.out]; unfold leadS; rw [hI]
      subst hux
      have hJ := Lib.hid (show tidyS s t = cur.extract 0 (trailN t cur cur.size) by unfold tidyS; rw [hu])
      clear hu hI
      go_wp2
      go_loop [0] (fun c => ∃ (j : Nat) (cv : ByteArray), j ≤ cur.size ∧ c = .string cv ∧ Go.RowKit.Hid (cv = cur.extract 0 j) ∧ cv.size = j ∧ Go.RowKit.Hid (trailN t cur j = trailN t cur cur.size)) (fun c => strLenV c)
      case atStart => exact ⟨cur.size, cur, Nat.le_refl _, rfl, (ByteArray.extract_zero_size).symm, rfl, rfl⟩
      case round =>
        obtain ⟨j, cv, hj, rfl, hcv, hcvz, hjt⟩ := hrel
        rcases j with _ | j
        · have hz1 : (cv.size : Int) ≤ 0 := by omega
          have hres : Go.RowKit.Hid (tidyS s t = cv) := by
            show _ = _
            rw [hJ.out, ← hjt.out, hcv.out]; rfl
          clear hcvz
          go_wp2
          go_ret2
          exact ⟨by rw [hres.out]; rfl, hB1⟩

        · have hz1 : 0 < cv.size := by omega
          have hz2 : (0 : Int) < cv.size := by omega
          have hjl : j < cv.size := by omega
          have hzi : (cv.size : Int) = (j : Int) + 1 := by omega
          obtain ⟨x1, hx1⟩ : ∃ x1, cv.get! j = x1 := ⟨_, rfl⟩
          have hs1 : cv[j]'hjl = x1 := by rw [← hx1]; exact (Utf8W.get!_of_lt cv j hjl).symm
          have hx2 : cur.get! j = x1 := by rw [← hx1, hcv.out, get!_cut cur (j + 1) j hj (by omega)]
          cases hin0 : inB t x1 with
          | true =>
            have hin := Lib.hid hin0
            have hjt2 : Go.RowKit.Hid (trailN t cur j = trailN t cur cur.size) := by
              have := hjt.out
              rw [trailN_yes (by rw [hx2]; exact hin0)] at this
              exact this
            have hcut : Go.RowKit.Hid (cv.extract 0 j = cur.extract 0 j) := by show _ = _; rw [hcv.out, cut_last cur j hj]
            have hsz3 : (cv.extract 0 j).size = j := by simp; omega
            clear hx1 hx2 hin0
            go_wp2_with fail
            refine (r66 x1 t _ ht).mono ?_
            rintro e1 w4 ⟨rfl, rfl⟩
            rw [hin.out]

            go_wp2
            go_round
            case rel => exact ⟨j, _, by omega, rfl, hcut, hsz3, hjt2⟩
            case measure => show (cv.extract 0 j).size < cv.size; omega
          | false =>
            have hin := Lib.hid hin0
            have hres : Go.RowKit.Hid (tidyS s t = cv) := by
              have := hjt.out
              rw [trailN_no (by rw [hx2]; exact hin0)] at this
              show _ = _
              rw [hJ.out, hcv.out, ← this]
            clear hx1 hx2 hin0
            go_wp2_with fail
            refine (r66 x1 t _ ht).mono ?_
            rintro e1 w4 ⟨rfl, rfl⟩
            rw [hin.out]

            go_wp2
            go_ret2
            exact ⟨by rw [hres.out]; rfl, hB1⟩


    · have hz1 : 0 < cur.size := by omega
      have hz2 : (0 : Int) < cur.size := by omega
      have hil : i < s.size := by omega
      obtain ⟨x0, hx0⟩ : ∃ x0, cur.get! 0 = x0 := ⟨_, rfl⟩
      have hs0 : cur[0]'hz1 = x0 := by rw [← hx0]; exact (Utf8W.get!_of_lt cur 0 hz1).symm
      have hx2 : s.get! i = x0 := by rw [← hx0, hcur.out, get!_sub s i 0 (by omega)]; rfl
      have hld := hlead.out
      rw [show s.size - i = (s.size - (i + 1)) + 1 by omega] at hld
      cases hin0 : inB t x0 with
      | true =>
        have hin := Lib.hid hin0
        have hld2 : Go.RowKit.Hid (leadN t s (s.size - (i + 1)) (i + 1) = leadN t s s.size 0) := by
          rw [leadN_yes (by rw [hx2]; exact hin0)] at hld
          exact hld
        have hcut : Go.RowKit.Hid (cur.extract 1 cur.size = s.extract (i + 1) s.size) := by show _ = _; rw [hcur.out, cut_next s i hil]
        have hsz3 : Go.RowKit.Hid ((cur.extract 1 cur.size).size = s.size - (i + 1)) := by show _ = _; simp; omega
        have hszm : (cur.extract 1 cur.size).size < cur.size := by simp; omega
        have hszM := Lib.hid hszm
        clear h0 hx0 hx2 hin0 hld hcz hszm
        go_wp2_with fail
        refine (r66 x0 t _ ht).mono ?_
        rintro e1 w4 ⟨rfl, rfl⟩
        rw [hin.out]

        go_wp2
        go_round
        case rel => exact ⟨i + 1, _, by omega, rfl, hcut, hsz3, hld2⟩
        case measure => exact hszM.out
      | false =>
        have hin := Lib.hid hin0
        have hI : leadN t s s.size 0 = i := by
          rw [leadN_no (by rw [hx2]; exact hin0)] at hld
          exact hld.symm
        clear h0 hx0 hx2 hin0 hld hcz
        go_wp2_with fail
        refine (r66 x0 t _ ht).mono ?_
        rintro e1 w4 ⟨rfl, rfl⟩
        rw [hin.out]

        obtain ⟨u, hu⟩ : ∃ u, leadS t s = u := ⟨_, rfl⟩
        have hux : cur = u := by rw [← hu, hcur.out]; unfold leadS; rw [hI]
        subst hux
        have hJ := Lib.hid (show tidyS s t = cur.extract 0 (trailN t cur cur.size) by unfold tidyS; rw [hu])
        clear hu hI
        go_wp2
        go_loop [0] (fun c => ∃ (j : Nat) (cv : ByteArray), j ≤ cur.size ∧ c = .string cv ∧ Go.RowKit.Hid (cv = cur.extract 0 j) ∧ cv.size = j ∧ Go.RowKit.Hid (trailN t cur j = trailN t cur cur.size)) (fun c => strLenV c)
        case atStart => exact ⟨cur.size, cur, Nat.le_refl _, rfl, (ByteArray.extract_zero_size).symm, rfl, rfl⟩
        case round =>
          obtain ⟨j, cv, hj, rfl, hcv, hcvz, hjt⟩ := hrel
          rcases j with _ | j
          · have hz1 : (cv.size : Int) ≤ 0 := by omega
            have hres : Go.RowKit.Hid (tidyS s t = cv) := by
              show _ = _
              rw [hJ.out, ← hjt.out, hcv.out]; rfl
            clear hcvz
            go_wp2
            go_ret2
            exact ⟨by rw [hres.out]; rfl, hB1⟩

          · have hz1 : 0 < cv.size := by omega
            have hz2 : (0 : Int) < cv.size := by omega
            have hjl : j < cv.size := by omega
            have hzi : (cv.size : Int) = (j : Int) + 1 := by omega
            obtain ⟨x1, hx1⟩ : ∃ x1, cv.get! j = x1 := ⟨_, rfl⟩
            have hs1 : cv[j]'hjl = x1 := by rw [← hx1]; exact (Utf8W.get!_of_lt cv j hjl).symm
            have hx2 : cur.get! j = x1 := by rw [← hx1, hcv.out, get!_cut cur (j + 1) j hj (by omega)]
            cases hin0 : inB t x1 with
            | true =>
              have hin := Lib.hid hin0
              have hjt2 : Go.RowKit.Hid (trailN t cur j = trailN t cur cur.size) := by
                have := hjt.out
                rw [trailN_yes (by rw [hx2]; exact hin0)] at this
                exact this
              have hcut : Go.RowKit.Hid (cv.extract 0 j = cur.extract 0 j) := by show _ = _; rw [hcv.out, cut_last cur j hj]
              have hsz3 : (cv.extract 0 j).size = j := by simp; omega
              clear hx1 hx2 hin0
              go_wp2_with fail
              refine (r66 x1 t _ ht).mono ?_
              rintro e1 w4 ⟨rfl, rfl⟩
              rw [hin.out]

              go_wp2
              go_round
              case rel => exact ⟨j, _, by omega, rfl, hcut, hsz3, hjt2⟩
              case measure => show (cv.extract 0 j).size < cv.size; omega
            | false =>
              have hin := Lib.hid hin0
              have hres : Go.RowKit.Hid (tidyS s t = cv) := by
                have := hjt.out
                rw [trailN_no (by rw [hx2]; exact hin0)] at this
                show _ = _
                rw [hJ.out, hcv.out, ← this]
              clear hx1 hx2 hin0
              go_wp2_with fail
              refine (r66 x1 t _ ht).mono ?_
              rintro e1 w4 ⟨rfl, rfl⟩
              rw [hin.out]

              go_wp2
              go_ret2
              exact ⟨by rw [hres.out]; rfl, hB1⟩



end Go.Proofs.YtjdnpgknamhnlaaDoor
