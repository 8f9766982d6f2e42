/- Contract of the program's Tidy. -/
import Derived.Test.YtjdnpgknamhnlaaDoorZE
import Derived.Lib.BufferMore
namespace Go.Proofs.YtjdnpgknamhnlaaDoor
open Go Go.RowKit Go.Shelf

theorem zero92 : Tryd.zeroCells92 = Array.replicate 256 (.bool false) := by kernel_rfl
def takeIn (t : ByteArray) (k : Nat) (c : UInt8) : Bool := (t.data.toList.take k).contains c
theorem takeIn_zero (t : ByteArray) (c : UInt8) : takeIn t 0 c = false := by simp [takeIn]
theorem takeIn_all (t : ByteArray) (c : UInt8) : takeIn t t.size c = inB t c := by
  unfold takeIn inB
  rw [List.take_of_length_le (show t.data.toList.length ≤ t.size from Nat.le_refl _)]
theorem takeIn_succ (t : ByteArray) (k : Nat) (h : k < t.size) (c : UInt8) : takeIn t (k + 1) c = (takeIn t k c || c == t.get! k) := by
  have hk : k < t.data.toList.length := h
  unfold takeIn
  rw [List.take_succ_eq_append_getElem hk, Utf8W.get!_of_lt t k h]
  have e : t.data.toList[k] = t[k] := rfl
  rw [e]
  simp
  rfl
/-- The table of the bytes that are in the first k of the set. -/
def Table (cs : Array Value) (t : ByteArray) (k : Nat) : Prop := cs.size = 256 ∧ ∀ c : UInt8, cs[c.toNat]? = some (.bool (takeIn t k c))
theorem table_zero (t : ByteArray) : Table Tryd.zeroCells92 t 0 := by
  rw [zero92]
  refine ⟨by simp, fun c => ?_⟩
  have := c.toNat_lt
  rw [takeIn_zero, Array.getElem?_replicate, if_pos (by omega)]
theorem table_succ {cs : Array Value} {t : ByteArray} {k : Nat} (h : Table cs t k) (hk : k < t.size) (x : UInt8) (hx : t.get! k = x) : Table (cs.setIfInBounds x.toNat (.bool true)) t (k + 1) := by
  refine ⟨by rw [Array.size_setIfInBounds]; exact h.1, fun c => ?_⟩
  rw [takeIn_succ t k hk, hx, Array.getElem?_setIfInBounds]
  have hl := x.toNat_lt
  by_cases hc : c = x
  · subst hc
    rw [if_pos rfl, if_pos (by rw [h.1]; omega)]
    simp
  · rw [if_neg (fun e => hc (UInt8.toNat_inj.1 e.symm)), h.2 c]
    have : (c == x) = false := by rw [beq_eq_false_iff_ne]; exact hc
    rw [this, Bool.or_false]

set_option maxRecDepth 100000 in
set_option maxHeartbeats 4000000 in
theorem t43 (s t : ByteArray) (w : World) (hs : s.size ≤ 100000) (ht : t.size ≤ 100000) :
    Calls Tryd.prog 43 #[.string s, .string t] w fun e' w' => e' = .returned (.tuple #[.string (tidyS s t), .int .i64 0]) ∧ Below w.heap.size w w' := by
  have hb := tooSmall hs ht
  go_enter Tryd.func43, Tryd.ntmps43
  go_wp2_with fail
  refine (c48_2 s t false hb.out _ _ (by omega) (by omega) (by simp) (by simp) (by simp)).mono ?_
  rintro e' w2 ⟨rfl, rfl⟩
  have hB0 : Below w.heap.size w ((w.alloc (.cells #[.string s, .string t] 9)).alloc (.cells Tryd.zeroCells92 92)) := ((Below.refl _ w).alloc (Nat.le_refl _) _).alloc (by simp) _
  go_wp2
  go_loopw [7, 14] (fun _ i wr => ∃ (k : Nat) (cs : Array Value), k ≤ t.size ∧ i = .int .i64 k ∧ wr.heap[w.heap.size + 1]? = some (.cells cs 92 (0, 0)) ∧ Go.RowKit.Hid (Table cs t k) ∧ Below w.heap.size w wr) (fun _ i _ => t.size - (Go.RowKit.intOf i).toNat)
  case atStart => exact ⟨0, _, Nat.zero_le _, rfl, by rw [show w.heap.size + 1 = (w.alloc (.cells #[.string s, .string t] 9)).heap.size by simp]; exact World.alloc_heap_new _ _, table_zero t, hB0⟩
  case round =>
    obtain ⟨k, cs, hk, rfl, hblk, htab, hB1⟩ := hrel
    by_cases hlt : k < t.size
    · have hki : (k : Int) < t.size := by omega
      obtain ⟨x0, hx0⟩ : ∃ x0, t.get! k = x0 := ⟨_, rfl⟩
      have hs0 : t[k]'hlt = x0 := by rw [← hx0]; exact (Utf8W.get!_of_lt t k hlt).symm
      have l256 : (x0.toNat : Int) < 256 := by have := x0.toNat_lt; omega
      have hcell : wr.cell? ⟨w.heap.size + 1, x0.toNat, none⟩ = some (.bool (takeIn t k x0)) := by simp [World.cell?, hblk, htab.out.2 x0]
      have hfro : wr.frozen? ⟨w.heap.size + 1, x0.toNat, none⟩ = false := by simp [World.frozen?, hblk]
      have hnew := Lib.hid (table_succ htab.out hlt x0 hx0)
      have hblk2 := Lib.hid (Lib.heap_setCell_same (i := x0.toNat) hblk (.bool true))
      clear hx0 hblk
      go_wp2
      go_roundw
      case rel => exact ⟨k + 1, _, by omega, by go_num, hblk2.out, hnew, hB1.setCell (by show w.heap.size ≤ w.heap.size + 1; omega) _⟩
      case measure => simp [Go.RowKit.intOf]; omega
    · have hki : (t.size : Int) ≤ k := by omega
      have hA : Go.RowKit.Hid (∀ c : UInt8, wr.cell? ⟨w.heap.size + 1, c.toNat, none⟩ = some (.bool (inB t c))) := fun c => by
        have h1 := htab.out.2 c
        rw [show k = t.size by omega, takeIn_all] at h1
        simp [World.cell?, hblk, h1]
      clear hblk
      go_wp2
      go_loop [0] (fun c => ∃ (i : Nat) (cv : ByteArray), i ≤ s.size ∧ c = .string cv ∧ Go.RowKit.Hid (cv = s.extract i s.size) ∧ Go.RowKit.Hid (cv.size = s.size - i) ∧ Go.RowKit.Hid (leadN t s (s.size - i) i = leadN t s s.size 0)) (fun c => strLenV c)
      case atStart => exact ⟨0, s, Nat.zero_le _, rfl, (ByteArray.extract_zero_size).symm, rfl, rfl⟩
      case round =>
        obtain ⟨i, cur, hi, rfl, hcur, hcz0, hlead⟩ := hrel
        have hcz : cur.size = s.size - i := hcz0.out
        have hcle : cur.size ≤ 100000 := by omega
        by_cases h0 : cur.size = 0
        · have hz1 : (cur.size : Int) ≤ 0 := by omega
          have hI : leadN t s s.size 0 = i := by
            have := hlead.out
            rw [show s.size - i = 0 by omega] at this
            exact this.symm
          clear h0 hcz
          obtain ⟨u, hu⟩ : ∃ u, leadS t s = u := ⟨_, rfl⟩
          have hux : cur = u := by rw [← hu, hcur.out]; unfold leadS; rw [hI]
          subst hux
          have hJ := Lib.hid (show tidyS s t = cur.extract 0 (trailN t cur cur.size) by unfold tidyS; rw [hu])
          clear hu hI
          go_wp2
          go_loop [0] (fun c => ∃ (j : Nat) (cv : ByteArray), j ≤ cur.size ∧ c = .string cv ∧ Go.RowKit.Hid (cv = cur.extract 0 j) ∧ cv.size = j ∧ Go.RowKit.Hid (trailN t cur j = trailN t cur cur.size)) (fun c => strLenV c)
          case atStart => exact ⟨cur.size, cur, Nat.le_refl _, rfl, (ByteArray.extract_zero_size).symm, rfl, rfl⟩
          case round =>
            obtain ⟨j, cv, hj, rfl, hcv, hcvz, hjt⟩ := hrel
            have hclone : cv.size ≤ 281474976710656 := by omega
            rcases j with _ | j
            · have hz1 : (cv.size : Int) ≤ 0 := by omega
              have hres : Go.RowKit.Hid (tidyS s t = cv) := by
                show _ = _
                rw [hJ.out, ← hjt.out, hcv.out]; rfl
              clear hcvz
              go_wp2_with fail
              refine (c58 _ _ hclone).mono ?_
              rintro e1 w5 ⟨rfl, hb5⟩
              go_wp2
              go_ret2
              exact ⟨by rw [hres.out]; rfl, hB1.trans (hb5.mono hB1.size)⟩

            · have hz1 : 0 < cv.size := by omega
              have hz2 : (0 : Int) < cv.size := by omega
              have hjl : j < cv.size := by omega
              have hzi : (cv.size : Int) = (j : Int) + 1 := by omega
              obtain ⟨x1, hx1⟩ : ∃ x1, cv.get! j = x1 := ⟨_, rfl⟩
              have k256 : (x1.toNat : Int) < 256 := by have := x1.toNat_lt; omega
              have hs1 : cv[j]'hjl = x1 := by rw [← hx1]; exact (Utf8W.get!_of_lt cv j hjl).symm
              have hx2 : cur.get! j = x1 := by rw [← hx1, hcv.out, get!_cut cur (j + 1) j hj (by omega)]
              cases hin0 : inB t x1 with
              | true =>
                have hin := Lib.hid hin0
                have hjt2 : Go.RowKit.Hid (trailN t cur j = trailN t cur cur.size) := by
                  have := hjt.out
                  rw [trailN_yes (by rw [hx2]; exact hin0)] at this
                  exact this
                have hcut : Go.RowKit.Hid (cv.extract 0 j = cur.extract 0 j) := by show _ = _; rw [hcv.out, cut_last cur j hj]
                have hsz3 : (cv.extract 0 j).size = j := by simp; omega
                clear hx1 hx2 hin0
                have hcell := hA.out x1
                rw [hin.out] at hcell

                go_wp2
                go_round
                case rel => exact ⟨j, _, by omega, rfl, hcut, hsz3, hjt2⟩
                case measure => show (cv.extract 0 j).size < cv.size; omega
              | false =>
                have hin := Lib.hid hin0
                have hres : Go.RowKit.Hid (tidyS s t = cv) := by
                  have := hjt.out
                  rw [trailN_no (by rw [hx2]; exact hin0)] at this
                  show _ = _
                  rw [hJ.out, hcv.out, ← this]
                clear hx1 hx2 hin0
                have hcell := hA.out x1
                rw [hin.out] at hcell

                go_wp2_with fail
                refine (c58 _ _ hclone).mono ?_
                rintro e1 w5 ⟨rfl, hb5⟩
                go_wp2
                go_ret2
                exact ⟨by rw [hres.out]; rfl, hB1.trans (hb5.mono hB1.size)⟩


        · have hz1 : 0 < cur.size := by omega
          have hz2 : (0 : Int) < cur.size := by omega
          have hil : i < s.size := by omega
          obtain ⟨x0, hx0⟩ : ∃ x0, cur.get! 0 = x0 := ⟨_, rfl⟩
          have l256 : (x0.toNat : Int) < 256 := by have := x0.toNat_lt; omega
          have hs0 : cur[0]'hz1 = x0 := by rw [← hx0]; exact (Utf8W.get!_of_lt cur 0 hz1).symm
          have hx2 : s.get! i = x0 := by rw [← hx0, hcur.out, get!_sub s i 0 (by omega)]; rfl
          have hld := hlead.out
          rw [show s.size - i = (s.size - (i + 1)) + 1 by omega] at hld
          cases hin0 : inB t x0 with
          | true =>
            have hin := Lib.hid hin0
            have hld2 : Go.RowKit.Hid (leadN t s (s.size - (i + 1)) (i + 1) = leadN t s s.size 0) := by
              rw [leadN_yes (by rw [hx2]; exact hin0)] at hld
              exact hld
            have hcut : Go.RowKit.Hid (cur.extract 1 cur.size = s.extract (i + 1) s.size) := by show _ = _; rw [hcur.out, cut_next s i hil]
            have hsz3 : Go.RowKit.Hid ((cur.extract 1 cur.size).size = s.size - (i + 1)) := by show _ = _; simp; omega
            have hszm : (cur.extract 1 cur.size).size < cur.size := by simp; omega
            have hszM := Lib.hid hszm
            clear h0 hx0 hx2 hin0 hld hcz hszm
            have hcell := hA.out x0
            rw [hin.out] at hcell

            go_wp2
            go_round
            case rel => exact ⟨i + 1, _, by omega, rfl, hcut, hsz3, hld2⟩
            case measure => exact hszM.out
          | false =>
            have hin := Lib.hid hin0
            have hI : leadN t s s.size 0 = i := by
              rw [leadN_no (by rw [hx2]; exact hin0)] at hld
              exact hld.symm
            clear h0 hx0 hx2 hin0 hld hcz
            have hcell := hA.out x0
            rw [hin.out] at hcell

            obtain ⟨u, hu⟩ : ∃ u, leadS t s = u := ⟨_, rfl⟩
            have hux : cur = u := by rw [← hu, hcur.out]; unfold leadS; rw [hI]
            subst hux
            have hJ := Lib.hid (show tidyS s t = cur.extract 0 (trailN t cur cur.size) by unfold tidyS; rw [hu])
            clear hu hI
            go_wp2
            go_loop [0] (fun c => ∃ (j : Nat) (cv : ByteArray), j ≤ cur.size ∧ c = .string cv ∧ Go.RowKit.Hid (cv = cur.extract 0 j) ∧ cv.size = j ∧ Go.RowKit.Hid (trailN t cur j = trailN t cur cur.size)) (fun c => strLenV c)
            case atStart => exact ⟨cur.size, cur, Nat.le_refl _, rfl, (ByteArray.extract_zero_size).symm, rfl, rfl⟩
            case round =>
              obtain ⟨j, cv, hj, rfl, hcv, hcvz, hjt⟩ := hrel
              have hclone : cv.size ≤ 281474976710656 := by omega
              rcases j with _ | j
              · have hz1 : (cv.size : Int) ≤ 0 := by omega
                have hres : Go.RowKit.Hid (tidyS s t = cv) := by
                  show _ = _
                  rw [hJ.out, ← hjt.out, hcv.out]; rfl
                clear hcvz
                go_wp2_with fail
                refine (c58 _ _ hclone).mono ?_
                rintro e1 w5 ⟨rfl, hb5⟩
                go_wp2
                go_ret2
                exact ⟨by rw [hres.out]; rfl, hB1.trans (hb5.mono hB1.size)⟩

              · have hz1 : 0 < cv.size := by omega
                have hz2 : (0 : Int) < cv.size := by omega
                have hjl : j < cv.size := by omega
                have hzi : (cv.size : Int) = (j : Int) + 1 := by omega
                obtain ⟨x1, hx1⟩ : ∃ x1, cv.get! j = x1 := ⟨_, rfl⟩
                have k256 : (x1.toNat : Int) < 256 := by have := x1.toNat_lt; omega
                have hs1 : cv[j]'hjl = x1 := by rw [← hx1]; exact (Utf8W.get!_of_lt cv j hjl).symm
                have hx2 : cur.get! j = x1 := by rw [← hx1, hcv.out, get!_cut cur (j + 1) j hj (by omega)]
                cases hin0 : inB t x1 with
                | true =>
                  have hin := Lib.hid hin0
                  have hjt2 : Go.RowKit.Hid (trailN t cur j = trailN t cur cur.size) := by
                    have := hjt.out
                    rw [trailN_yes (by rw [hx2]; exact hin0)] at this
                    exact this
                  have hcut : Go.RowKit.Hid (cv.extract 0 j = cur.extract 0 j) := by show _ = _; rw [hcv.out, cut_last cur j hj]
                  have hsz3 : (cv.extract 0 j).size = j := by simp; omega
                  clear hx1 hx2 hin0
                  have hcell := hA.out x1
                  rw [hin.out] at hcell

                  go_wp2
                  go_round
                  case rel => exact ⟨j, _, by omega, rfl, hcut, hsz3, hjt2⟩
                  case measure => show (cv.extract 0 j).size < cv.size; omega
                | false =>
                  have hin := Lib.hid hin0
                  have hres : Go.RowKit.Hid (tidyS s t = cv) := by
                    have := hjt.out
                    rw [trailN_no (by rw [hx2]; exact hin0)] at this
                    show _ = _
                    rw [hJ.out, hcv.out, ← this]
                  clear hx1 hx2 hin0
                  have hcell := hA.out x1
                  rw [hin.out] at hcell

                  go_wp2_with fail
                  refine (c58 _ _ hclone).mono ?_
                  rintro e1 w5 ⟨rfl, hb5⟩
                  go_wp2
                  go_ret2
                  exact ⟨by rw [hres.out]; rfl, hB1.trans (hb5.mono hB1.size)⟩




theorem cmp_cons (s t : ByteArray) (k : Nat) (h1 : k < s.size) (h2 : k < t.size) :
    Lib.compareBytes (s.data.toList.drop k) (t.data.toList.drop k) = if s.get! k < t.get! k then -1 else if t.get! k < s.get! k then 1 else Lib.compareBytes (s.data.toList.drop (k + 1)) (t.data.toList.drop (k + 1)) := by
  have k1 : k < s.data.toList.length := h1
  have k2 : k < t.data.toList.length := h2
  rw [List.drop_eq_getElem_cons k1, List.drop_eq_getElem_cons k2, Utf8W.get!_of_lt s k h1, Utf8W.get!_of_lt t k h2]
  rfl
theorem cmp_end (s t : ByteArray) (k : Nat) (h1 : k ≤ s.size) (h2 : k ≤ t.size) (h : s.size ≤ k ∨ t.size ≤ k) :
    Lib.compareBytes (s.data.toList.drop k) (t.data.toList.drop k) = if s.size < t.size then -1 else if t.size < s.size then 1 else 0 := by
  have e1 : s.data.toList.length = s.size := rfl
  have e2 : t.data.toList.length = t.size := rfl
  by_cases a : s.size ≤ k
  · have d1 : s.data.toList.drop k = [] := List.drop_eq_nil_of_le (by omega)
    rw [d1]
    by_cases b : t.size ≤ k
    · have d2 : t.data.toList.drop k = [] := List.drop_eq_nil_of_le (by omega)
      rw [d2, if_neg (by omega), if_neg (by omega)]; rfl
    · rw [List.drop_eq_getElem_cons (show k < t.data.toList.length by omega), if_pos (by omega)]; rfl
  · have b : t.size ≤ k := by omega
    have d2 : t.data.toList.drop k = [] := List.drop_eq_nil_of_le (by omega)
    rw [d2, List.drop_eq_getElem_cons (show k < s.data.toList.length by omega), if_neg (by omega), if_pos (by omega)]; rfl
theorem cmp_swap : ∀ (a b : List UInt8), Lib.compareBytes b a = - Lib.compareBytes a b
  | [], [] => rfl
  | [], _ :: _ => rfl
  | _ :: _, [] => rfl
  | x :: a, y :: b => by
    show (if y < x then (-1 : Int) else if x < y then 1 else Lib.compareBytes b a) = - (if x < y then -1 else if y < x then 1 else Lib.compareBytes a b)
    by_cases h1 : y < x
    · rw [if_pos h1, if_neg (fun h => by simp only [UInt8.lt_iff_toNat_lt] at h h1; omega), if_pos h1]
    · rw [if_neg h1]
      by_cases h2 : x < y
      · rw [if_pos h2, if_pos h2]; rfl
      · rw [if_neg h2, if_neg h2, if_neg h1]; exact cmp_swap a b
theorem cmp_range : ∀ (a b : List UInt8), -1 ≤ Lib.compareBytes a b ∧ Lib.compareBytes a b ≤ 1
  | [], [] => by decide
  | [], _ :: _ => by show (-1 : Int) ≤ -1 ∧ (-1 : Int) ≤ 1; decide
  | _ :: _, [] => by show (-1 : Int) ≤ 1 ∧ (1 : Int) ≤ 1; decide
  | x :: a, y :: b => by
    show -1 ≤ (if x < y then (-1 : Int) else if y < x then 1 else Lib.compareBytes a b) ∧ (if x < y then (-1 : Int) else if y < x then 1 else Lib.compareBytes a b) ≤ 1
    have := cmp_range a b
    split
    · decide
    · split
      · decide
      · exact this

set_option maxRecDepth 100000 in
set_option maxHeartbeats 4000000 in
theorem r46 (s t : ByteArray) (w : World) (hs : s.size ≤ 100000) (_ht : t.size ≤ 100000) :
    Calls Tryd.prog 46 #[.string s, .string t] w fun e' w' => e' = .returned (.int .i64 (Lib.compareBytes s.data.toList t.data.toList)) ∧ Below w.heap.size w w' := by
  go_enter Tryd.func46, Tryd.ntmps46
  go_wp2
  go_loopw [5] (fun i wr => ∃ k : Nat, k ≤ s.size ∧ k ≤ t.size ∧ i = .int .i64 k ∧ Go.RowKit.Hid (Lib.compareBytes (s.data.toList.drop k) (t.data.toList.drop k) = Lib.compareBytes s.data.toList t.data.toList) ∧ Below w.heap.size w wr) (fun i _ => s.size - (Go.RowKit.intOf i).toNat)
  case atStart => exact ⟨0, Nat.zero_le _, Nat.zero_le _, rfl, rfl, Below.refl _ _⟩
  case round =>
    obtain ⟨k, hk1, hk2, rfl, hc, hB⟩ := hrel
    by_cases hin : k < s.size ∧ k < t.size
    · obtain ⟨l1, l2⟩ := hin
      have i1 : (k : Int) < s.size := by omega
      have i2 : (k : Int) < t.size := by omega
      have hcc := hc.out
      rw [cmp_cons s t k l1 l2] at hcc
      obtain ⟨x, hx⟩ : ∃ x, s.get! k = x := ⟨_, rfl⟩
      obtain ⟨y, hy⟩ : ∃ y, t.get! k = y := ⟨_, rfl⟩
      rw [hx, hy] at hcc
      have hs0 : s[k]'l1 = x := by rw [← hx]; exact (Utf8W.get!_of_lt s k l1).symm
      have ht0 : t[k]'l2 = y := by rw [← hy]; exact (Utf8W.get!_of_lt t k l2).symm
      clear hx hy
      by_cases h1 : x < y
      · have g1 : (x.toNat : Int) < y.toNat := by rw [UInt8.lt_iff_toNat_lt] at h1; omega
        have d1 : decide ((x.toNat : Int) < y.toNat) = true := by simp; omega
        rw [if_pos h1] at hcc
        have HCC := Lib.hid hcc
        clear hcc h1
        go_wp2
        go_quiet (fail)
        have hb1 : Below wr.heap.size wr (wr.drewN nq) := below_drewN (Below.refl _ wr) nq
        go_wp2
        go_ret
        exact ⟨by rw [← HCC.out]; rfl, hB.trans (hb1.mono hB.size)⟩
      · by_cases h2 : y < x
        · have g1 : (y.toNat : Int) < x.toNat := by rw [UInt8.lt_iff_toNat_lt] at h2; omega
          have d1 : decide ((x.toNat : Int) < y.toNat) = false := by simp; omega
          have d2 : decide ((y.toNat : Int) < x.toNat) = true := by simp; omega
          rw [if_neg h1, if_pos h2] at hcc
          have HCC := Lib.hid hcc
          clear hcc h1 h2
          go_wp2
          go_quiet (fail)
          have hb1 : Below wr.heap.size wr (wr.drewN nq) := below_drewN (Below.refl _ wr) nq
          generalize wr.drewN nq = wq at hb1 ⊢
          go_wp2
          go_quiet (fail)
          have hb2 : Below wq.heap.size wq (wq.drewN nq) := below_drewN (Below.refl _ wq) nq
          go_wp2
          go_ret
          exact ⟨by rw [← HCC.out]; rfl, hB.trans ((hb1.trans (hb2.mono hb1.size)).mono hB.size)⟩
        · have g1 : (x.toNat : Int) = y.toNat := by rw [UInt8.lt_iff_toNat_lt] at h1 h2; omega
          have d1 : decide ((x.toNat : Int) < y.toNat) = false := by simp; omega
          have d2 : decide ((y.toNat : Int) < x.toNat) = false := by simp; omega
          rw [if_neg h1, if_neg h2] at hcc
          have HCC : Go.RowKit.Hid (Lib.compareBytes (s.data.toList.drop (k + 1)) (t.data.toList.drop (k + 1)) = Lib.compareBytes s.data.toList t.data.toList) := hcc
          have g2 : (x.toNat : Int) ≤ y.toNat := by omega
          have g3 : (y.toNat : Int) ≤ x.toNat := by omega
          clear hcc h1 h2 g1
          go_wp2
          go_quiet (fail)
          have hb1 : Below wr.heap.size wr (wr.drewN nq) := below_drewN (Below.refl _ wr) nq
          generalize wr.drewN nq = wq at hb1 ⊢
          go_wp2
          go_quiet (fail)
          have hb2 : Below wq.heap.size wq (wq.drewN nq) := below_drewN (Below.refl _ wq) nq
          go_wp2
          go_roundw
          case rel => exact ⟨k + 1, by omega, by omega, by go_num, HCC, hB.trans ((hb1.trans (hb2.mono hb1.size)).mono hB.size)⟩
          case measure => simp [Go.RowKit.intOf]; omega
    · have hcc := hc.out
      rw [cmp_end s t k hk1 hk2 (by omega)] at hcc
      have HCC := Lib.hid hcc
      clear hcc
      by_cases a : s.size ≤ k
      · have a1 : (s.size : Int) ≤ k := by omega
        by_cases b : s.size < t.size
        · have b1 : (s.size : Int) < t.size := by omega
          have b2 : decide ((s.size : Int) < t.size) = true := by simp; omega
          go_wp2
          go_ret
          exact ⟨by rw [← HCC.out, if_pos b]; rfl, hB⟩
        · have b1 : (t.size : Int) ≤ s.size := by omega
          have b2 : decide ((s.size : Int) < t.size) = false := by simp; omega
          have b3 : decide ((t.size : Int) < s.size) = false := by simp; omega
          have b4 : (s.size : Int) ≤ t.size := by omega
          go_wp2
          go_ret
          exact ⟨by rw [← HCC.out, if_neg b, if_neg (by omega)]; rfl, hB⟩
      · have a1 : (k : Int) < s.size := by omega
        have a2 : (t.size : Int) ≤ k := by omega
        have b1 : (t.size : Int) < s.size := by omega
        have b2 : decide ((s.size : Int) < t.size) = false := by simp; omega
        have b3 : decide ((t.size : Int) < s.size) = true := by simp; omega
        go_wp2
        go_ret
        exact ⟨by rw [← HCC.out, if_neg (by omega), if_pos (by omega)]; rfl, hB⟩

set_option maxRecDepth 100000 in
set_option maxHeartbeats 4000000 in
theorem c13 (s t : ByteArray) (w : World) (hT : Lib.Utf8Tabs 0 1 w) (hs : s.size ≤ 9223372036854775807) (ht : t.size ≤ 9223372036854775807) :
    Calls Tryd.prog 13 #[.string s, .string t] w fun e' w' => e' = .returned (.bool true) ∧ Below w.heap.size w w' := by
  have HT := Lib.hid hT
  have HE := Lib.hid (fun W (hb : Below w.heap.size w W) => c15 W (Utf8Tabs_below HT.out hb))
  by_cases hb : 3000 < s.size ∨ 3000 < t.size
  · by_cases h1 : 3000 < s.size
    · have g1 : (3000 : Int) < s.size := by omega
      have d1 : decide ((3000 : Int) < s.size) = true := by simp; omega
      clear hT hb
      go_enter Tryd.func13, Tryd.ntmps13
      go_wp2_with fail
      refine (HE.out _ (Below.refl _ _)).mono ?_
      rintro e1 w2 ⟨rfl, hb2⟩
      go_wp2
      go_ret
      exact ⟨rfl, hb2⟩
    · have g1 : (s.size : Int) ≤ 3000 := by omega
      have d1 : decide ((3000 : Int) < s.size) = false := by simp; omega
      have g2 : (3000 : Int) < t.size := by omega
      have d2 : decide ((3000 : Int) < t.size) = true := by simp; omega
      clear hT hb
      go_enter Tryd.func13, Tryd.ntmps13
      go_wp2_with fail
      refine (HE.out _ (Below.refl _ _)).mono ?_
      rintro e1 w2 ⟨rfl, hb2⟩
      go_wp2
      go_ret
      exact ⟨rfl, hb2⟩
  · have hs3 : s.size ≤ 3000 := by omega
    have ht3 : t.size ≤ 3000 := by omega
    have cA := t43 s t w (by omega) (by omega)
    have HB := Lib.hid (fun W => r44 s t W (by omega) (by omega))
    have hr := cmp_range s.data.toList t.data.toList
    have hsw := cmp_swap s.data.toList t.data.toList
    have cC := fun W => t45 s t W
    have cD := fun W => r46 s t W (by omega) (by omega)
    have cF := fun W => t45 t s W
    rw [hsw] at cF
    generalize Lib.compareBytes s.data.toList t.data.toList = c at hr cC cD cF
    generalize tidyS s t = v at cA HB
    have HC := Lib.hid cC
    have HD := Lib.hid cD
    have HF := Lib.hid cF
    obtain ⟨r1, r2⟩ := hr
    have hneg : wrap64 (-c) = -c := IntWalk.wrap64_in _ (by omega)
    have hneg2 : IntKind.i64.wrap (-c) = -c := by rw [IntKind.wrap_i64]; omega
    clear cC cD cF hsw hT hb
    have g1 : (s.size : Int) ≤ 3000 := by omega
    have d1 : decide ((3000 : Int) < s.size) = false := by simp; omega
    have g2 : (t.size : Int) ≤ 3000 := by omega
    have d2 : decide ((3000 : Int) < t.size) = false := by simp; omega
    go_enter Tryd.func13, Tryd.ntmps13
    go_wp2_with fail
    refine cA.mono ?_
    rintro e1 w2 ⟨rfl, hb2⟩
    go_wp2_with fail
    refine (HB.out _).mono ?_
    rintro e1 w3 ⟨rfl, hb3⟩
    have hB3 := hb2.trans (hb3.mono hb2.size)
    go_wp2_with fail
    refine (HC.out _).mono ?_
    rintro e1 w4 ⟨rfl, rfl⟩
    go_wp2_with fail
    refine (HD.out _).mono ?_
    rintro e1 w5 ⟨rfl, hb5⟩
    have hB5 := hB3.trans (hb5.mono hB3.size)
    go_wp2_with fail
    refine (HF.out _).mono ?_
    rintro e1 w6 ⟨rfl, rfl⟩
    go_wp2_with fail
    refine (HD.out _).mono ?_
    rintro e1 w7 ⟨rfl, hb7⟩
    have hB7 := hB5.trans (hb7.mono hB5.size)
    go_wp2_with fail
    refine (HE.out _ hB7).mono ?_
    rintro e1 w8 ⟨rfl, hb8⟩
    go_wp2
    go_ret
    exact ⟨rfl, hB7.trans (hb8.mono hB7.size)⟩
end Go.Proofs.YtjdnpgknamhnlaaDoor
