/- The size of what is packed; contracts of the law's large and packs; the walk of PackWrites. -/
import Derived.Test.YtmbnckmhngijdaaGreatDoorSJ
namespace Go.Proofs.YtmbnckmhngijdaaGreatDoor
open Go Go.RowKit

/-! ### errors are no zeros -/
theorem itemL_err {d : Dir} {x : Itm} {e : Nat} (h : itemL d x = .error e) : e ≠ 0 := by
  unfold itemL at h
  split at h
  · split at h
    · cases h; decide
    · cases h
  · split at h
    · split at h
      · cases h
      · cases h; decide
    · cases h
theorem takeL_err {xs : List Itm} {d : Dir} {st : St} {e : Nat} (h : takeL xs d st = .error e) : e ≠ 0 := by
  unfold takeL at h
  split at h
  · cases h; decide
  · split at h
    · cases h; decide
    · split at h
      · rename_i hi; cases h; exact itemL_err hi
      · split at h
        · rename_i ha; cases h; rw [addL_err ha]; decide
        · cases h
theorem takesL_err {xs : List Itm} {d : Dir} : ∀ (n : Nat) (st : St) (e : Nat), takesL xs d n st = .error e → e ≠ 0
  | 0, _, _, h => by cases h
  | n + 1, st, e, h => by
    unfold takesL at h
    split at h
    · rename_i ht; cases h; exact takeL_err ht
    · exact takesL_err n _ e h
theorem stepL_err {xs : List Itm} {d : Dir} {st : St} {e : Nat} (h : stepL xs d st = .error e) : e ≠ 0 := by
  unfold stepL at h
  split at h
  · split at h
    · rename_i ha; cases h; rw [addL_err ha]; decide
    · cases h
  · split at h
    · cases h
    · exact takesL_err _ _ _ h
theorem runL_err {xs : List Itm} : ∀ (ds : List Dir) (st : St) (e : Nat), runL xs ds st = .error e → e ≠ 0
  | [], _, _, h => by cases h
  | d :: ds, st, e, h => by
    unfold runL at h
    split at h
    · rename_i hs; cases h; exact stepL_err hs
    · exact runL_err ds _ e h
theorem packL_err {f : List UInt8} {xs : List Itm} {e : Nat} (h : packL f xs = .error e) : e ≠ 0 := by
  unfold packL at h
  split at h
  · cases h; decide
  · exact runL_err _ _ _ h
theorem sizeL_err : ∀ (ds : List Dir) (n e : Nat), sizeL ds n = .error e → e ≠ 0
  | [], _, _, h => by cases h
  | d :: ds, n, e, h => by
    unfold sizeL at h
    split at h
    · cases h; decide
    · exact sizeL_err ds _ e h
theorem sizeF_err {f : List UInt8} {e : Nat} (h : sizeF f = .error e) : e ≠ 0 := by
  unfold sizeF at h
  split at h
  · cases h; decide
  · exact sizeL_err _ _ _ h

/-! ### the size of what is packed -/
theorem numB_size {d : Dir} {n : Int} (h85 : d.c ≠ 85) (h119 : d.c ≠ 119) : (numB d n).length = sizeC d.c := by
  unfold numB
  rw [if_neg h85, if_neg h119]
  split
  · rw [List.length_reverse, leL_length]
  · rw [leL_length]
def unitD (d : Dir) : Nat := if d.c = 72 then (d.n + 1) / 2 else if numC d.c then sizeC d.c else d.n
theorem itemL_size {d : Dir} {x : Itm} {b : List UInt8} (hd : d.Fine) (h64 : d.c ≠ 64) (hal : d.all = false) (hnu : ¬ (numC d.c = true ∧ sizeC d.c = 0)) (h : itemL d x = .ok b) : b.length = unitD d := by
  unfold itemL at h
  unfold unitD
  split at h
  · rename_i h72
    rw [if_pos h72]
    split at h
    · cases h
    · rename_i b' hb
      cases h
      rw [hexB_N, hal] at hb
      rw [if_neg (by decide)] at hb
      unfold hexN at hb
      cases hv : hexVs (x.s.take d.n) with
      | none => rw [hv] at hb; cases hb
      | some v =>
        rw [hv] at hb
        cases hb
        have hl := (hexVs_lt _ _ hv).1
        rw [List.length_take] at hl
        rw [pairL_length, List.length_append, List.length_replicate, hl]
        congr 1
        omega
  · rename_i h72
    rw [if_neg h72]
    split at h
    · rename_i hn
      rw [if_pos hn]
      split at h
      · cases h
        refine numB_size (fun e => hnu ⟨hn, by rw [e]; rfl⟩) (fun e => hnu ⟨hn, by rw [e]; rfl⟩)
      · cases h
    · rename_i hn
      rw [if_neg hn]
      cases h
      unfold fillL
      have hp := hd.pos hal h64
      rw [hal, if_neg (by decide)]
      split
      · split
        · rw [List.length_append, List.length_take]; simp; omega
        · rw [List.length_take]; omega
      · rw [List.length_append, List.length_replicate]; omega
theorem takesL_size {xs : List Itm} {d : Dir} (hd : d.Fine) (h64 : d.c ≠ 64) (hal : d.all = false) (hnu : ¬ (numC d.c = true ∧ sizeC d.c = 0)) : ∀ (n : Nat) (st st' : St), takesL xs d n st = .ok st' → st'.1.length = st.1.length + n * unitD d
  | 0, st, st', h => by cases h; simp
  | n + 1, st, st', h => by
    unfold takesL at h
    split at h
    · cases h
    · rename_i st1 ht
      have h1 := takesL_size hd h64 hal hnu n st1 st' h
      have h2 : st1.1.length = st.1.length + unitD d := by
        unfold takeL at ht
        split at ht
        · cases ht
        · split at ht
          · cases ht
          · split at ht
            · cases ht
            · rename_i b hb
              split at ht
              · cases ht
              · rename_i o ho
                cases ht
                unfold addL at ho
                split at ho
                · cases ho
                · cases ho
                  rw [List.length_append, itemL_size hd h64 hal hnu hb]
      rw [h1, h2, Nat.succ_mul]; omega
theorem runL_size {xs : List Itm} : ∀ (ds : List Dir) (st st' : St) (n : Nat), (∀ d ∈ ds, d.Ok) → runL xs ds st = .ok st' → sizeL ds st.1.length = .ok n → st'.1.length = n
  | [], st, st', n, _, h, hs => by cases h; cases hs; rfl
  | d :: ds, st, st', n, hok, h, hs => by
    have hd := hok d (by simp)
    unfold runL at h
    split at h
    · cases h
    · rename_i st1 hst
      unfold sizeL at hs
      split at hs
      · cases hs
      · rename_i hc
        simp only [Bool.or_eq_true, Bool.and_eq_true, decide_eq_true_eq, not_or] at hc
        have hal : d.all = false := by simpa using hc.1
        have h1 : st1.1.length = if d.c = 64 then d.n else if d.c = 72 then st.1.length + (d.n + 1) / 2 else if numC d.c then st.1.length + d.n * sizeC d.c else st.1.length + d.n := by
          unfold stepL at hst
          split at hst
          · rename_i h120
            rw [if_neg (by rw [h120]; decide), if_neg (by rw [h120]; decide), if_neg (by rw [h120]; decide)]
            split at hst
            · cases hst
            · rename_i o ho
              cases hst
              unfold addL at ho
              split at ho
              · cases ho
              · cases ho; rw [List.length_append, List.length_replicate]
          · rename_i h120
            split at hst
            · rename_i h64
              cases hst
              rw [if_pos h64]
              dsimp only
              split
              · rw [List.length_append, List.length_replicate]; omega
              · rw [List.length_take]; omega
            · rename_i h64
              have := takesL_size hd.fine h64 hal hc.2 _ _ _ hst
              rw [this, if_neg h64]
              unfold usesD unitD
              by_cases h72 : d.c = 72
              · rw [if_pos h72, if_pos h72, if_neg (by rw [h72]; decide)]; omega
              · rw [if_neg h72, if_neg h72]
                by_cases hn : numC d.c = true
                · rw [if_pos hn, if_pos hn, if_pos hn, hal, if_neg (by decide)]
                · rw [if_neg hn, if_neg hn, if_neg hn]; omega
        rw [← h1] at hs
        exact runL_size ds st1 st' n (fun d' h' => hok d' (List.mem_cons_of_mem _ h')) h hs
theorem size_pack {f : List UInt8} {xs : List Itm} {st : St} {n : Nat} (h : packL f xs = .ok st) (hs : sizeF f = .ok n) : st.1.length = n := by
  unfold packL at h
  unfold sizeF at hs
  cases hf : formL f with
  | none => rw [hf] at h; cases h
  | some ds =>
    rw [hf] at h hs
    exact runL_size ds _ st n (formL_ok hf).2 h hs

/-! ### the law's large -/
def sumN : List Itm → Nat
  | [] => 0
  | x :: l => min x.s.length 200000 + sumN l
theorem sumN_take (xs : List Itm) (j : Nat) (x : Itm) (h : xs[j]? = some x) : sumN (xs.take (j + 1)) = sumN (xs.take j) + min x.s.length 200000 := by
  induction xs generalizing j with
  | nil => simp at h
  | cons y l ih =>
    cases j with
    | zero => simp at h; subst h; simp [sumN]
    | succ j =>
      rw [List.take_succ_cons, List.take_succ_cons, sumN, sumN, ih j (by simpa using h)]; omega
theorem sumN_mem (xs : List Itm) (x : Itm) (h : x ∈ xs) : min x.s.length 200000 ≤ sumN xs := by
  induction xs with
  | nil => cases h
  | cons y l ih =>
    rcases List.mem_cons.1 h with rfl | h
    · simp only [sumN]; omega
    · have := ih h; simp only [sumN]; omega
theorem sumN_le (xs : List Itm) : sumN xs ≤ xs.length * 200000 := by
  induction xs with
  | nil => simp [sumN]
  | cons y l ih => simp only [sumN, List.length_cons]; omega
def largeB (f : ByteArray) (xs : List Itm) : Bool := decide (2000 < f.size) || decide (2000 < xs.length) || decide (200000 < sumN xs)
theorem large_no {f : ByteArray} {xs : List Itm} (h : largeB f xs = false) : f.size ≤ 2000 ∧ xs.length ≤ 2000 := by
  unfold largeB at h
  simp only [Bool.or_eq_false_iff, decide_eq_false_iff_not] at h
  exact ⟨by omega, by omega⟩
theorem itsAt {w W : World} {iv : Value} {xs : List Itm} (hI : Its w.heap.size w iv xs) (hb : Below w.heap.size w W) : Its W.heap.size W iv xs := (hI.below hb).mono hb.size
set_option maxRecDepth 100000 in
set_option maxHeartbeats 2000000 in
theorem t9 (f : ByteArray) (iv : Value) (xs : List Itm) (w : World) (hf : f.size ≤ 9223372036854775807) (hI : Its w.heap.size w iv xs) : Calls Tryz.prog 9 #[.string f, iv] w fun e w' => e = .returned (.bool (largeB f xs)) ∧ w = w' := by
  obtain ⟨p, cap, rfl, hxl, hI3⟩ := hI
  have HI3 := Lib.hid hI3
  have HL : Hid (largeB f xs = (decide (2000 < f.size) || decide (2000 < xs.length) || decide (200000 < sumN xs))) := rfl
  have HXL := Lib.hid hxl
  clear hI3 hxl
  by_cases h1 : 2000 < f.size
  · have d1 : decide ((2000 : Int) < (f.size : Int)) = true := decide_eq_true (by omega)
    have HE : Hid (largeB f xs = true) := by show _ = _; rw [HL.out, decide_eq_true h1]; rfl
    clear h1 hf
    go_enter Tryz.func9, Tryz.ntmps9
    go_wp2
    go_ret
    exact ⟨by rw [HE.out]; rfl, rfl⟩
  · have d1 : decide ((2000 : Int) < (f.size : Int)) = false := decide_eq_false (by omega)
    by_cases h2 : 2000 < xs.length
    · have d2 : decide ((2000 : Int) < (xs.length : Int)) = true := decide_eq_true (by omega)
      have HE : Hid (largeB f xs = true) := by show _ = _; rw [HL.out, decide_eq_true h2]; simp
      clear h1 h2 hf
      go_enter Tryz.func9, Tryz.ntmps9
      go_wp2
      go_ret
      exact ⟨by rw [HE.out]; rfl, rfl⟩
    · have d2 : decide ((2000 : Int) < (xs.length : Int)) = false := decide_eq_false (by omega)
      have HE : Hid (largeB f xs = decide (200000 < sumN xs)) := by show _ = _; rw [HL.out, decide_eq_false h1, decide_eq_false h2]; rfl
      have HX2 : Hid (xs.length ≤ 2000) := by show _ ≤ _; omega
      clear h1 h2 hf
      go_enter Tryz.func9, Tryz.ntmps9
      go_wp2_with fail
      go_loopw [5, 6] (fun n i wr => (∃ j : Nat, j ≤ xs.length ∧ i = .int .i64 j ∧ n = .int .i64 (sumN (xs.take j))) ∧ w = wr) (fun _ i _ => xs.length - (intOf i).toNat)
      case atStart => exact ⟨⟨0, Nat.zero_le _, rfl, rfl⟩, by first | rfl | trivial⟩
      case round =>
        obtain ⟨⟨j, hj, rfl, rfl⟩, rfl⟩ := hrel
        by_cases hlt : j < xs.length
        · have hlti : (j : Int) < xs.length := by omega
          obtain ⟨x, hx⟩ : ∃ x, xs[j]? = some x := ⟨xs[j], List.getElem?_eq_getElem hlt⟩
          obtain ⟨g, off, rfl, hg, c0, c1, c2⟩ := HI3.out j x hx
          have hst := sumN_take xs j x hx
          obtain ⟨m, hm⟩ : ∃ m, sumN (xs.take j) = m := ⟨_, rfl⟩
          obtain ⟨q, hq⟩ : ∃ q, min x.s.length 200000 = q := ⟨_, rfl⟩
          have hle := sumN_le (xs.take j)
          rw [hm, List.length_take] at hle
          have hx2 := HX2.out
          have hmb : m ≤ 400000000 := Nat.le_trans hle (Nat.le_trans (Nat.mul_le_mul_right 200000 (show min j xs.length ≤ 2000 by omega)) (by decide))
          have hqb : q ≤ 200000 := by omega
          have hjb : j < 2000 := by omega
          have hsz : x.str.size = x.s.length := rfl
          have hmn : min (x.str.size : Int) 200000 = (q : Int) := by omega
          rw [hm, hq] at hst
          rw [hm]
          have HST : Hid (((m : Int) + q) = ((sumN (xs.take (j + 1)) : Nat) : Int)) := by show _ = _; rw [hst]; omega
          clear hst hle hx hm hq hx2 hsz
          go_wp2
          go_roundw
          case rel => exact ⟨⟨j + 1, by omega, by go_num, congrArg (Value.int .i64) HST.out⟩, by first | rfl | trivial⟩
          case measure => simp [intOf]; omega
        · obtain rfl : xs.length = j := by omega
          rw [List.take_length]
          obtain ⟨m, hm⟩ : ∃ m, sumN xs = m := ⟨_, rfl⟩
          rw [hm] at HE ⊢
          have hdm : decide ((200000 : Int) < (m : Int)) = decide (200000 < m) := by congr 1; exact propext (by omega)
          have HD := Lib.hid hdm
          clear hlt hm hdm
          go_wp2
          go_ret
          refine ⟨?_, by first | rfl | trivial⟩
          rw [HE.out]
          first | rfl | exact ret_bool HD.out | exact ret_bool HD.out.symm
set_option maxRecDepth 100000 in
set_option maxHeartbeats 4000000 in
theorem t10 (f : ByteArray) (iv : Value) (xs : List Itm) (w : World) (hG : Gl w) (hf : f.size ≤ 2000) (hl : xs.length ≤ 2000) (hI : Its w.heap.size w iv xs) (hx : ItsOk xs) :
    Calls Tryz.prog 10 #[.string f, iv] w fun e w' => e = .returned (.bool true) ∧ Below w.heap.size w w' := by
  obtain ⟨S, hS⟩ : ∃ S : ByteArray, (⟨(packB (packL f.data.toList xs)).toArray⟩ : ByteArray) = S := ⟨_, rfl⟩
  obtain ⟨E, hE⟩ : ∃ E, errN (packL f.data.toList xs) = E := ⟨_, rfl⟩
  obtain ⟨U, hU⟩ : ∃ U, packN (packL f.data.toList xs) = U := ⟨_, rfl⟩
  obtain ⟨X, hX⟩ : ∃ X, okN (sizeF f.data.toList) = X := ⟨_, rfl⟩
  obtain ⟨Y, hY⟩ : ∃ Y, errN (sizeF f.data.toList) = Y := ⟨_, rfl⟩
  obtain ⟨K, hK⟩ : ∃ K, chkE f.data.toList = K := ⟨_, rfl⟩
  have hcase : ((E : Int) != 0) = true ∨ (((E : Int) != 0) = false ∧ ((Y : Int) != 0) = true) ∨ (((E : Int) != 0) = false ∧ ((Y : Int) != 0) = false ∧ ((X : Int) == (S.size : Int)) = true) := by
    by_cases h1 : E = 0
    · have e1 : ((E : Int) != 0) = false := by rw [h1]; rfl
      by_cases h2 : Y = 0
      · refine .inr (.inr ⟨e1, by rw [h2]; rfl, ?_⟩)
        cases hp : packL f.data.toList xs with
        | error y => rw [hp] at hE; exact absurd (hE.trans h1) (packL_err hp)
        | ok st =>
          cases hz : sizeF f.data.toList with
          | error y => rw [hz] at hY; exact absurd (hY.trans h2) (sizeF_err hz)
          | ok n =>
            have h := size_pack hp hz
            rw [hz] at hX
            rw [hp] at hS
            rw [← hX, ← hS]
            show (((n : Nat) : Int) == ((st.1.toArray.size : Nat) : Int)) = true
            rw [List.size_toArray, h]; exact beq_self_eq_true _
      · refine .inr (.inl ⟨e1, ?_⟩)
        simp only [bne, show ((Y : Int) == 0) = false by rw [beq_eq_false_iff_ne]; omega, Bool.not_false]
    · refine .inl ?_
      simp only [bne, show ((E : Int) == 0) = false by rw [beq_eq_false_iff_ne]; omega, Bool.not_false]
  have C16 : ∀ W, Gl W → Its W.heap.size W iv xs → Calls Tryz.prog 16 #[.string f, iv] W fun e w' => e = .returned (.tuple #[.string S, .int .i64 E]) ∧ Below W.heap.size W w' := fun W hW hI => by
    have h := t16 f iv xs W hW (by omega) hI hx
    unfold PackR at h
    rw [hS, hE] at h
    exact h
  have C24 : ∀ W v, Its W.heap.size W v xs → Calls Tryz.prog 24 #[.string f, v] W fun e w' => e = .returned (.tuple #[.string S, .int .i64 E]) ∧ Below W.heap.size W w' := fun W v hI => by
    have h := t24 f v xs W (by omega) hI hx
    unfold PackR at h
    rw [hS, hE] at h
    exact h
  have C19 : ∀ W, Gl W → Its W.heap.size W iv xs → Calls Tryz.prog 19 #[.string f, iv] W fun e w' => e = .returned (.tuple #[.int .i64 U, .int .i64 E]) ∧ Below W.heap.size W w' := fun W hW hI => by
    have h := t19 f iv xs W hW (by omega) hI hx
    unfold UsedR at h
    rw [hU, hE] at h
    exact h
  have C26 : ∀ W v, Its W.heap.size W v xs → Calls Tryz.prog 26 #[.string f, v] W fun e w' => e = .returned (.tuple #[.int .i64 U, .int .i64 E]) ∧ Below W.heap.size W w' := fun W v hI => by
    have h := t26 f v xs W (by omega) hI hx
    unfold UsedR at h
    rw [hU, hE] at h
    exact h
  have C27 : ∀ W, Gl W → Calls Tryz.prog 27 #[.string f] W fun e w' => e = .returned (.tuple #[.int .i64 X, .int .i64 Y]) ∧ Below W.heap.size W w' := fun W hW => by
    have h := t27 f W hW (by omega)
    unfold SizR at h
    rw [hX, hY] at h
    exact h
  have C28 : ∀ W, Calls Tryz.prog 28 #[.string f] W fun e w' => e = .returned (.tuple #[.int .i64 X, .int .i64 Y]) ∧ Below W.heap.size W w' := fun W => by
    have h := t28 f W (by omega)
    unfold SizR at h
    rw [hX, hY] at h
    exact h
  have C29 : ∀ W, Gl W → Calls Tryz.prog 29 #[.string f] W fun e w' => e = .returned (.int .i64 K) ∧ Below W.heap.size W w' := fun W hW => by
    have h := t29 f W hW (by omega)
    rw [hK] at h
    exact h
  have C30 : ∀ W, Calls Tryz.prog 30 #[.string f] W fun e w' => e = .returned (.int .i64 K) ∧ Below W.heap.size W w' := fun W => by
    have h := t30 f W (by omega)
    rw [hK] at h
    exact h
  have C25 : ∀ W, Its W.heap.size W iv xs → Calls Tryz.prog 25 #[iv] W fun e w' => (∃ v, e = .returned v ∧ Iq w' W.heap.size v xs) ∧ Below W.heap.size W w' := fun W hI => t25 iv xs W hI (by omega)
  have HG := Lib.hid hG
  have HI := Lib.hid hI
  have HXL : Hid (xs.length ≤ 9223372036854775807) := by show _ ≤ _; omega
  have q1 := bne_str S
  obtain ⟨p, cap, rfl, -, -⟩ := hI
  clear hS hE hU hX hY hK hG hf hl hx
  have H16 := Lib.hid (C16 w HG.out HI.out)
  clear C16
  rcases hcase with e1 | ⟨e1, e2⟩ | ⟨e1, e2, e3⟩
  all_goals (
    go_enter Tryz.func10, Tryz.ntmps10
    go_wp2_with fail
    refine H16.out.mono ?_
    rintro x1 w1 ⟨rfl, hb1⟩
    have HB1 := Lib.hid hb1
    clear hb1
    go_wp2_with fail
    refine (C25 _ (itsAt HI.out HB1.out)).mono ?_
    rintro x2 w2 ⟨⟨v2, rfl, hq2⟩, hb2⟩
    have HI2 := Lib.hid (hq2.its HXL.out)
    obtain ⟨a2, c2, rfl⟩ := row_slice hq2
    have HB2 := Lib.hid (bThen HB1.out hb2)
    clear hb2 hq2
    go_wp2_with fail
    refine (C24 _ _ HI2.out).mono ?_
    rintro x3 w3 ⟨rfl, hb3⟩
    have HB3 := Lib.hid (bThen HB2.out hb3)
    clear hb3 HI2
    go_wp2_with fail
    refine (C19 _ (HG.out.below HB3.out) (itsAt HI.out HB3.out)).mono ?_
    rintro x4 w4 ⟨rfl, hb4⟩
    have HB4 := Lib.hid (bThen HB3.out hb4)
    clear hb4
    go_wp2_with fail
    refine (C25 _ (itsAt HI.out HB4.out)).mono ?_
    rintro x5 w5 ⟨⟨v5, rfl, hq5⟩, hb5⟩
    have HI5 := Lib.hid (hq5.its HXL.out)
    obtain ⟨a5, c5, rfl⟩ := row_slice hq5
    have HB5 := Lib.hid (bThen HB4.out hb5)
    clear hb5 hq5
    go_wp2_with fail
    refine (C26 _ _ HI5.out).mono ?_
    rintro x6 w6 ⟨rfl, hb6⟩
    have HB6 := Lib.hid (bThen HB5.out hb6)
    clear hb6 HI5
    go_wp2_with fail
    refine (C27 _ (HG.out.below HB6.out)).mono ?_
    rintro x7 w7 ⟨rfl, hb7⟩
    have HB7 := Lib.hid (bThen HB6.out hb7)
    clear hb7
    go_wp2_with fail
    refine (C28 _).mono ?_
    rintro x8 w8 ⟨rfl, hb8⟩
    have HB8 := Lib.hid (bThen HB7.out hb8)
    clear hb8
    go_wp2_with fail
    refine (C29 _ (HG.out.below HB8.out)).mono ?_
    rintro x9 w9 ⟨rfl, hb9⟩
    have HB9 := Lib.hid (bThen HB8.out hb9)
    clear hb9
    go_wp2_with fail
    refine (C30 _).mono ?_
    rintro x10 w10 ⟨rfl, hb10⟩
    have HB10 := Lib.hid (bThen HB9.out hb10)
    clear hb10
    go_wp2
    go_ret
    exact ⟨rfl, HB10.out⟩)
set_option maxRecDepth 100000 in
set_option maxHeartbeats 2000000 in
theorem t3 (f : ByteArray) (iv : Value) (xs : List Itm) (w : World) (hG : Gl w) (hf : f.size ≤ 9223372036854775807) (hI : Its w.heap.size w iv xs) (hx : ItsOk xs) :
    Calls Tryz.prog 3 #[.string f, iv] w fun e w' => e = .returned (.bool true) ∧ Below w.heap.size w w' := by
  have C9 := t9 f iv xs w hf hI
  have HG := Lib.hid hG
  have C11 := fun W hW => t11 W hW
  cases hb : largeB f xs with
  | true =>
    rw [hb] at C9
    obtain ⟨p, cap, rfl, -, -⟩ := hI
    clear hb hx hf hG
    go_enter Tryz.func3, Tryz.ntmps3
    go_wp2_with fail
    refine C9.mono ?_
    rintro x1 w1 ⟨rfl, rfl⟩
    go_wp2_with fail
    refine (C11 _ HG.out).mono ?_
    rintro x2 w2 ⟨rfl, hb2⟩
    go_wp2
    go_ret
    exact ⟨rfl, hb2⟩
  | false =>
    rw [hb] at C9
    obtain ⟨h1, h2⟩ := large_no hb
    have C10 := Lib.hid (t10 f iv xs w hG h1 h2 hI hx)
    obtain ⟨p, cap, rfl, -, -⟩ := hI
    clear hb hx hf hG h1 h2
    go_enter Tryz.func3, Tryz.ntmps3
    go_wp2_with fail
    refine C9.mono ?_
    rintro x1 w1 ⟨rfl, rfl⟩
    go_wp2_with fail
    refine C10.out.mono ?_
    rintro x2 w2 ⟨rfl, hb2⟩
    have HB2 := Lib.hid hb2
    clear hb2
    go_wp2_with fail
    refine (C11 _ (HG.out.below HB2.out)).mono ?_
    rintro x3 w3 ⟨rfl, hb3⟩
    have HB3 := Lib.hid (bThen HB2.out hb3)
    clear hb3
    go_wp2
    go_ret
    exact ⟨rfl, HB3.out⟩
end Go.Proofs.YtmbnckmhngijdaaGreatDoor
