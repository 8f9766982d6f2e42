/- Contract of the law's same; the walk of PackReads. -/
import Derived.Test.YtmbnckmhngijdaaGreatDoorSE
import Derived.Test.YtmbnckmhngijdaaGreatDoorRC
namespace Go.Proofs.YtmbnckmhngijdaaGreatDoor
open Go Go.RowKit

theorem Iq.cell {w : World} {B : Nat} {v : Value} {xs : List Itm} (h : Iq w B v xs) {j : Nat} {x : Itm} (hx : xs[j]? = some x) : ∃ g cap, v = .slice (some ⟨g, 0, none⟩) xs.length cap ∧ g < w.heap.size ∧ w.cell? ⟨g, j * 3, none⟩ = some (.bool x.t) ∧ w.cell? ⟨g, j * 3 + 1, none⟩ = some (.int .i64 x.i) ∧ w.cell? ⟨g, j * 3 + 2, none⟩ = some (.string x.str) := by
  have hj := (List.getElem?_eq_some_iff.1 hx).1
  rcases h.2 with ⟨_, h0⟩ | ⟨g, cap, cur, rfl, h1, h2, h3, h4, h5, h6⟩
  · omega
  · have hc : ∀ k u, k < 3 → x.cs.toList[k]? = some u → w.cell? ⟨g, j * 3 + k, none⟩ = some u := fun k u hk hu => by
      have e := icells_get xs j x k hx hk
      rw [hu, ← h6, List.getElem?_take] at e
      split at e
      · have hb : Blk w g 65 cur.toList := by simpa [Blk] using h2
        exact hb.cell _ e
      · cases e
    exact ⟨g, cap, rfl, lt_of_block h2, hc 0 _ (by omega) rfl, hc 1 _ (by omega) rfl, hc 2 _ (by omega) rfl⟩
theorem bne_str (s : ByteArray) : (s.toList != s.toList) = false := by simp
set_option maxRecDepth 100000 in
set_option maxHeartbeats 2000000 in
theorem t14 (va vb : Value) (B C : Nat) (xs : List Itm) (w : World) (ha : Is w B va xs) (hb : Iq w C vb xs) (hl : xs.length ≤ 9223372036854775807) : Calls Tryz.prog 14 #[va, vb] w fun e w' => e = .returned (.bool true) ∧ Below w.heap.size w w' := by
  have hli : (xs.length : Int) ≤ 9223372036854775807 := by omega
  have HA := Lib.hid ha
  have HB := Lib.hid hb
  obtain ⟨aa, ca, rfl⟩ := row_slice ha
  obtain ⟨ab, cb, rfl⟩ := row_slice hb
  have hne : ((xs.length : Int) != xs.length) = false := by simp
  clear ha hb
  go_enter Tryz.func14, Tryz.ntmps14
  go_wp2_with fail
  go_loopw [5] (fun i wr => (∃ j : Nat, j ≤ xs.length ∧ i = .int .i64 j) ∧ Hid (Below w.heap.size w wr)) (fun i _ => xs.length - (intOf i).toNat)
  case atStart => exact ⟨⟨0, Nat.zero_le _, rfl⟩, Below.refl _ _⟩
  case round =>
    obtain ⟨⟨j, hj, rfl⟩, hbl⟩ := hrel
    by_cases hlt : j < xs.length
    · have hlti : (j : Int) < xs.length := by omega
      obtain ⟨x, hx⟩ : ∃ x, xs[j]? = some x := ⟨xs[j], List.getElem?_eq_getElem hlt⟩
      have hwa : Is wr B (.slice aa xs.length ca) xs := ownsRow_below HA.out hbl.out
      have hwb : Iq wr C (.slice ab xs.length cb) xs := ownsRow_below HB.out hbl.out
      obtain ⟨g1, c1, h1, g1l, a0, a1, a2⟩ := hwa.cell hx
      obtain ⟨g2, c2, h2, g2l, b0, b1, b2⟩ := hwb.cell hx
      simp only [Value.slice.injEq] at h1 h2
      obtain ⟨rfl, _, rfl⟩ := h1
      obtain ⟨rfl, _, rfl⟩ := h2
      have q1 : (x.t != x.t) = false := by simp
      have q2 : (x.i != x.i) = false := by simp
      have q3 := bne_str x.str
      clear hwa hwb hx
      go_upto_region 6 with fail
      go_quiet (fail)
      have HBQ : Hid (Below w.heap.size w (wr.drewN nq)) := below_drewN hbl.out _
      go_wp2
      go_roundw
      case rel => exact ⟨⟨j + 1, by omega, by go_num⟩, HBQ⟩
      case measure => simp [intOf]; omega
    · obtain rfl : xs.length = j := by omega
      clear hlt
      go_wp2
      go_ret
      exact ⟨rfl, hbl.out⟩
theorem xs_small {f s : List UInt8} {st : Rt} (h : readR chrP f s = .ok st) (hs : s.length ≤ 1000000) : st.2.length ≤ 60000000 := by
  unfold readR at h
  cases hf : formL f with
  | none => rw [hf] at h; cases h
  | some ds =>
    rw [hf] at h
    obtain ⟨hdl, hdok⟩ := formL_ok hf
    have key : ∀ (ds : List Dir) (st0 st : Rt), (∀ d ∈ ds, d.Ok) → runR chrP s ds st0 = .ok st → st.2.length ≤ st0.2.length + ds.length * 1000001 := by
      intro ds
      induction ds with
      | nil => intro st0 st _ h; cases h; simp
      | cons d ds ih =>
        intro st0 st hok h
        simp only [runR] at h
        cases hst : stepR chrP s d st0 with
        | error e => rw [hst] at h; cases h
        | ok st1 =>
          rw [hst] at h
          have h1 := ih st1 st (fun d' hd' => hok d' (List.mem_cons_of_mem _ hd')) h
          have h2 := stepR_len (s := ⟨s.toArray⟩) (d := d) (p := st0.1) (xs := st0.2) hs (hok d (by simp)).fine.n st1 hst
          rw [List.length_cons, Nat.succ_mul]; omega
    have := key ds (0, []) st hdok h
    have h3 : ds.length * 1000001 ≤ 50 * 1000001 := Nat.mul_le_mul_right _ hdl
    simp at this
    omega
set_option maxRecDepth 100000 in
set_option maxHeartbeats 2000000 in
theorem t4_small (f s : ByteArray) (w : World) (hG : Gl w) (hf : f.size ≤ 2000) (hs : s.size ≤ 5000) : Calls Tryz.prog 4 #[.string f, .string s] w fun e w' => e = .returned (.bool true) ∧ Below w.heap.size w w' := by
  have hfi : (f.size : Int) ≤ 2000 := by omega
  have hsi : (s.size : Int) ≤ 5000 := by omega
  have C12 := fun W hW => t12 f s W hW (by omega) (by omega)
  have C13 := fun W => t13 f s W (by omega) (by omega)
  have C11 := fun W hW => t11 W hW
  have HG := Lib.hid hG
  have HSM := Lib.hid (fun st h => xs_small (f := f.data.toList) (s := s.data.toList) (st := st) h (by show s.size ≤ _; omega))
  cases hr : readR chrP f.data.toList s.data.toList with
  | error y =>
    rw [hr] at C12 C13
    have hG12 := Lib.hid (C12 w hG)
    clear hr hG C12
    go_enter Tryz.func4, Tryz.ntmps4
    go_wp2_with fail
    refine hG12.out.mono ?_
    rintro e1 w1 ⟨hb1, rfl, hy⟩
    have HB1 := Lib.hid hb1
    clear hb1 hy
    go_wp2_with fail
    refine (C13 _).mono ?_
    rintro e2 w2 ⟨hb2, rfl, hy⟩
    have HB2 := Lib.hid (bThen HB1.out hb2)
    clear hb2 hy
    have C14 := fun W => t14 (.slice none 0 0) (.slice none 0 0) 0 0 [] W (World.ownsRow_nil _ _ _ _) (World.ownsRow_nil _ _ _ _) (by decide)
    go_wp2_with fail
    refine (C14 _).mono ?_
    rintro e3 w3 ⟨rfl, hb3⟩
    have HB3 := Lib.hid (bThen HB2.out hb3)
    clear hb3
    go_wp2_with fail
    refine (C11 _ (HG.out.below HB3.out)).mono ?_
    rintro e6 w6 ⟨rfl, hb6⟩
    have HB6 := Lib.hid (bThen HB3.out hb6)
    clear hb6
    go_wp2
    go_ret
    exact ⟨rfl, HB6.out⟩
  | ok st =>
    have HL : Hid (st.2.length ≤ 60000000) := HSM.out st hr
    rw [hr] at C12 C13
    have hG12 := Lib.hid (C12 w hG)
    clear hr hG C12
    go_enter Tryz.func4, Tryz.ntmps4
    go_wp2_with fail
    refine hG12.out.mono ?_
    rintro e1 w1 ⟨hb1, v1, rfl, hi1⟩
    have HB1 := Lib.hid hb1
    have HI1 := Lib.hid hi1
    obtain ⟨a1, c1, rfl⟩ := row_slice hi1
    clear hb1 hi1
    go_wp2_with fail
    refine (C13 _).mono ?_
    rintro e2 w2 ⟨hb2, v2, rfl, hi2⟩
    have HI2 := Lib.hid hi2
    obtain ⟨a2, c2, rfl⟩ := row_slice hi2
    have HI1b : Hid (Is w2 w.heap.size (.slice a1 st.2.length c1) st.2) := HI1.out.below hb2
    have HB2 := Lib.hid (bThen HB1.out hb2)
    clear hb2 hi2
    have C14 := Lib.hid (t14 (.slice a1 st.2.length c1) (.slice a2 st.2.length c2) _ _ st.2 w2 HI1b.out HI2.out (by have := HL.out; omega))
    go_wp2_with fail
    refine C14.out.mono ?_
    rintro e3 w3 ⟨rfl, hb3⟩
    have HB3 := Lib.hid (bThen HB2.out hb3)
    clear hb3
    go_wp2_with fail
    refine (C11 _ (HG.out.below HB3.out)).mono ?_
    rintro e6 w6 ⟨rfl, hb6⟩
    have HB6 := Lib.hid (bThen HB3.out hb6)
    clear hb6
    go_wp2
    go_ret
    exact ⟨rfl, HB6.out⟩
theorem t4 (f s : ByteArray) (w : World) (hG : Gl w) : Calls Tryz.prog 4 #[.string f, .string s] w fun e w' => e = .returned (.bool true) ∧ Below w.heap.size w w' := by
  have C11 := t11 w hG
  by_cases h1 : f.size ≤ 2000
  · by_cases h2 : s.size ≤ 5000
    · exact t4_small f s w hG h1 h2
    · have h1i : (f.size : Int) ≤ 2000 := by omega
      have h2i : (5000 : Int) < s.size := by omega
      clear h1 h2
      go_enter Tryz.func4, Tryz.ntmps4
      go_wp2_with fail
      refine C11.mono ?_
      rintro e6 w6 ⟨rfl, hb6⟩
      go_wp2
      go_ret
      exact ⟨rfl, hb6⟩
  · have h1i : (2000 : Int) < f.size := by omega
    clear h1
    go_enter Tryz.func4, Tryz.ntmps4
    go_wp2_with fail
    refine C11.mono ?_
    rintro e6 w6 ⟨rfl, hb6⟩
    go_wp2
    go_ret
    exact ⟨rfl, hb6⟩
end Go.Proofs.YtmbnckmhngijdaaGreatDoor
