/- Contracts of the reference's Pack and Used, of the law's as and large; the size of what is packed. -/
import Derived.Test.YtmbnckmhngijdaaGreatDoorSI
import Derived.Test.YtmbnckmhngijdaaGreatDoorSL
namespace Go.Proofs.YtmbnckmhngijdaaGreatDoor
open Go Go.RowKit

set_option maxRecDepth 100000 in
set_option maxHeartbeats 1000000 in
theorem t24 (f : ByteArray) (iv : Value) (xs : List Itm) (w : World) (hf : f.size ≤ 100000) (hI : Its w.heap.size w iv xs) (hx : ItsOk xs) : Calls Tryz.prog 24 #[.string f, iv] w (PackR (packL f.data.toList xs) w) := by
  have C := t44 f iv xs w hf hI hx
  obtain ⟨p, cap, rfl, -, -⟩ := hI
  cases hr : packL f.data.toList xs with
  | error y =>
    rw [hr] at C
    clear hr
    go_enter Tryz.func24, Tryz.ntmps24
    go_wp2_with fail
    refine C.mono ?_
    rintro e w1 ⟨hb, rfl, hy⟩
    have HB := Lib.hid hb
    have hcv := conv_nil w1 none 0
    clear hb hy
    go_wp2
    go_ret2
    exact ⟨rfl, HB.out⟩
  | ok st =>
    rw [hr] at C
    clear hr
    go_enter Tryz.func24, Tryz.ntmps24
    go_wp2_with fail
    refine C.mono ?_
    rintro e w1 ⟨hb, v, rfl, hrow⟩
    have HB := Lib.hid hb
    have hcv := conv_row w1 _ _ _ hrow
    obtain ⟨a, c, rfl⟩ := row_slice hrow
    clear hb hrow
    go_wp2
    go_ret2
    exact ⟨rfl, HB.out⟩
set_option maxRecDepth 100000 in
set_option maxHeartbeats 1000000 in
theorem t26 (f : ByteArray) (iv : Value) (xs : List Itm) (w : World) (hf : f.size ≤ 100000) (hI : Its w.heap.size w iv xs) (hx : ItsOk xs) : Calls Tryz.prog 26 #[.string f, iv] w (UsedR (packL f.data.toList xs) w) := by
  have C := t44 f iv xs w hf hI hx
  obtain ⟨p, cap, rfl, -, -⟩ := hI
  cases hr : packL f.data.toList xs with
  | error y =>
    rw [hr] at C
    clear hr
    go_enter Tryz.func26, Tryz.ntmps26
    go_wp2_with fail
    refine C.mono ?_
    rintro e w1 ⟨hb, rfl, hy⟩
    have HB := Lib.hid hb
    clear hb hy
    go_wp2
    go_ret2
    exact ⟨rfl, HB.out⟩
  | ok st =>
    rw [hr] at C
    clear hr
    go_enter Tryz.func26, Tryz.ntmps26
    go_wp2_with fail
    refine C.mono ?_
    rintro e w1 ⟨hb, v, rfl, hrow⟩
    have HB := Lib.hid hb
    obtain ⟨a, c, rfl⟩ := row_slice hrow
    clear hb hrow
    go_wp2
    go_ret2
    exact ⟨rfl, HB.out⟩
theorem Iq.its {w : World} {B : Nat} {v : Value} {xs : List Itm} (h : Iq w B v xs) (hl : xs.length ≤ 9223372036854775807) : Its w.heap.size w v xs := by
  obtain ⟨a, c, rfl⟩ := row_slice h
  refine ⟨a, c, rfl, hl, fun k x hx => ?_⟩
  obtain ⟨g, cap, h1, h2, h3, h4, h5⟩ := h.cell hx
  simp only [Value.slice.injEq] at h1
  obtain ⟨rfl, _, rfl⟩ := h1
  exact ⟨g, 0, rfl, h2, by rw [Nat.zero_add]; exact h3, by rw [Nat.zero_add]; exact h4, by rw [Nat.zero_add]; exact h5⟩
def AsI (xs : List Itm) (w : World) (i v : Value) (wr : World) : Prop :=
  ∃ j : Nat, j ≤ xs.length ∧ i = .int .i64 j ∧ Hid (wr.ownsRow w.heap.size 65 3 v j (icells (xs.take j))) ∧ Hid (Below w.heap.size w wr)
set_option maxRecDepth 100000 in
set_option maxHeartbeats 2000000 in
theorem t25 (iv : Value) (xs : List Itm) (w : World) (hI : Its w.heap.size w iv xs) (hl : xs.length ≤ 1000000) : Calls Tryz.prog 25 #[iv] w fun e w' => (∃ v, e = .returned v ∧ Iq w' w.heap.size v xs) ∧ Below w.heap.size w w' := by
  have HI := Lib.hid hI
  obtain ⟨p, cap, rfl, -, hI3⟩ := hI
  obtain ⟨i0, hi, hz0, hz1, hz2⟩ := info_parts info65
  clear hI3
  go_enter Tryz.func25, Tryz.ntmps25
  go_wp2_with fail
  go_loopw [4, 3] (fun i v wr => AsI xs w i v wr) (fun i _ _ => xs.length - (intOf i).toNat)
  case atStart => exact ⟨0, Nat.zero_le _, rfl, World.ownsRow_nil _ _ _ _, Below.refl _ _⟩
  case round =>
    obtain ⟨j, hj, rfl, hown, hbl⟩ := hrel
    obtain ⟨av, cv, rfl⟩ := row_slice hown.out
    by_cases hlt : j < xs.length
    · have hlti : (j : Int) < xs.length := by omega
      obtain ⟨x, hx⟩ : ∃ x, xs[j]? = some x := ⟨xs[j], List.getElem?_eq_getElem hlt⟩
      obtain ⟨p', cap', hs, _, h3⟩ := HI.out
      simp only [Value.slice.injEq] at hs
      obtain ⟨rfl, _, rfl⟩ := hs
      obtain ⟨g, off, rfl, hg, c0, c1, c2⟩ := h3 j x hx
      have c0 := below_cell hbl.out c0
      have c1 := below_cell hbl.out c1
      have c2 := below_cell hbl.out c2
      have HTK : Hid (icells (xs.take (j + 1)) = icells (xs.take j) ++ [Value.bool x.t, .int .i64 x.i, .string x.str]) := by
        show _ = _
        have hx2 : xs[j]'hlt = x := by rw [List.getElem?_eq_getElem hlt] at hx; exact Option.some.inj hx
        rw [List.take_succ_eq_append_getElem hlt, hx2, icells_snoc]; rfl
      clear hx h3
      go_wp2_with fail
      go_region_law (refine step_append_lies _ rfl _ _ 28 rfl w.heap.size 65 i0 (.agg #[.bool false, .int .i64 0, .string ⟨#[]⟩]) 3 32 Tryz.underlying28 hi hz0 hz1 hz2 rfl (by decide) _ _ _ rfl (ownsRow_below hown.out ((bSelf _ _).drew)) ⟨wr.heap.size, 0, none⟩ 1 1 [_, _, _] rfl rfl (three_new wr _ _ _ 65) (by simp [Value.oneCell']) (by omega) (by unfold maxLen; omega) (by omega) (by have := hbl.out.size; simp; omega) _ rfl ?_; intro g2 cap2 w2 hown2 hgrow2 hat2 hlt2)
      all_goals (
        have HROW : Hid (w2.ownsRow w.heap.size 65 3 (.slice (some ⟨g2, 0, none⟩) (j + 1) cap2) (j + 1) (icells (xs.take (j + 1)))) := by
          show World.ownsRow _ _ _ _ _ _ _
          rw [HTK.out]; exact hown2
        have HB2 : Hid (Below w.heap.size w w2) := ((bAl hbl.out _).drew).grown hgrow2 (by have := hbl.out.size; simp; omega) (fun k hk => (hown.out.lt k hk).1)
        clear hown2 hgrow2 hat2
        go_wp2
        go_roundw
        case rel => exact ⟨j + 1, by omega, by go_num, HROW, HB2⟩
        case measure => simp [intOf]; omega)
    · obtain rfl : xs.length = j := by omega
      have HROW : Hid (Iq wr w.heap.size (.slice av xs.length cv) xs) := by
        show World.ownsRow _ _ _ _ _ _ _
        have h := hown.out
        rw [List.take_length] at h
        exact h
      clear hlt
      go_wp2
      go_ret
      exact ⟨⟨_, rfl, HROW.out⟩, hbl.out⟩
end Go.Proofs.YtmbnckmhngijdaaGreatDoor
