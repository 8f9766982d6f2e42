/- Contracts of sane and of PackHexes. -/
import Derived.Test.YtmbnckmhngijdaaGreatDoorRB
namespace Go.Proofs.YtmbnckmhngijdaaGreatDoor
open Go Go.RowKit

theorem icells_get (xs : List Itm) : ∀ (j : Nat) (x : Itm) (k : Nat), xs[j]? = some x → k < 3 → (icells xs)[j * 3 + k]? = x.cs.toList[k]? := by
  induction xs with
  | nil => intro j x k h; simp at h
  | cons y xs ih =>
    intro j x k h hk
    have hx : y.cs.toList.length = 3 := rfl
    cases j with
    | zero =>
      simp at h; subst h
      simp only [icells, List.flatMap_cons]
      rw [List.getElem?_append_left (by omega)]; simp
    | succ j =>
      simp only [icells, List.flatMap_cons]
      rw [List.getElem?_append_right (by omega), hx, show (j + 1) * 3 + k - 3 = j * 3 + k by omega]
      exact ih j x k (by simpa using h) hk
theorem its_blk {w : World} {B g n cap : Nat} {xs : List Itm} (h : Blk w g 50 (icells xs)) (hg : g < B) (hn : n = xs.length) (hl : n ≤ 9223372036854775807) : Its B w (.slice (some ⟨g, 0, none⟩) n cap) xs := by
  subst hn
  refine ⟨_, cap, rfl, hl, fun k x hx => ⟨g, 0, rfl, hg, ?_, ?_, ?_⟩⟩
  · rw [Nat.zero_add]; exact h.cell _ (icells_get xs k x 0 hx (by omega))
  · rw [Nat.zero_add]; exact h.cell _ (icells_get xs k x 1 hx (by omega))
  · rw [Nat.zero_add]; exact h.cell _ (icells_get xs k x 2 hx (by omega))
theorem Is.cell {w : World} {B : Nat} {v : Value} {xs : List Itm} (h : Is w B v xs) {j : Nat} {x : Itm} (hx : xs[j]? = some x) : ∃ g cap, v = .slice (some ⟨g, 0, none⟩) xs.length cap ∧ g < w.heap.size ∧ w.cell? ⟨g, j * 3, none⟩ = some (.bool x.t) ∧ w.cell? ⟨g, j * 3 + 1, none⟩ = some (.int .i64 x.i) ∧ w.cell? ⟨g, j * 3 + 2, none⟩ = some (.string x.str) := by
  have hj := (List.getElem?_eq_some_iff.1 hx).1
  rcases h.2 with ⟨_, h0⟩ | ⟨g, cap, cur, rfl, h1, h2, h3, h4, h5, h6⟩
  · omega
  · have hc : ∀ k u, k < 3 → x.cs.toList[k]? = some u → w.cell? ⟨g, j * 3 + k, none⟩ = some u := fun k u hk hu => by
      have e := icells_get xs j x k hx hk
      rw [hu, ← h6, List.getElem?_take] at e
      split at e
      · have hb : Blk w g 50 cur.toList := by simpa [Blk] using h2
        exact hb.cell _ e
      · cases e
    exact ⟨g, cap, rfl, lt_of_block h2, hc 0 _ (by omega) rfl, hc 1 _ (by omega) rfl, hc 2 _ (by omega) rfl⟩
theorem Is.its {w : World} {B : Nat} {v : Value} {xs : List Itm} (h : Is w B v xs) (hl : xs.length ≤ 9223372036854775807) : Its w.heap.size w v xs := by
  obtain ⟨ao, cap, rfl⟩ := row_slice h
  refine ⟨ao, cap, rfl, hl, fun k x hx => ?_⟩
  obtain ⟨g, cap', hv, hg, h0, h1, h2⟩ := h.cell hx
  simp only [Value.slice.injEq] at hv
  obtain ⟨rfl, _⟩ := hv
  exact ⟨g, 0, rfl, hg, by rw [Nat.zero_add]; exact h0, by rw [Nat.zero_add]; exact h1, by rw [Nat.zero_add]; exact h2⟩
def saneX : List Itm := [⟨false, 1, []⟩, ⟨false, 258, []⟩]
def saneY : List Itm := [⟨true, 0, [120]⟩]
theorem sane1 : packL [67, 110] saneX = .ok ([1, 1, 2], 2) := by kernel_rfl
theorem sane2 : packL [65, 51] saneY = .ok ([120, 32, 32], 1) := by kernel_rfl
theorem sane3 : readR chrP [119] [129, 0] = .ok (2, [⟨false, 128, []⟩]) := by kernel_rfl
theorem saneX_ok : ItsOk saneX := by
  intro x hx
  simp only [saneX, List.mem_cons, List.mem_nil_iff, or_false] at hx
  rcases hx with rfl | rfl <;> exact ⟨⟨by decide, by decide⟩, by decide⟩
theorem saneY_ok : ItsOk saneY := by
  intro x hx
  simp only [saneY, List.mem_cons, List.mem_nil_iff, or_false] at hx
  rcases hx with rfl
  exact ⟨⟨by decide, by decide⟩, by decide⟩
set_option maxRecDepth 100000 in
set_option maxHeartbeats 4000000 in
theorem t11 (w : World) (hG : Gl w) : Calls Tryz.prog 11 #[] w fun e w' => e = .returned (.bool true) ∧ Below w.heap.size w w' := by
  have hk1 := Blk.new w (icells saneX).toArray 50
  have hb1 := bSelf w (.cells (icells saneX).toArray 50)
  have C1 := t16 ⟨#[67, 110]⟩ (.slice (some ⟨w.heap.size, 0, none⟩) 2 2) saneX _ (hG.below hb1) (by decide) (its_blk hk1 (by simp) rfl (by decide)) saneX_ok
  rw [show (⟨#[67, 110]⟩ : ByteArray).data.toList = [67, 110] from rfl, sane1] at C1
  have HG := Lib.hid hG
  have HC1 := Lib.hid C1
  have HB1 := Lib.hid hb1
  clear C1 hG hk1 hb1
  go_enter Tryz.func11, Tryz.ntmps11
  go_wp2_with fail
  refine HC1.out.mono ?_
  rintro e1 w1 ⟨rfl, hbl1⟩
  have HW1 := Lib.hid (bThen HB1.out hbl1)
  clear hbl1 HC1 HB1
  have C2 := t12 ⟨#[119]⟩ ⟨#[129, 0]⟩ w1 (HG.out.below HW1.out) (by decide) (by decide)
  rw [show (⟨#[119]⟩ : ByteArray).data.toList = [119] from rfl, show (⟨#[129, 0]⟩ : ByteArray).data.toList = [129, 0] from rfl, sane3] at C2
  have HC2 := Lib.hid C2
  clear C2
  go_wp2_with fail
  refine HC2.out.mono ?_
  rintro e2 w2 ⟨hbl2, v2, rfl, hrow⟩
  obtain ⟨g2, c2, rfl, hg2, -, hcell, -⟩ := hrow.cell (j := 0) (x := ⟨false, 128, []⟩) rfl
  have HCELL := Lib.hid hcell
  have HW2 := Lib.hid (bThen HW1.out hbl2)
  clear hbl2 HC2 HW1 hrow hcell
  have hk3 := Blk.new w2 (icells saneY).toArray 50
  have hb3 := bSelf w2 (.cells (icells saneY).toArray 50)
  have C3 := t16 ⟨#[65, 51]⟩ (.slice (some ⟨w2.heap.size, 0, none⟩) 1 1) saneY _ (HG.out.below (bThen HW2.out hb3)) (by decide) (its_blk hk3 (by simp) rfl (by decide)) saneY_ok
  rw [show (⟨#[65, 51]⟩ : ByteArray).data.toList = [65, 51] from rfl, sane2] at C3
  have HC3 := Lib.hid C3
  have HB3 := Lib.hid hb3
  clear C3 hk3 hb3
  go_wp2_with fail
  refine HC3.out.mono ?_
  rintro e3 w3 ⟨rfl, hbl3⟩
  have h1 : w3.cell? ⟨g2, 1, none⟩ = some (.int .i64 128) := below_cell (bThen HB3.out hbl3) HCELL.out
  have HW3 := Lib.hid (bThen HW2.out (bThen HB3.out hbl3))
  clear hbl3 HC3 HB3
  go_wp2
  go_ret
  exact ⟨rfl, HW3.out⟩
def nibs : List UInt8 → List Nat
  | [] => []
  | b :: l => b.toNat / 16 :: b.toNat % 16 :: nibs l
theorem hexV_D : ∀ v : Nat, v < 16 → hexV (hexD v) = some v := fun v h => (by decide : ∀ n : Fin 16, hexV (hexD n.val) = some n.val) ⟨v, h⟩
theorem hexVs_L : ∀ l : List UInt8, hexVs (hexL l) = some (nibs l)
  | [] => rfl
  | b :: l => by
    have hb := b.toNat_lt
    rw [hexL, hexVs, hexV_D _ (by omega)]
    simp only
    rw [hexVs, hexV_D _ (by omega)]
    simp only
    rw [hexVs_L l]; rfl
theorem pairL_nibs : ∀ l : List UInt8, pairL (nibs l) = l
  | [] => rfl
  | b :: l => by
    rw [nibs, pairL, pairL_nibs l]
    congr 1
    rw [show 16 * (b.toNat / 16) + b.toNat % 16 = b.toNat by omega, UInt8.ofNat_toNat]
theorem unhexL_hexL (l : List UInt8) : unhexL (hexL l) = some l := by
  have h : hexN (hexL l).length (hexL l) = some l := by
    unfold hexN
    rw [List.take_length, hexVs_L, Nat.sub_self]
    simp only [Option.map_some, List.replicate_zero, List.append_nil, pairL_nibs]
  unfold unhexL
  rw [h]
  dsimp only
  rw [if_neg (by rw [hexL_length]; omega)]
set_option maxRecDepth 100000 in
set_option maxHeartbeats 4000000 in
theorem t7_small (s t : ByteArray) (w : World) (hG : Gl w) (hs : s.size ≤ 3000) (ht : t.size ≤ 3000) : Calls Tryz.prog 7 #[.string s, .string t] w fun e w' => e = .returned (.bool true) ∧ Below w.heap.size w w' := by
  have hsi : (s.size : Int) ≤ 3000 := by omega
  have hti : (t.size : Int) ≤ 3000 := by omega
  obtain ⟨H, hH⟩ : ∃ H : ByteArray, H = ⟨(hexL s.data.toList).toArray⟩ := ⟨_, rfl⟩
  have hHl : H.data.toList = hexL s.data.toList := by rw [hH]
  have hHz : H.size ≤ 1000000 := by
    have : H.data.toList.length = H.size := rfl
    rw [← this, hHl, hexL_length]
    have : s.data.toList.length = s.size := rfl
    omega
  have C20 := fun W => t20 s W (by omega)
  have C23 := fun W => t23 s W (by omega)
  have C21 := fun W => t21 H W hHz
  have C21t := fun W => t21 t W (by omega)
  have C22t := fun W => t22 t W (by omega)
  rw [hHl, unhexL_hexL] at C21
  have C21 : ∀ W, Calls Tryz.prog 21 #[.string H] W fun e w' => e = .returned (.tuple #[.string s, .int .i64 0]) ∧ Below W.heap.size W w' := C21
  rw [← hH] at C20 C23
  have C11 := fun W hW => t11 W hW
  have HG := Lib.hid hG
  cases hu : unhexL t.data.toList with
  | none =>
    rw [hu] at C21t C22t
    have C21t : ∀ W, Calls Tryz.prog 21 #[.string t] W fun e w' => e = .returned (.tuple #[.string ⟨#[]⟩, .int .i64 1]) ∧ Below W.heap.size W w' := C21t
    have C22t : ∀ W, Calls Tryz.prog 22 #[.string t] W fun e w' => e = .returned (.tuple #[.string ⟨#[]⟩, .int .i64 1]) ∧ Below W.heap.size W w' := C22t
    clear hu hHz hHl hG hH hs ht
    go_enter Tryz.func7, Tryz.ntmps7
    go_wp2_with fail
    refine (C20 _).mono ?_
    rintro e1 w1 ⟨rfl, hb1⟩
    have HB1 := Lib.hid hb1
    clear hb1
    go_wp2_with fail
    refine (C21 _).mono ?_
    rintro e2 w2 ⟨rfl, hb2⟩
    have HB2 := Lib.hid (bThen HB1.out hb2)
    clear hb2
    go_wp2_with fail
    refine (C21t _).mono ?_
    rintro e3 w3 ⟨rfl, hb3⟩
    have HB3 := Lib.hid (bThen HB2.out hb3)
    clear hb3
    go_wp2_with fail
    refine (C22t _).mono ?_
    rintro e4 w4 ⟨rfl, hb4⟩
    have HB4 := Lib.hid (bThen HB3.out hb4)
    clear hb4
    go_wp2_with fail
    refine (C23 _).mono ?_
    rintro e5 w5 ⟨rfl, hb5⟩
    have HB5 := Lib.hid (bThen HB4.out hb5)
    clear hb5
    go_wp2_with fail
    refine (C11 _ (HG.out.below HB5.out)).mono ?_
    rintro e6 w6 ⟨rfl, hb6⟩
    have HB6 := Lib.hid (bThen HB5.out hb6)
    clear hb6
    go_wp2
    go_ret
    exact ⟨rfl, HB6.out⟩
  | some l =>
    rw [hu] at C21t C22t
    obtain ⟨L, hL⟩ : ∃ L : ByteArray, L = ⟨l.toArray⟩ := ⟨_, rfl⟩
    have C21t : ∀ W, Calls Tryz.prog 21 #[.string t] W fun e w' => e = .returned (.tuple #[.string L, .int .i64 0]) ∧ Below W.heap.size W w' := by rw [hL]; exact C21t
    have C22t : ∀ W, Calls Tryz.prog 22 #[.string t] W fun e w' => e = .returned (.tuple #[.string L, .int .i64 0]) ∧ Below W.heap.size W w' := by rw [hL]; exact C22t
    clear hu hHz hHl hG hH hs ht hL
    go_enter Tryz.func7, Tryz.ntmps7
    go_wp2_with fail
    refine (C20 _).mono ?_
    rintro e1 w1 ⟨rfl, hb1⟩
    have HB1 := Lib.hid hb1
    clear hb1
    go_wp2_with fail
    refine (C21 _).mono ?_
    rintro e2 w2 ⟨rfl, hb2⟩
    have HB2 := Lib.hid (bThen HB1.out hb2)
    clear hb2
    go_wp2_with fail
    refine (C21t _).mono ?_
    rintro e3 w3 ⟨rfl, hb3⟩
    have HB3 := Lib.hid (bThen HB2.out hb3)
    clear hb3
    go_wp2_with fail
    refine (C22t _).mono ?_
    rintro e4 w4 ⟨rfl, hb4⟩
    have HB4 := Lib.hid (bThen HB3.out hb4)
    clear hb4
    go_wp2_with fail
    refine (C23 _).mono ?_
    rintro e5 w5 ⟨rfl, hb5⟩
    have HB5 := Lib.hid (bThen HB4.out hb5)
    clear hb5
    go_wp2_with fail
    refine (C11 _ (HG.out.below HB5.out)).mono ?_
    rintro e6 w6 ⟨rfl, hb6⟩
    have HB6 := Lib.hid (bThen HB5.out hb6)
    clear hb6
    go_wp2
    go_ret
    exact ⟨rfl, HB6.out⟩
theorem t7 (s t : ByteArray) (w : World) (hG : Gl w) : Calls Tryz.prog 7 #[.string s, .string t] w fun e w' => e = .returned (.bool true) ∧ Below w.heap.size w w' := by
  have C11 := t11 w hG
  by_cases h1 : s.size ≤ 3000
  · by_cases h2 : t.size ≤ 3000
    · exact t7_small s t w hG h1 h2
    · have h1i : (s.size : Int) ≤ 3000 := by omega
      have h2i : (3000 : Int) < t.size := by omega
      clear h1 h2
      go_enter Tryz.func7, Tryz.ntmps7
      go_wp2_with fail
      refine C11.mono ?_
      rintro e6 w6 ⟨rfl, hb6⟩
      go_wp2
      go_ret
      exact ⟨rfl, hb6⟩
  · have h1i : (3000 : Int) < s.size := by omega
    clear h1
    go_enter Tryz.func7, Tryz.ntmps7
    go_wp2_with fail
    refine C11.mono ?_
    rintro e6 w6 ⟨rfl, hb6⟩
    go_wp2
    go_ret
    exact ⟨rfl, hb6⟩
end Go.Proofs.YtmbnckmhngijdaaGreatDoor
