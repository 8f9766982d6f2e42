/- Contracts of the reference's Hex, digit, hexed, Bytes. -/
import Derived.Test.YtmbnckmhngijdaaGreatDoorRA
import Derived.Laws.OwnMore
namespace Go.Proofs.YtmbnckmhngijdaaGreatDoor
open Go Go.RowKit

set_option maxRecDepth 100000 in
set_option maxHeartbeats 2000000 in
theorem t23 (s : ByteArray) (w : World) (hs : s.size ≤ 1000000) : Calls Tryz.prog 23 #[.string s] w fun e w' => e = .returned (.string ⟨(hexL s.data.toList).toArray⟩) ∧ Below w.heap.size w w' := by
  have hsi : (s.size : Int) ≤ 1000000 := by omega
  have hsl : s.data.toList.length = s.size := rfl
  obtain ⟨i0, hi, hz0, hz1, hz2⟩ := info_parts infoB
  go_enter Tryz.func23, Tryz.ntmps23
  go_wp2_with fail
  go_loopw [4, 3] (fun i v wr => HexS s w i v wr) (fun i _ _ => s.size - (intOf i).toNat)
  case atStart => exact ⟨0, Nat.zero_le _, rfl, World.ownsRow_nil _ _ _ _, Below.refl _ _⟩
  case round =>
    obtain ⟨k, hk, rfl, hown, hbl⟩ := hrel
    obtain ⟨av, cv, rfl⟩ := row_slice hown.out
    by_cases hlt : k < s.size
    · have hlti : (k : Int) < s.size := by omega
      have hkL : k < s.data.toList.length := by omega
      obtain ⟨b, hb⟩ : ∃ b, s.data.toList[k]'hkL = b := ⟨_, rfl⟩
      have hsb : s[k]'hlt = b := hb
      have HLS : Hid (hexL (s.data.toList.take (k + 1)) = hexL (s.data.toList.take k) ++ [hexD (b.toNat / 16), hexD (b.toNat % 16)]) := by
        show _ = _
        rw [List.take_succ_eq_append_getElem hkL, hb, hexL_snoc]
      have hbl2 := b.toNat_lt
      obtain ⟨p, hp⟩ : ∃ p, b.toNat / 16 = p := ⟨_, rfl⟩
      obtain ⟨q, hq⟩ : ∃ q, b.toNat % 16 = q := ⟨_, rfl⟩
      have hw1 : IntKind.u8.wrap ((b.toNat : Int) / 16) = (p : Int) := by rw [IntKind.wrap_u8]; omega
      have hw2 : (b.toNat : Int).tmod 16 = (q : Int) := by rw [Int.tmod_eq_emod_of_nonneg (by omega)]; omega
      have hp16 : p < 16 := by omega
      have hq16 : q < 16 := by omega
      have hpi : (p : Int) < 16 := by omega
      have hqi : (q : Int) < 16 := by omega
      have hq1 : (⟨#[48, 49, 50, 51, 52, 53, 54, 55, 56, 57, 97, 98, 99, 100, 101, 102]⟩ : ByteArray)[p]'hp16 = hexD p := hexB16_at p hp16
      have hq2 : (⟨#[48, 49, 50, 51, 52, 53, 54, 55, 56, 57, 97, 98, 99, 100, 101, 102]⟩ : ByteArray)[q]'hq16 = hexD q := hexB16_at q hq16
      rw [hp, hq] at HLS
      have hll : (hexL (s.data.toList.take k)).length ≤ 2000000 := by rw [hexL_length, List.length_take]; omega
      clear hb hp hq
      go_wp2_with fail
      go_region_law (refine step_append_lies _ rfl _ _ 72 rfl w.heap.size 5 i0 (.int .u8 0) 1 1 Tryz.underlying72 hi hz0 hz1 hz2 rfl (by decide) _ _ _ rfl (ownsRow_below hown.out ((bSelf _ _).drew)) ⟨wr.heap.size, 0, none⟩ 2 2 [_, _] rfl rfl (two_new wr _ _ 5) (by simp [Value.oneCell']) (by omega) (by unfold maxLen; omega) (by omega) (by have := hbl.out.size; simp; omega) _ rfl ?_; intro g cap w2 hown2 hgrow2 hat2 hlt2)
      all_goals (
        have h9 := hown2
        rw [show ([Value.int .u8 ((hexD p).toNat : Int), .int .u8 ((hexD q).toNat : Int)]) = c8 [hexD p, hexD q] from rfl, show c8 (hexL (s.data.toList.take k)) ++ c8 [hexD p, hexD q] = c8 (hexL (s.data.toList.take (k + 1))) by rw [HLS.out, c8, c8, c8, List.map_append]] at h9
        have HROW : Hid (w2.ownsRow w.heap.size 5 1 (.slice (some ⟨g, 0, none⟩) ((hexL (s.data.toList.take k)).length + 2) cap) (hexL (s.data.toList.take (k + 1))).length (c8 (hexL (s.data.toList.take (k + 1))))) := by
          show World.ownsRow _ _ _ _ _ _ _
          have e : (hexL (s.data.toList.take (k + 1))).length = (hexL (s.data.toList.take k)).length + 2 := by rw [HLS.out, List.length_append]; rfl
          rw [e]; exact h9
        have HB2 : Hid (Below w.heap.size w w2) := ((bAl hbl.out _).drew).grown hgrow2 (by have := hbl.out.size; simp; omega) (fun j hj => (hown.out.lt j hj).1)
        clear h9 hown2 hgrow2 hat2 hw1 hw2 hq1 hq2
        go_wp2
        go_roundw
        case rel => exact ⟨k + 1, by omega, by go_num, HROW, HB2⟩
        case measure => simp [intOf]; omega)
    · obtain rfl : s.size = k := by omega
      have hcv := conv_row wr _ _ _ hown.out
      rw [List.take_of_length_le (by omega)] at hcv
      rw [List.take_of_length_le (by omega)]
      go_wp2
      go_ret
      exact ⟨rfl, hbl.out⟩

def digI (b : UInt8) : Int := match hexV b with | some v => (v : Int) | none => -1
theorem digI_eq (b : UInt8) : Lib.indexByte [48, 49, 50, 51, 52, 53, 54, 55, 56, 57, 97, 98, 99, 100, 101, 102] b = digI b := by
  have : ∀ n : Fin 256, Lib.indexByte [48, 49, 50, 51, 52, 53, 54, 55, 56, 57, 97, 98, 99, 100, 101, 102] (UInt8.ofNat n.val) = digI (UInt8.ofNat n.val) := by decide +kernel
  have h := this ⟨b.toNat, b.toNat_lt⟩
  dsimp only at h
  rw [UInt8.ofNat_toNat] at h
  exact h
theorem t62 (b : UInt8) (w : World) : Calls Tryz.prog 62 #[.int .u8 b.toNat] w fun e w' => e = .returned (.int .i64 (digI b)) ∧ w = w' := by
  have C := fun W => Tryz.strings_IndexByte ⟨#[48, 49, 50, 51, 52, 53, 54, 55, 56, 57, 97, 98, 99, 100, 101, 102]⟩ b.toNat W
  rw [show ((b.toNat : Int)).toNat.toUInt8 = b by simp, show (⟨#[48, 49, 50, 51, 52, 53, 54, 55, 56, 57, 97, 98, 99, 100, 101, 102]⟩ : ByteArray).data.toList = [48, 49, 50, 51, 52, 53, 54, 55, 56, 57, 97, 98, 99, 100, 101, 102] from rfl, digI_eq] at C
  go_enter Tryz.func62, Tryz.ntmps62
  go_wp2_with fail
  refine (C _).mono ?_
  rintro e w1 ⟨rfl, rfl⟩
  go_wp2
  go_ret
  exact ⟨rfl, rfl⟩
theorem pairL_even : ∀ (l : List Nat) (x : Nat), l.length % 2 = 0 → pairL (l ++ [x]) = pairL l ++ [UInt8.ofNat (16 * x)]
  | [], x, _ => rfl
  | [_], _, h => by simp at h
  | a :: b :: r, x, h => by
    have h2 : r.length % 2 = 0 := by simp only [List.length_cons] at h; omega
    rw [List.cons_append, List.cons_append, pairL, pairL, pairL_even r x h2, List.cons_append]
theorem pairL_odd : ∀ (l : List Nat) (x : Nat), l.length % 2 = 1 → pairL (l ++ [x]) = (pairL l).set (l.length / 2) ((pairL l).getD (l.length / 2) 0 + UInt8.ofNat x)
  | [], x, h => by simp at h
  | [y], x, _ => by simp [pairL, UInt8.ofNat_add]
  | a :: b :: r, x, h => by
    have h2 : r.length % 2 = 1 := by simp only [List.length_cons] at h; omega
    rw [List.cons_append, List.cons_append, pairL, pairL, pairL_odd r x h2]
    simp only [List.length_cons]
    rw [show (r.length + 1 + 1) / 2 = r.length / 2 + 1 by omega, List.set_cons_succ, List.getD_cons_succ]
theorem pairL_last : ∀ (l : List Nat), (∀ x ∈ l, x < 16) → l.length % 2 = 1 → ∃ y, y < 16 ∧ (pairL l)[l.length / 2]? = some (UInt8.ofNat (16 * y))
  | [], _, h => by simp at h
  | [y], hl, _ => ⟨y, hl y (by simp), by simp [pairL]⟩
  | a :: b :: r, hl, h => by
    have h2 : r.length % 2 = 1 := by simp only [List.length_cons] at h; omega
    obtain ⟨y, h3, h4⟩ := pairL_last r (fun x hx => hl x (by simp [hx])) h2
    refine ⟨y, h3, ?_⟩
    simp only [List.length_cons]
    rw [show (r.length + 1 + 1) / 2 = r.length / 2 + 1 by omega, pairL, List.getElem?_cons_succ]
    exact h4
theorem u8_16 (x : Nat) (h : x < 16) : 16 * (x : Int) = ((UInt8.ofNat (16 * x)).toNat : Int) := by
  rw [UInt8.toNat_ofNat']; omega
theorem u8_16add (y x : Nat) (_h : y < 16) (h2 : x < 16) : ((UInt8.ofNat (16 * y)).toNat : Int) + (x : Int) = ((UInt8.ofNat (16 * y) + UInt8.ofNat x).toNat : Int) := by
  rw [← UInt8.ofNat_add, UInt8.toNat_ofNat', UInt8.toNat_ofNat']; omega
/-- hex digits that are read -/
def Vs (s : List UInt8) (k : Nat) (ds : List Nat) : Prop := ∃ vs, hexVs (s.take k) = some vs ∧ ds = vs ++ List.replicate (k - s.length) 0
theorem Vs.len {s : List UInt8} {k : Nat} {ds : List Nat} (h : Vs s k ds) : ds.length = k ∧ ∀ x ∈ ds, x < 16 := by
  obtain ⟨vs, h1, rfl⟩ := h
  obtain ⟨h2, h3⟩ := hexVs_lt _ _ h1
  refine ⟨by rw [List.length_append, h2, List.length_take, List.length_replicate]; omega, fun x hx => ?_⟩
  rcases List.mem_append.1 hx with h | h
  · exact h3 x h
  · have := List.eq_of_mem_replicate h; omega
theorem Vs.out {s : List UInt8} {k : Nat} {ds : List Nat} (h : Vs s k ds) : hexN k s = some (pairL ds) := by
  obtain ⟨vs, h1, rfl⟩ := h
  unfold hexN; rw [h1]; rfl
theorem Vs.next {s : List UInt8} {k : Nat} {ds : List Nat} (h : Vs s k ds) (hk : k < s.length) {x : Nat} (hx : hexV s[k] = some x) : Vs s (k + 1) (ds ++ [x]) := by
  obtain ⟨vs, h1, rfl⟩ := h
  refine ⟨vs ++ [x], ?_, ?_⟩
  · rw [List.take_succ_eq_append_getElem hk, hexVs_snoc, h1, hx]
  · rw [show k - s.length = 0 by omega, show k + 1 - s.length = 0 by omega]; simp
theorem Vs.fill {s : List UInt8} {k : Nat} {ds : List Nat} (h : Vs s k ds) (hk : s.length ≤ k) : Vs s (k + 1) (ds ++ [0]) := by
  obtain ⟨vs, h1, rfl⟩ := h
  refine ⟨vs, ?_, ?_⟩
  · rw [List.take_of_length_le (by omega)] at h1 ⊢; exact h1
  · rw [show k + 1 - s.length = (k - s.length) + 1 by omega, List.replicate_succ', List.append_assoc]
theorem Vs.bad {s : List UInt8} {k N : Nat} {ds : List Nat} (h : Vs s k ds) (hk : k < s.length) (hx : hexV s[k] = none) (hN : k < N) : hexN N s = none := by
  obtain ⟨vs, h1, rfl⟩ := h
  have e : hexVs (s.take (k + 1)) = none := by rw [List.take_succ_eq_append_getElem hk, hexVs_snoc, h1, hx]
  have e2 : s.take N = s.take (k + 1) ++ (s.take N).drop (k + 1) := by
    have h := (List.take_append_drop (k + 1) (s.take N)).symm
    rw [List.take_take, Nat.min_eq_left (by omega)] at h
    exact h
  unfold hexN
  rw [e2, hexVs_none e]; rfl
def HxdR (r : Option (List UInt8)) (w : World) (e : Ending) (w' : World) : Prop :=
  Below w.heap.size w w' ∧
  match r with
  | none => e = .returned (.tuple #[.slice none 0 0, .int .i64 1])
  | some b => ∃ v, e = .returned (.tuple #[v, .int .i64 0]) ∧ w'.ownsRow w.heap.size 5 1 v b.length (c8 b)
def HxdL (s : ByteArray) (N : Nat) (w : World) (i v : Value) (wr : World) : Prop :=
  ∃ (k : Nat) (ds : List Nat), k ≤ N ∧ i = .int .i64 k ∧ Hid (Vs s.data.toList k ds) ∧ Hid (wr.ownsRow w.heap.size 5 1 v (pairL ds).length (c8 (pairL ds))) ∧ Hid (Below w.heap.size w wr)
theorem pairL_length (l : List Nat) : (pairL l).length = (l.length + 1) / 2 := pairL_len l
theorem c8_set (l : List UInt8) (j : Nat) (x : UInt8) : (c8 l).set j (.int .u8 x.toNat) = c8 (l.set j x) := by simp [c8, List.map_set]
set_option maxRecDepth 100000 in
set_option maxHeartbeats 4000000 in
theorem t43_all (s : ByteArray) (w : World) (hs : s.size ≤ 1200000) : Calls Tryz.prog 43 #[.string s, .int .i64 (-1)] w (HxdR (hexN s.size s.data.toList) w) := by
  have hsi : (s.size : Int) ≤ 1200000 := by omega
  have hsl : s.data.toList.length = s.size := rfl
  have h0 : Hid (Vs s.data.toList 0 []) := ⟨[], by simp [hexVs], by simp⟩
  go_enter Tryz.func43, Tryz.ntmps43
  go_wp2_with fail
  go_loopw [8, 7] (fun i v wr => HxdL s s.size w i v wr) (fun i _ _ => s.size - (intOf i).toNat)
  case atStart => exact ⟨0, [], Nat.zero_le _, rfl, h0, World.ownsRow_nil _ _ _ _, Below.refl _ _⟩
  case round =>
    obtain ⟨k, ds, hkN, rfl, hvs, hown, hbl⟩ := hrel
    obtain ⟨av, cv, rfl⟩ := row_slice hown.out
    obtain ⟨hdl, hds⟩ := hvs.out.len
    have hki : (k : Int) ≤ 1200000 := by omega
    by_cases hlt : k < s.size
    · have hlti : (k : Int) < s.size := by omega
      have hkp : True := trivial
      have hkz2 : k < s.size := by omega
      have hkL : k < s.data.toList.length := by omega
      obtain ⟨b, hb⟩ : ∃ b, s.data.toList[k]'hkL = b := ⟨_, rfl⟩
      have hsb : s[k]'hkz2 = b := hb
      have C62 := fun W => t62 b W
      cases hx : hexV b with
      | none =>
        have HE : Hid (hexN s.size s.data.toList = none) := hvs.out.bad hkL (by rw [hb]; exact hx) hlt
        rw [show digI b = -1 by unfold digI; rw [hx]] at C62
        clear hx hb hkp hds
        go_wp2_with (go_at_call 62; refine (C62 _).mono ?_; rintro e w1 ⟨rfl, rfl⟩)
        go_ret2
        refine ⟨hbl.out, ?_⟩
        rw [HE.out]; rfl
      | some x =>
        have HVN : Hid (Vs s.data.toList (k + 1) (ds ++ [x])) := hvs.out.next hkL (by rw [hb]; exact hx)
        have hx16 : x < 16 := hexV_lt hx
        have hxi : (x : Int) < 16 := by omega
        rw [show digI b = (x : Int) by unfold digI; rw [hx]] at C62
        have hex : True := trivial
        clear hx hb
        by_cases hev : k % 2 = 0
        · have hpar : ((k : Int) % 2 == 0) = true := by rw [beq_iff_eq]; omega
          have HPL : Hid (pairL (ds ++ [x]) = pairL ds ++ [UInt8.ofNat (16 * x)]) := pairL_even ds x (by omega)
          have hy := u8_16 x hx16
          generalize UInt8.ofNat (16 * x) = y at *
          have hyl := y.toNat_lt
          have hpl : (pairL ds).length ≤ 1200000 := by rw [pairL_length]; omega
          generalize hpp : pairL ds = P at *
          clear hpp hev hkp hex
          have HO := Lib.hid (ownsRow_below hown.out (bSelf wr (.cells #[.int .u8 y.toNat] 5)))
          have HRD : Hid (Rd (wr.alloc (.cells #[.int .u8 y.toNat] 5)) wr.heap.size [y]) := (newAt wr #[.int .u8 y.toNat] 5 _ (c8 [y]) rfl rfl).rd
          have hnn : P.length + 1 ≤ 1000000000 := by omega
          have hbs : w.heap.size ≤ (wr.alloc (.cells #[.int .u8 y.toNat] 5)).heap.size := by have := hbl.out.size; simp only [World.alloc, Array.size_push]; omega
          have HBS := Lib.hid hbs
          clear hbs
          go_wp2_with (first | (go_at_call 62; refine (C62 _).mono ?_; rintro e w1 ⟨rfl, rfl⟩) | at_builtin; refine app8n rfl _ _ rfl w.heap.size (.slice av P.length cv) P.length P rfl HO.out wr.heap.size 1 1 [y] rfl rfl HRD.out hnn HBS.out ?_; intro v6 w6 hown6 hgrow6; obtain ⟨a6, c6, rfl⟩ := row_slice hown6.out)
          have HROW : Hid (w6.ownsRow w.heap.size 5 1 (.slice a6 (P.length + 1) c6) (pairL (ds ++ [x])).length (c8 (pairL (ds ++ [x])))) := by
            show World.ownsRow _ _ _ _ _ _ _
            rw [HPL.out, List.length_append]; exact hown6.out
          have HB6 : Hid (Below w.heap.size w w6) := (bAl hbl.out _).grown hgrow6.out (by have := hbl.out.size; simp; omega) (fun j hj => (hown.out.lt j hj).1)
          clear hown6 hgrow6
          go_roundw
          case rel => exact ⟨k + 1, ds ++ [x], by omega, by go_num, HVN, HROW, HB6⟩
          case measure => simp [intOf]; omega
        · have hpar : ((k : Int) % 2 == 0) = false := by rw [beq_eq_false_iff_ne]; omega
          have HPL : Hid (pairL (ds ++ [x]) = (pairL ds).set (ds.length / 2) ((pairL ds).getD (ds.length / 2) 0 + UInt8.ofNat x)) := pairL_odd ds x (by omega)
          obtain ⟨y, hy16, hyl⟩ := pairL_last ds hds (by omega)
          have hlen := pairL_length ds
          obtain ⟨m, hm⟩ : ∃ m, ds.length / 2 = m := ⟨_, rfl⟩
          have hlen : (pairL ds).length = m + 1 := by omega
          rw [hm] at HPL hyl
          have hgd : (pairL ds).getD m 0 = UInt8.ofNat (16 * y) := by rw [List.getD_eq_getElem?_getD, hyl]; rfl
          rw [hgd] at HPL
          have ho := hown.out
          rw [hlen] at ho
          obtain ⟨g, cg, hsl, hge, hgl⟩ := ho.form (by omega)
          simp only [Value.slice.injEq] at hsl
          obtain ⟨rfl, _, rfl⟩ := hsl
          have hcell : wr.cell? ⟨g, m, none⟩ = some (.int .u8 ((UInt8.ofNat (16 * y)).toNat : Int)) := by
            rw [ho.cellAt m (by omega), c8_get hyl]
          have hfr := ho.frozenAt m
          have hst := ho.stored m (.int .u8 ((UInt8.ofNat (16 * y) + UInt8.ofNat x).toNat : Int))
          rw [c8_set] at hst
          have hadd := u8_16add y x hy16 hx16
          generalize UInt8.ofNat (16 * y) + UInt8.ofNat x = z at *
          generalize UInt8.ofNat (16 * y) = y0 at *
          have hzl := z.toNat_lt
          have hy0 := y0.toNat_lt
          have hmi : (m : Int) ≤ 1200000 := by omega
          have HROW : Hid ((wr.setCell ⟨g, m, none⟩ (.int .u8 z.toNat)).ownsRow w.heap.size 5 1 (.slice (some ⟨g, 0, none⟩) (m + 1) cv) (pairL (ds ++ [x])).length (c8 (pairL (ds ++ [x])))) := by
            show World.ownsRow _ _ _ _ _ _ _
            rw [HPL.out, List.length_set, hlen]; exact hst.1
          have HB6 : Hid (Below w.heap.size w (wr.setCell ⟨g, m, none⟩ (.int .u8 z.toNat))) := bSet hbl.out g m hge _
          rw [hlen]
          clear hev hkp hex hst ho hgd hyl HPL hlen hds hm
          go_wp2_with (go_at_call 62; refine (C62 _).mono ?_; rintro e w1 ⟨rfl, rfl⟩)
          go_roundw
          case rel => exact ⟨k + 1, ds ++ [x], by omega, by go_num, HVN, HROW, HB6⟩
          case measure => simp [intOf]; omega
    · obtain rfl : s.size = k := by omega
      have HE : Hid (hexN s.size s.data.toList = some (pairL ds)) := hvs.out.out
      clear hlt
      go_wp2
      go_ret2
      refine ⟨hbl.out, ?_⟩
      rw [HE.out]
      exact ⟨_, rfl, hown.out⟩
set_option maxRecDepth 100000 in
set_option maxHeartbeats 4000000 in
theorem t43_cnt (s : ByteArray) (n : Nat) (w : World) (hs : s.size ≤ 1200000) (hn : n ≤ 1000) : Calls Tryz.prog 43 #[.string s, .int .i64 n] w (HxdR (hexN n s.data.toList) w) := by
  have hsi : (s.size : Int) ≤ 1200000 := by omega
  have hsl : s.data.toList.length = s.size := rfl
  have hneg : ((n : Int) == -1) = false := by rw [beq_eq_false_iff_ne]; omega
  have hni : (n : Int) ≤ 1000 := by omega
  have h0 : Hid (Vs s.data.toList 0 []) := ⟨[], by simp [hexVs], by simp⟩
  go_enter Tryz.func43, Tryz.ntmps43
  go_wp2_with fail
  go_loopw [8, 7] (fun i v wr => HxdL s n w i v wr) (fun i _ _ => n - (intOf i).toNat)
  case atStart => exact ⟨0, [], Nat.zero_le _, rfl, h0, World.ownsRow_nil _ _ _ _, Below.refl _ _⟩
  case round =>
    obtain ⟨k, ds, hkN, rfl, hvs, hown, hbl⟩ := hrel
    obtain ⟨av, cv, rfl⟩ := row_slice hown.out
    obtain ⟨hdl, hds⟩ := hvs.out.len
    have hki : (k : Int) ≤ 1200000 := by omega
    by_cases hlt : k < n
    · have hlti : (k : Int) < n := by omega
      have hkp : True := trivial
      by_cases hks : k < s.size
      · have hksi : (k : Int) < s.size := by omega
        have hkz2 : k < s.size := by omega
        have hkL : k < s.data.toList.length := by omega
        obtain ⟨b, hb⟩ : ∃ b, s.data.toList[k]'hkL = b := ⟨_, rfl⟩
        have hsb : s[k]'hkz2 = b := hb
        have C62 := fun W => t62 b W
        cases hx : hexV b with
        | none =>
          have HE : Hid (hexN n s.data.toList = none) := hvs.out.bad hkL (by rw [hb]; exact hx) hlt
          rw [show digI b = -1 by unfold digI; rw [hx]] at C62
          clear hx hb hkp hds
          go_wp2_with (go_at_call 62; refine (C62 _).mono ?_; rintro e w1 ⟨rfl, rfl⟩)
          go_ret2
          refine ⟨hbl.out, ?_⟩
          rw [HE.out]; rfl
        | some x =>
          have HVN : Hid (Vs s.data.toList (k + 1) (ds ++ [x])) := hvs.out.next hkL (by rw [hb]; exact hx)
          have hx16 : x < 16 := hexV_lt hx
          have hxi : (x : Int) < 16 := by omega
          rw [show digI b = (x : Int) by unfold digI; rw [hx]] at C62
          have hex : True := trivial
          clear hx hb
          by_cases hev : k % 2 = 0
          · have hpar : ((k : Int) % 2 == 0) = true := by rw [beq_iff_eq]; omega
            have HPL : Hid (pairL (ds ++ [x]) = pairL ds ++ [UInt8.ofNat (16 * x)]) := pairL_even ds x (by omega)
            have hy := u8_16 x hx16
            generalize UInt8.ofNat (16 * x) = y at *
            have hyl := y.toNat_lt
            have hpl : (pairL ds).length ≤ 1200000 := by rw [pairL_length]; omega
            generalize hpp : pairL ds = P at *
            clear hpp hev hkp hex
            have HO := Lib.hid (ownsRow_below hown.out (bSelf wr (.cells #[.int .u8 y.toNat] 5)))
            have HRD : Hid (Rd (wr.alloc (.cells #[.int .u8 y.toNat] 5)) wr.heap.size [y]) := (newAt wr #[.int .u8 y.toNat] 5 _ (c8 [y]) rfl rfl).rd
            have hnn : P.length + 1 ≤ 1000000000 := by omega
            have hbs : w.heap.size ≤ (wr.alloc (.cells #[.int .u8 y.toNat] 5)).heap.size := by have := hbl.out.size; simp only [World.alloc, Array.size_push]; omega
            have HBS := Lib.hid hbs
            clear hbs
            go_wp2_with (first | (go_at_call 62; refine (C62 _).mono ?_; rintro e w1 ⟨rfl, rfl⟩) | at_builtin; refine app8n rfl _ _ rfl w.heap.size (.slice av P.length cv) P.length P rfl HO.out wr.heap.size 1 1 [y] rfl rfl HRD.out hnn HBS.out ?_; intro v6 w6 hown6 hgrow6; obtain ⟨a6, c6, rfl⟩ := row_slice hown6.out)
            have HROW : Hid (w6.ownsRow w.heap.size 5 1 (.slice a6 (P.length + 1) c6) (pairL (ds ++ [x])).length (c8 (pairL (ds ++ [x])))) := by
              show World.ownsRow _ _ _ _ _ _ _
              rw [HPL.out, List.length_append]; exact hown6.out
            have HB6 : Hid (Below w.heap.size w w6) := (bAl hbl.out _).grown hgrow6.out (by have := hbl.out.size; simp; omega) (fun j hj => (hown.out.lt j hj).1)
            clear hown6 hgrow6
            go_roundw
            case rel => exact ⟨k + 1, ds ++ [x], by omega, by go_num, HVN, HROW, HB6⟩
            case measure => simp [intOf]; omega
          · have hpar : ((k : Int) % 2 == 0) = false := by rw [beq_eq_false_iff_ne]; omega
            have HPL : Hid (pairL (ds ++ [x]) = (pairL ds).set (ds.length / 2) ((pairL ds).getD (ds.length / 2) 0 + UInt8.ofNat x)) := pairL_odd ds x (by omega)
            obtain ⟨y, hy16, hyl⟩ := pairL_last ds hds (by omega)
            have hlen := pairL_length ds
            obtain ⟨m, hm⟩ : ∃ m, ds.length / 2 = m := ⟨_, rfl⟩
            have hlen : (pairL ds).length = m + 1 := by omega
            rw [hm] at HPL hyl
            have hgd : (pairL ds).getD m 0 = UInt8.ofNat (16 * y) := by rw [List.getD_eq_getElem?_getD, hyl]; rfl
            rw [hgd] at HPL
            have ho := hown.out
            rw [hlen] at ho
            obtain ⟨g, cg, hsl, hge, hgl⟩ := ho.form (by omega)
            simp only [Value.slice.injEq] at hsl
            obtain ⟨rfl, _, rfl⟩ := hsl
            have hcell : wr.cell? ⟨g, m, none⟩ = some (.int .u8 ((UInt8.ofNat (16 * y)).toNat : Int)) := by
              rw [ho.cellAt m (by omega), c8_get hyl]
            have hfr := ho.frozenAt m
            have hst := ho.stored m (.int .u8 ((UInt8.ofNat (16 * y) + UInt8.ofNat x).toNat : Int))
            rw [c8_set] at hst
            have hadd := u8_16add y x hy16 hx16
            generalize UInt8.ofNat (16 * y) + UInt8.ofNat x = z at *
            generalize UInt8.ofNat (16 * y) = y0 at *
            have hzl := z.toNat_lt
            have hy0 := y0.toNat_lt
            have hmi : (m : Int) ≤ 1200000 := by omega
            have HROW : Hid ((wr.setCell ⟨g, m, none⟩ (.int .u8 z.toNat)).ownsRow w.heap.size 5 1 (.slice (some ⟨g, 0, none⟩) (m + 1) cv) (pairL (ds ++ [x])).length (c8 (pairL (ds ++ [x])))) := by
              show World.ownsRow _ _ _ _ _ _ _
              rw [HPL.out, List.length_set, hlen]; exact hst.1
            have HB6 : Hid (Below w.heap.size w (wr.setCell ⟨g, m, none⟩ (.int .u8 z.toNat))) := bSet hbl.out g m hge _
            rw [hlen]
            clear hev hkp hex hst ho hgd hyl HPL hlen hds hm
            go_wp2_with (go_at_call 62; refine (C62 _).mono ?_; rintro e w1 ⟨rfl, rfl⟩)
            go_roundw
            case rel => exact ⟨k + 1, ds ++ [x], by omega, by go_num, HVN, HROW, HB6⟩
            case measure => simp [intOf]; omega
      · have hksi : decide ((k : Int) < s.size) = false := decide_eq_false (by omega)
        have hksn : s.size ≤ k := by omega
        have HVN : Hid (Vs s.data.toList (k + 1) (ds ++ [0])) := hvs.out.fill (by omega)
        have hex : True := trivial
        by_cases hev : k % 2 = 0
        · obtain ⟨y, hy0⟩ : ∃ y : UInt8, y = 0 := ⟨_, rfl⟩
          have hpar : ((k : Int) % 2 == 0) = true := by rw [beq_iff_eq]; omega
          have HPL : Hid (pairL (ds ++ [0]) = pairL ds ++ [y]) := by rw [hy0]; exact pairL_even ds 0 (by omega)
          have hy : (y.toNat : Int) = 0 := by rw [hy0]; rfl
          have hpl : (pairL ds).length ≤ 1200000 := by rw [pairL_length]; omega
          generalize hpp : pairL ds = P at *
          clear hpp hev hkp hex hy
          have HO := Lib.hid (ownsRow_below hown.out (bSelf wr (.cells #[.int .u8 0] 5)))
          have HRD : Hid (Rd (wr.alloc (.cells #[.int .u8 0] 5)) wr.heap.size [y]) := (newAt wr #[.int .u8 0] 5 _ (c8 [y]) rfl (by rw [hy0]; rfl)).rd
          have hnn : P.length + 1 ≤ 1000000000 := by omega
          have hbs : w.heap.size ≤ (wr.alloc (.cells #[.int .u8 0] 5)).heap.size := by have := hbl.out.size; simp only [World.alloc, Array.size_push]; omega
          have HBS := Lib.hid hbs
          clear hbs
          go_wp2_with (at_builtin; refine app8n rfl _ _ rfl w.heap.size (.slice av P.length cv) P.length P rfl HO.out wr.heap.size 1 1 [y] rfl rfl HRD.out hnn HBS.out ?_; intro v6 w6 hown6 hgrow6; obtain ⟨a6, c6, rfl⟩ := row_slice hown6.out)
          have HROW : Hid (w6.ownsRow w.heap.size 5 1 (.slice a6 (P.length + 1) c6) (pairL (ds ++ [0])).length (c8 (pairL (ds ++ [0])))) := by
            show World.ownsRow _ _ _ _ _ _ _
            rw [HPL.out, List.length_append]; exact hown6.out
          have HB6 : Hid (Below w.heap.size w w6) := (bAl hbl.out _).grown hgrow6.out (by have := hbl.out.size; simp; omega) (fun j hj => (hown.out.lt j hj).1)
          clear hown6 hgrow6
          go_roundw
          case rel => exact ⟨k + 1, ds ++ [0], by omega, by go_num, HVN, HROW, HB6⟩
          case measure => simp [intOf]; omega
        · have hpar : ((k : Int) % 2 == 0) = false := by rw [beq_eq_false_iff_ne]; omega
          have HPL : Hid (pairL (ds ++ [0]) = (pairL ds).set (ds.length / 2) ((pairL ds).getD (ds.length / 2) 0)) := by show _ = _; rw [pairL_odd ds 0 (by omega)]; congr 1; exact UInt8.add_zero _
          obtain ⟨y, hy16, hyl⟩ := pairL_last ds hds (by omega)
          have hlen := pairL_length ds
          obtain ⟨m, hm⟩ : ∃ m, ds.length / 2 = m := ⟨_, rfl⟩
          have hlen : (pairL ds).length = m + 1 := by omega
          rw [hm] at HPL hyl
          have hgd : (pairL ds).getD m 0 = UInt8.ofNat (16 * y) := by rw [List.getD_eq_getElem?_getD, hyl]; rfl
          rw [hgd] at HPL
          have ho := hown.out
          rw [hlen] at ho
          obtain ⟨g, cg, hsl, hge, hgl⟩ := ho.form (by omega)
          simp only [Value.slice.injEq] at hsl
          obtain ⟨rfl, _, rfl⟩ := hsl
          have hcell : wr.cell? ⟨g, m, none⟩ = some (.int .u8 ((UInt8.ofNat (16 * y)).toNat : Int)) := by
            rw [ho.cellAt m (by omega), c8_get hyl]
          have hfr := ho.frozenAt m
          have hst := ho.stored m (.int .u8 ((UInt8.ofNat (16 * y)).toNat : Int))
          rw [c8_set] at hst
          generalize UInt8.ofNat (16 * y) = z at *
          have hzl := z.toNat_lt
          have hmi : (m : Int) ≤ 1200000 := by omega
          have HROW : Hid ((wr.setCell ⟨g, m, none⟩ (.int .u8 z.toNat)).ownsRow w.heap.size 5 1 (.slice (some ⟨g, 0, none⟩) (m + 1) cv) (pairL (ds ++ [0])).length (c8 (pairL (ds ++ [0])))) := by
            show World.ownsRow _ _ _ _ _ _ _
            rw [HPL.out, List.length_set, hlen]; exact hst.1
          have HB6 : Hid (Below w.heap.size w (wr.setCell ⟨g, m, none⟩ (.int .u8 z.toNat))) := bSet hbl.out g m hge _
          rw [hlen]
          clear hev hkp hex hst ho hgd hyl HPL hlen hds hm
          go_wp2
          go_roundw
          case rel => exact ⟨k + 1, ds ++ [0], by omega, by go_num, HVN, HROW, HB6⟩
          case measure => simp [intOf]; omega
    · obtain rfl : n = k := by omega
      have HE : Hid (hexN n s.data.toList = some (pairL ds)) := hvs.out.out
      clear hlt
      go_wp2
      go_ret2
      refine ⟨hbl.out, ?_⟩
      rw [HE.out]
      exact ⟨_, rfl, hown.out⟩
set_option maxRecDepth 100000 in
set_option maxHeartbeats 2000000 in
theorem t22 (s : ByteArray) (w : World) (hs : s.size ≤ 1000000) : Calls Tryz.prog 22 #[.string s] w (BytR (unhexL s.data.toList) w) := by
  have hsi : (s.size : Int) ≤ 1000000 := by omega
  have C := t43_all s w (by omega)
  have hsl : s.data.toList.length = s.size := rfl
  have HU : Hid (unhexL s.data.toList = match hexN s.size s.data.toList with | none => none | some b => if s.size % 2 = 1 then none else some b) := rfl
  cases hh : hexN s.size s.data.toList with
  | none =>
    have HU2 : Hid (unhexL s.data.toList = none) := by show _ = _; rw [HU.out, hh]
    rw [hh] at C
    clear hh
    go_enter Tryz.func22, Tryz.ntmps22
    go_wp2_with fail
    refine C.mono ?_
    rintro e w1 ⟨hb, rfl⟩
    have HB := Lib.hid hb
    clear hb
    go_wp2
    go_ret2
    refine ⟨?_, HB.out⟩
    rw [HU2.out]; rfl
  | some l =>
    rw [hh] at C
    by_cases hodd : s.size % 2 = 1
    · have HU2 : Hid (unhexL s.data.toList = none) := by show _ = _; rw [HU.out, hh]; dsimp only; rw [if_pos hodd]
      have ho : ((s.size : Int) % 2 == 1) = true := by rw [beq_iff_eq]; omega
      clear hh hodd
      go_enter Tryz.func22, Tryz.ntmps22
      go_wp2_with fail
      refine C.mono ?_
      rintro e w1 ⟨hb, v, rfl, hr⟩
      have HB := Lib.hid hb
      clear hb
      go_wp2
      go_ret2
      refine ⟨?_, HB.out⟩
      rw [HU2.out]; rfl
    · have HU2 : Hid (unhexL s.data.toList = some l) := by show _ = _; rw [HU.out, hh]; dsimp only; rw [if_neg hodd]
      have ho : ((s.size : Int) % 2 == 1) = false := by rw [beq_eq_false_iff_ne]; omega
      clear hh hodd
      go_enter Tryz.func22, Tryz.ntmps22
      go_wp2_with fail
      refine C.mono ?_
      rintro e w1 ⟨hb, v, rfl, hr⟩
      have hcv := conv_row w1 _ _ _ hr
      obtain ⟨a1, c1, rfl⟩ := row_slice hr
      have HB := Lib.hid hb
      clear hb hr
      go_wp2
      go_ret2
      refine ⟨?_, HB.out⟩
      rw [HU2.out]; rfl
end Go.Proofs.YtmbnckmhngijdaaGreatDoor
