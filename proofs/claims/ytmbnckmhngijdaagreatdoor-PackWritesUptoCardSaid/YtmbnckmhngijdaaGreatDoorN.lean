/- Contract of fromDigits. -/
import Derived.Test.YtmbnckmhngijdaaGreatDoorM
namespace Go.Proofs.YtmbnckmhngijdaaGreatDoor
open Go Go.RowKit

def pairN : List Nat → List Nat
  | [] => []
  | [x] => [16 * x]
  | x :: y :: r => (16 * x + y) :: pairN r
theorem pairL_N : ∀ l : List Nat, pairL l = (pairN l).map UInt8.ofNat
  | [] => rfl
  | [_] => rfl
  | _ :: _ :: r => by rw [pairL, pairN, List.map_cons, pairL_N r]
theorem pairN_length : ∀ l : List Nat, (pairN l).length = (l.length + 1) / 2
  | [] => rfl
  | [_] => by simp [pairN]
  | _ :: _ :: r => by rw [pairN, List.length_cons, pairN_length r]; simp only [List.length_cons]; omega
theorem pairN_lt : ∀ l : List Nat, (∀ x ∈ l, x < 16) → ∀ y ∈ pairN l, y < 256
  | [], _, y, hy => by cases hy
  | [x], h, y, hy => by
    have := h x (by simp)
    simp [pairN] at hy; omega
  | x :: z :: r, h, y, hy => by
    have h1 := h x (by simp)
    have h2 := h z (by simp)
    rw [pairN, List.mem_cons] at hy
    rcases hy with hy | hy
    · omega
    · exact pairN_lt r (fun u hu => h u (by simp [hu])) y hy
theorem pairN_zero : ∀ n : Nat, pairN (List.replicate n 0) = List.replicate ((n + 1) / 2) 0
  | 0 => rfl
  | 1 => rfl
  | n + 2 => by
    rw [List.replicate_succ, List.replicate_succ, pairN, pairN_zero n, show (n + 2 + 1) / 2 = (n + 1) / 2 + 1 by omega, List.replicate_succ]
theorem pairN_set : ∀ (l : List Nat) (i v : Nat), l[i]? = some 0 → pairN (l.set i v) = (pairN l).set (i / 2) ((pairN l).getD (i / 2) 0 + if i % 2 = 0 then 16 * v else v)
  | [], i, v, h => by simp at h
  | [x], i, v, h => by
    cases i with
    | zero =>
      simp at h; subst h
      simp [pairN]
    | succ i => simp at h
  | x :: y :: r, i, v, h => by
    match i, h with
    | 0, h =>
      simp at h; subst h
      simp [pairN]; omega
    | 1, h =>
      simp at h; subst h
      simp [pairN]
    | i + 2, h =>
      simp at h
      have ih := pairN_set r i v h
      rw [List.set_cons_succ, List.set_cons_succ, pairN, pairN, ih, show (i + 2) / 2 = i / 2 + 1 by omega, show (i + 2) % 2 = i % 2 by omega, List.set_cons_succ]
      simp
abbrev cN (l : List Nat) : List Value := l.map fun x : Nat => Value.int .u8 (x : Int)
theorem cN_c8 (l : List Nat) (h : ∀ x ∈ l, x < 16) : cN (pairN l) = c8 (pairL l) := by
  rw [pairL_N, c8, cN, List.map_map]
  apply List.map_congr_left
  intro x hx
  have := pairN_lt l h x hx
  show Value.int .u8 (x : Int) = Value.int .u8 ((UInt8.ofNat x).toNat : Int)
  rw [u8_of x this]
theorem hexV_lt {b : UInt8} {v : Nat} (h : hexV b = some v) : v < 16 := by
  unfold hexV at h
  split at h
  · cases h; omega
  · split at h
    · cases h; omega
    · cases h
theorem hexVs_lt : ∀ (l : List UInt8) (vs : List Nat), hexVs l = some vs → vs.length = l.length ∧ ∀ v ∈ vs, v < 16
  | [], vs, h => by cases h; exact ⟨rfl, fun v hv => by cases hv⟩
  | b :: l, vs, h => by
    unfold hexVs at h
    cases hb : hexV b with
    | none => rw [hb] at h; cases h
    | some v =>
      rw [hb] at h
      dsimp only at h
      cases hl : hexVs l with
      | none => rw [hl] at h; cases h
      | some ws =>
        rw [hl] at h
        cases h
        obtain ⟨h1, h2⟩ := hexVs_lt l ws hl
        refine ⟨by simp [h1], fun u hu => ?_⟩
        rcases List.mem_cons.1 hu with rfl | hu
        · exact hexV_lt hb
        · exact h2 u hu
theorem hexVs_snoc (l : List UInt8) (b : UInt8) : hexVs (l ++ [b]) = match hexVs l with | none => none | some vs => (match hexV b with | none => none | some v => some (vs ++ [v])) := by
  induction l with
  | nil =>
    show (match hexV b with | none => none | some v => (hexVs []).map (v :: ·)) = _
    cases hexV b <;> rfl
  | cons x l ih =>
    rw [List.cons_append]
    unfold hexVs
    cases hexV x with
    | none => rfl
    | some u =>
      dsimp only
      rw [ih]
      cases hexVs l with
      | none => rfl
      | some vs => cases hexV b <;> rfl
theorem hexVs_none {l m : List UInt8} (h : hexVs l = none) : hexVs (l ++ m) = none := by
  induction l with
  | nil => cases h
  | cons x l ih =>
    rw [List.cons_append]
    unfold hexVs at h ⊢
    cases hx : hexV x with
    | none => rfl
    | some u =>
      rw [hx] at h
      dsimp only at h ⊢
      cases hl : hexVs l with
      | none => rw [ih hl]; rfl
      | some vs => rw [hl] at h; cases h
/-- the digits that are looked at, and the zeros behind them -/
def hexN (N : Nat) (s : List UInt8) : Option (List UInt8) := (hexVs (s.take N)).map fun v => pairL (v ++ List.replicate (N - s.length) 0)
theorem hexB_N (al : Bool) (n : Nat) (s : List UInt8) : hexB al n s = hexN (if al then s.length else n) s := by
  unfold hexB hexN
  cases al with
  | true => simp
  | false => simp
def DigR (r : Option (List UInt8)) (w : World) (e : Ending) (w' : World) : Prop :=
  Below w.heap.size w w' ∧
  match r with
  | none => ∃ v, e = .returned (.tuple #[v, .bool false])
  | some l => ∃ g c, e = .returned (.tuple #[.slice (some ⟨g, 0, none⟩) l.length c, .bool true]) ∧ Rd w' g l ∧ w.heap.size ≤ g
def DigL (N M : Nat) (s : ByteArray) (W : World) (i : Value) (wr : World) : Prop :=
  ∃ (k : Nat) (V : List Nat), k ≤ M ∧ i = .int .i64 k ∧ Hid (hexVs (s.data.toList.take k) = some V) ∧ Hid (Blk wr W.heap.size 5 (cN (pairN (V ++ List.replicate (N - k) 0)))) ∧ Hid (Below W.heap.size W wr)
set_option maxRecDepth 100000 in
set_option maxHeartbeats 4000000 in
theorem t42_all (c : UInt8) (nb gr : Bool) (sz : Int) (n : Nat) (s : ByteArray) (w : World) (hs : s.size ≤ 1200000) (hn : n ≤ 1000) :
    Calls Tryz.prog 42 #[.agg #[.int .u8 c.toNat, .bool nb, .int .i64 sz, .bool gr, .bool true, .int .i64 n], .string s] w (DigR (hexN s.size s.data.toList) w) := by
  have hsi : (s.size : Int) ≤ 1200000 := by omega
  have hni : (n : Int) ≤ 1000 := by omega
  have hsl : s.data.toList.length = s.size := rfl
  have hb0 := bSelf w (.cells #[.int .u8 c.toNat, .bool nb, .int .i64 sz, .bool gr, .bool true, .int .i64 n] 81)
  have HDIV : Hid ((((s.size : Nat) : Int) + 1) / 2 = (((s.size + 1) / 2 : Nat) : Int)) := by show _ = _; omega
  have HTAKE : Hid (s.data.toList.take s.size = s.data.toList.take s.size) := rfl
  go_enter Tryz.func42, Tryz.ntmps42
  go_upto_region 4 with fail
  generalize w.alloc (.cells #[.int .u8 c.toNat, .bool nb, .int .i64 sz, .bool gr, .bool true, .int .i64 n] 81) = W at *
  have HB0 := Lib.hid hb0
  clear hb0
  go_upto_region 5 with (at_make; refine mk8 _ rfl _ _ rfl _ _ ((s.size + 1) / 2) rfl rfl HDIV.out HDIV.out (by omega) ?_; intro w1 hb1 hbl1)
  have hg0 : w.heap.size ≤ W.heap.size := HB0.out.size
  have HBL1 := Lib.hid hbl1
  have hblk : Blk w1 W.heap.size 5 (cN (pairN ([] ++ List.replicate (s.size - 0) 0))) := by
    have h := hb1.out
    rw [List.nil_append, Nat.sub_zero, pairN_zero]
    simpa [cN, c8] using h
  clear hb1 hbl1
  go_wp2
  go_loopw [25] (fun i wr => DigL s.size s.size s W i wr) (fun i _ => s.size - (intOf i).toNat)
  case atStart => exact ⟨0, [], Nat.zero_le _, rfl, rfl, hblk, HBL1.out⟩
  case round =>
    obtain ⟨i, V, hi, rfl, hv, hb, hbl⟩ := hrel
    obtain ⟨hVl, hVlt⟩ := hexVs_lt _ _ hv.out
    rw [List.length_take, hsl, Nat.min_eq_left (by omega)] at hVl
    by_cases hlt : i < s.size
    · have hlti : (i : Int) < s.size := by omega
      have hisz : i < s.size := by omega
      have hiszi : (i : Int) < s.size := by omega
      have hiL : i < s.data.toList.length := by omega
      obtain ⟨b, hb'⟩ : ∃ b, s.data.toList[i]'hiL = b := ⟨_, rfl⟩
      have hsb : s[i]'hisz = b := hb'
      have HB' := Lib.hid hb'
      clear hb'
      have C := fun W => t61 b W
      cases hx : hexV b with
      | none =>
        have hdv : digV b = .tuple #[.int .u8 0, .bool false] := by unfold digV; rw [hx]
        rw [hdv] at C
        have HN : Hid (hexN s.size s.data.toList = none) := by
          show _ = _
          have e : s.data.toList[i]'hiL = b := HB'.out
          have h1 : hexVs (s.data.toList.take (i + 1)) = none := by
            rw [List.take_succ_eq_append_getElem (by omega), hexVs_snoc, hv.out, e, hx]
          unfold hexN
          rw [show s.data.toList.take s.size = s.data.toList.take (i + 1) ++ (s.data.toList.take s.size).drop (i + 1) by
            conv => lhs; rw [← List.take_append_drop (i + 1) (s.data.toList.take s.size)]
            rw [List.take_take, Nat.min_eq_left (by omega)], hexVs_none h1]
          rfl
        clear hx hdv hVl hVlt
        go_wp2_with fail
        refine (C _).mono ?_
        rintro e w2 ⟨rfl, rfl⟩
        go_wp2
        go_ret2
        refine ⟨HB0.out.trans (hbl.out.mono hg0), ?_⟩
        rw [HN.out]
        exact ⟨_, rfl⟩
      | some v =>
        have hdv : digV b = .tuple #[.int .u8 v, .bool true] := by unfold digV; rw [hx]
        rw [hdv] at C
        have hv16 := hexV_lt hx
        have hvi : (v : Int) ≤ 15 := by omega
        have HX := Lib.hid hx
        clear hdv hx
        have hzero : (V ++ List.replicate (s.size - i) 0)[i]? = some 0 := by
          rw [List.getElem?_append_right (by omega), hVl, Nat.sub_self, List.getElem?_replicate_of_lt (by omega)]
        go_wp2_with fail
        refine (C _).mono ?_
        rintro e w2 ⟨rfl, rfl⟩
        by_cases hp : i % 2 = 0
        · have hpar : ((i : Int) % 2 == 0) = true := by rw [beq_iff_eq]; omega
          have hset := pairN_set (V ++ List.replicate (s.size - i) 0) i v hzero
          rw [if_pos hp] at hset
          have hsl2 : (V ++ List.replicate (s.size - i) 0).set i v = (V ++ [v]) ++ List.replicate (s.size - (i + 1)) 0 := by
            rw [List.set_append_right _ _ (by omega), hVl, Nat.sub_self, show s.size - i = (s.size - (i + 1)) + 1 by omega, List.replicate_succ, List.set_cons_zero]; simp
          have hlt16 : ∀ x ∈ (V ++ [v]) ++ List.replicate (s.size - (i + 1)) 0, x < 16 := by
            intro x hx
            simp only [List.mem_append, List.mem_singleton, List.mem_replicate] at hx
            rcases hx with (hx | hx) | hx
            · exact hVlt x hx
            · omega
            · omega
          rw [hsl2] at hset
          have hpl : i / 2 < (pairN (V ++ List.replicate (s.size - i) 0)).length := by
            rw [pairN_length]; simp only [List.length_append, List.length_replicate, hVl]; omega
          have hcell := hb.out.cell (i / 2) (show (cN _)[i / 2]? = some (.int .u8 (((pairN (V ++ List.replicate (s.size - i) 0)).getD (i / 2) 0 : Nat) : Int)) by
            rw [cN, List.getElem?_map, List.getElem?_eq_getElem hpl]
            simp [List.getD_eq_getElem?_getD, hpl])
          have hsum : (pairN (V ++ List.replicate (s.size - i) 0)).getD (i / 2) 0 + 16 * v < 256 := by
            refine pairN_lt _ hlt16 _ ?_
            rw [hset]
            exact List.mem_iff_getElem.2 ⟨i / 2, by rw [List.length_set]; exact hpl, by rw [List.getElem_set_self]⟩
          have hfr := hb.out.free (i / 2)
          have hi2l : (i : Int) / 2 < ((s.size + 1) / 2 : Nat) := by omega
          generalize (pairN (V ++ List.replicate (s.size - i) 0)).getD (i / 2) 0 = p at *
          have hpi : (p : Int) + (v : Int) * 16 ≤ 255 := by omega
          have HSET := Lib.hid hset
          have HVN : Hid (hexVs (s.data.toList.take (i + 1)) = some (V ++ [v])) := by
            show _ = _
            rw [List.take_succ_eq_append_getElem (by omega), hexVs_snoc, hv.out]
            have e : s.data.toList[i]'hiL = b := HB'.out
            rw [e, HX.out]
          have HVAL : Hid ((p : Int) + (v : Int) * 16 = ((p + 16 * v : Nat) : Int)) := by show _ = _; omega
          clear hset hsl2 hlt16 hpl hp hzero hsum
          go_wp2
          go_roundw
          case rel =>
            refine ⟨i + 1, V ++ [v], by omega, by go_num, HVN, ?_, bSet hbl.out _ _ (Nat.le_refl _) _⟩
            have h1 := hb.out.set (i / 2) (.int .u8 ((p : Int) + (v : Int) * 16))
            rw [HVAL.out] at h1 ⊢
            show Blk _ _ _ _
            rw [HSET.out, cN, List.map_set]
            exact h1
          case measure => simp [intOf]; omega

        · have hpar : ((i : Int) % 2 == 0) = false := by rw [beq_eq_false_iff_ne]; omega
          have hset := pairN_set (V ++ List.replicate (s.size - i) 0) i v hzero
          rw [if_neg hp] at hset
          have hsl2 : (V ++ List.replicate (s.size - i) 0).set i v = (V ++ [v]) ++ List.replicate (s.size - (i + 1)) 0 := by
            rw [List.set_append_right _ _ (by omega), hVl, Nat.sub_self, show s.size - i = (s.size - (i + 1)) + 1 by omega, List.replicate_succ, List.set_cons_zero]; simp
          have hlt16 : ∀ x ∈ (V ++ [v]) ++ List.replicate (s.size - (i + 1)) 0, x < 16 := by
            intro x hx
            simp only [List.mem_append, List.mem_singleton, List.mem_replicate] at hx
            rcases hx with (hx | hx) | hx
            · exact hVlt x hx
            · omega
            · omega
          rw [hsl2] at hset
          have hpl : i / 2 < (pairN (V ++ List.replicate (s.size - i) 0)).length := by
            rw [pairN_length]; simp only [List.length_append, List.length_replicate, hVl]; omega
          have hcell := hb.out.cell (i / 2) (show (cN _)[i / 2]? = some (.int .u8 (((pairN (V ++ List.replicate (s.size - i) 0)).getD (i / 2) 0 : Nat) : Int)) by
            rw [cN, List.getElem?_map, List.getElem?_eq_getElem hpl]
            simp [List.getD_eq_getElem?_getD, hpl])
          have hsum : (pairN (V ++ List.replicate (s.size - i) 0)).getD (i / 2) 0 + v < 256 := by
            refine pairN_lt _ hlt16 _ ?_
            rw [hset]
            exact List.mem_iff_getElem.2 ⟨i / 2, by rw [List.length_set]; exact hpl, by rw [List.getElem_set_self]⟩
          have hfr := hb.out.free (i / 2)
          have hi2l : (i : Int) / 2 < ((s.size + 1) / 2 : Nat) := by omega
          generalize (pairN (V ++ List.replicate (s.size - i) 0)).getD (i / 2) 0 = p at *
          have hpi : (p : Int) + (v : Int) ≤ 255 := by omega
          have HSET := Lib.hid hset
          have HVN : Hid (hexVs (s.data.toList.take (i + 1)) = some (V ++ [v])) := by
            show _ = _
            rw [List.take_succ_eq_append_getElem (by omega), hexVs_snoc, hv.out]
            have e : s.data.toList[i]'hiL = b := HB'.out
            rw [e, HX.out]
          have HVAL : Hid ((p : Int) + (v : Int) = ((p + v : Nat) : Int)) := by show _ = _; omega
          clear hset hsl2 hlt16 hpl hp hzero hsum
          go_wp2
          go_roundw
          case rel =>
            refine ⟨i + 1, V ++ [v], by omega, by go_num, HVN, ?_, bSet hbl.out _ _ (Nat.le_refl _) _⟩
            have h1 := hb.out.set (i / 2) (.int .u8 ((p : Int) + (v : Int)))
            rw [HVAL.out] at h1 ⊢
            show Blk _ _ _ _
            rw [HSET.out, cN, List.map_set]
            exact h1
          case measure => simp [intOf]; omega

    · obtain rfl : s.size = i := by omega
      have HN : Hid (hexN s.size s.data.toList = some (pairL (V ++ List.replicate (s.size - s.size) 0))) := by
        show _ = _
        unfold hexN
        have e : s.data.toList.take s.size = s.data.toList.take s.size := by first | exact HTAKE.out | rfl
        rw [e, hv.out, hsl]; rfl
      have hrep : s.size - s.size = s.size - s.size := by omega
      have h16 : ∀ x ∈ V ++ List.replicate (s.size - s.size) 0, x < 16 := by
        intro x hx
        simp only [List.mem_append, List.mem_replicate] at hx
        rcases hx with hx | hx
        · exact hVlt x hx
        · omega
      have hbb := hb.out
      rw [cN_c8 _ h16, hrep] at hbb
      have HBB := Lib.hid hbb
      have HLN : Hid ((pairL (V ++ List.replicate (s.size - s.size) 0)).length = (s.size + 1) / 2) := by
        show _ = _
        rw [pairL_N, List.length_map, pairN_length]; simp only [List.length_append, List.length_replicate, hVl]; omega
      clear hbb h16 hrep hVl hVlt hlt
      go_wp2
      go_ret2
      refine ⟨HB0.out.trans (hbl.out.mono hg0), ?_⟩
      rw [HN.out]
      exact ⟨W.heap.size, (s.size + 1) / 2, by rw [HLN.out]; rfl, HBB.out.rd, hg0⟩
set_option maxRecDepth 100000 in
set_option maxHeartbeats 4000000 in
theorem t42_cnt (c : UInt8) (nb gr : Bool) (sz : Int) (n : Nat) (s : ByteArray) (w : World) (hs : s.size ≤ 1200000) (hn : n ≤ 1000) :
    Calls Tryz.prog 42 #[.agg #[.int .u8 c.toNat, .bool nb, .int .i64 sz, .bool gr, .bool false, .int .i64 n], .string s] w (DigR (hexN n s.data.toList) w) := by
  have hsi : (s.size : Int) ≤ 1200000 := by omega
  have hni : (n : Int) ≤ 1000 := by omega
  have hsl : s.data.toList.length = s.size := rfl
  have hb0 := bSelf w (.cells #[.int .u8 c.toNat, .bool nb, .int .i64 sz, .bool gr, .bool false, .int .i64 n] 81)
  have HDIV : Hid ((((n : Nat) : Int) + 1) / 2 = (((n + 1) / 2 : Nat) : Int)) := by show _ = _; omega
  by_cases hle : n ≤ s.size
  · have HTAKE : Hid (s.data.toList.take n = s.data.toList.take n) := rfl
    have hmin : min (n : Int) (s.size : Int) = n := by omega
    go_enter Tryz.func42, Tryz.ntmps42
    go_upto_region 4 with fail
    generalize w.alloc (.cells #[.int .u8 c.toNat, .bool nb, .int .i64 sz, .bool gr, .bool false, .int .i64 n] 81) = W at *
    have HB0 := Lib.hid hb0
    clear hb0
    go_upto_region 5 with (at_make; refine mk8 _ rfl _ _ rfl _ _ ((n + 1) / 2) rfl rfl HDIV.out HDIV.out (by omega) ?_; intro w1 hb1 hbl1)
    have hg0 : w.heap.size ≤ W.heap.size := HB0.out.size
    have HBL1 := Lib.hid hbl1
    have hblk : Blk w1 W.heap.size 5 (cN (pairN ([] ++ List.replicate (n - 0) 0))) := by
      have h := hb1.out
      rw [List.nil_append, Nat.sub_zero, pairN_zero]
      simpa [cN, c8] using h
    clear hb1 hbl1
    go_wp2
    go_loopw [25] (fun i wr => DigL n n s W i wr) (fun i _ => n - (intOf i).toNat)
    case atStart => exact ⟨0, [], Nat.zero_le _, rfl, rfl, hblk, HBL1.out⟩
    case round =>
      obtain ⟨i, V, hi, rfl, hv, hb, hbl⟩ := hrel
      obtain ⟨hVl, hVlt⟩ := hexVs_lt _ _ hv.out
      rw [List.length_take, hsl, Nat.min_eq_left (by omega)] at hVl
      by_cases hlt : i < n
      · have hlti : (i : Int) < n := by omega
        have hisz : i < s.size := by omega
        have hiszi : (i : Int) < s.size := by omega
        have hiL : i < s.data.toList.length := by omega
        obtain ⟨b, hb'⟩ : ∃ b, s.data.toList[i]'hiL = b := ⟨_, rfl⟩
        have hsb : s[i]'hisz = b := hb'
        have HB' := Lib.hid hb'
        clear hb'
        have C := fun W => t61 b W
        cases hx : hexV b with
        | none =>
          have hdv : digV b = .tuple #[.int .u8 0, .bool false] := by unfold digV; rw [hx]
          rw [hdv] at C
          have HN : Hid (hexN n s.data.toList = none) := by
            show _ = _
            have e : s.data.toList[i]'hiL = b := HB'.out
            have h1 : hexVs (s.data.toList.take (i + 1)) = none := by
              rw [List.take_succ_eq_append_getElem (by omega), hexVs_snoc, hv.out, e, hx]
            unfold hexN
            rw [show s.data.toList.take n = s.data.toList.take (i + 1) ++ (s.data.toList.take n).drop (i + 1) by
              conv => lhs; rw [← List.take_append_drop (i + 1) (s.data.toList.take n)]
              rw [List.take_take, Nat.min_eq_left (by omega)], hexVs_none h1]
            rfl
          clear hx hdv hVl hVlt
          go_wp2_with fail
          refine (C _).mono ?_
          rintro e w2 ⟨rfl, rfl⟩
          go_wp2
          go_ret2
          refine ⟨HB0.out.trans (hbl.out.mono hg0), ?_⟩
          rw [HN.out]
          exact ⟨_, rfl⟩
        | some v =>
          have hdv : digV b = .tuple #[.int .u8 v, .bool true] := by unfold digV; rw [hx]
          rw [hdv] at C
          have hv16 := hexV_lt hx
          have hvi : (v : Int) ≤ 15 := by omega
          have HX := Lib.hid hx
          clear hdv hx
          have hzero : (V ++ List.replicate (n - i) 0)[i]? = some 0 := by
            rw [List.getElem?_append_right (by omega), hVl, Nat.sub_self, List.getElem?_replicate_of_lt (by omega)]
          go_wp2_with fail
          refine (C _).mono ?_
          rintro e w2 ⟨rfl, rfl⟩
          by_cases hp : i % 2 = 0
          · have hpar : ((i : Int) % 2 == 0) = true := by rw [beq_iff_eq]; omega
            have hset := pairN_set (V ++ List.replicate (n - i) 0) i v hzero
            rw [if_pos hp] at hset
            have hsl2 : (V ++ List.replicate (n - i) 0).set i v = (V ++ [v]) ++ List.replicate (n - (i + 1)) 0 := by
              rw [List.set_append_right _ _ (by omega), hVl, Nat.sub_self, show n - i = (n - (i + 1)) + 1 by omega, List.replicate_succ, List.set_cons_zero]; simp
            have hlt16 : ∀ x ∈ (V ++ [v]) ++ List.replicate (n - (i + 1)) 0, x < 16 := by
              intro x hx
              simp only [List.mem_append, List.mem_singleton, List.mem_replicate] at hx
              rcases hx with (hx | hx) | hx
              · exact hVlt x hx
              · omega
              · omega
            rw [hsl2] at hset
            have hpl : i / 2 < (pairN (V ++ List.replicate (n - i) 0)).length := by
              rw [pairN_length]; simp only [List.length_append, List.length_replicate, hVl]; omega
            have hcell := hb.out.cell (i / 2) (show (cN _)[i / 2]? = some (.int .u8 (((pairN (V ++ List.replicate (n - i) 0)).getD (i / 2) 0 : Nat) : Int)) by
              rw [cN, List.getElem?_map, List.getElem?_eq_getElem hpl]
              simp [List.getD_eq_getElem?_getD, hpl])
            have hsum : (pairN (V ++ List.replicate (n - i) 0)).getD (i / 2) 0 + 16 * v < 256 := by
              refine pairN_lt _ hlt16 _ ?_
              rw [hset]
              exact List.mem_iff_getElem.2 ⟨i / 2, by rw [List.length_set]; exact hpl, by rw [List.getElem_set_self]⟩
            have hfr := hb.out.free (i / 2)
            have hi2l : (i : Int) / 2 < ((n + 1) / 2 : Nat) := by omega
            generalize (pairN (V ++ List.replicate (n - i) 0)).getD (i / 2) 0 = p at *
            have hpi : (p : Int) + (v : Int) * 16 ≤ 255 := by omega
            have HSET := Lib.hid hset
            have HVN : Hid (hexVs (s.data.toList.take (i + 1)) = some (V ++ [v])) := by
              show _ = _
              rw [List.take_succ_eq_append_getElem (by omega), hexVs_snoc, hv.out]
              have e : s.data.toList[i]'hiL = b := HB'.out
              rw [e, HX.out]
            have HVAL : Hid ((p : Int) + (v : Int) * 16 = ((p + 16 * v : Nat) : Int)) := by show _ = _; omega
            clear hset hsl2 hlt16 hpl hp hzero hsum
            go_wp2
            go_roundw
            case rel =>
              refine ⟨i + 1, V ++ [v], by omega, by go_num, HVN, ?_, bSet hbl.out _ _ (Nat.le_refl _) _⟩
              have h1 := hb.out.set (i / 2) (.int .u8 ((p : Int) + (v : Int) * 16))
              rw [HVAL.out] at h1 ⊢
              show Blk _ _ _ _
              rw [HSET.out, cN, List.map_set]
              exact h1
            case measure => simp [intOf]; omega

          · have hpar : ((i : Int) % 2 == 0) = false := by rw [beq_eq_false_iff_ne]; omega
            have hset := pairN_set (V ++ List.replicate (n - i) 0) i v hzero
            rw [if_neg hp] at hset
            have hsl2 : (V ++ List.replicate (n - i) 0).set i v = (V ++ [v]) ++ List.replicate (n - (i + 1)) 0 := by
              rw [List.set_append_right _ _ (by omega), hVl, Nat.sub_self, show n - i = (n - (i + 1)) + 1 by omega, List.replicate_succ, List.set_cons_zero]; simp
            have hlt16 : ∀ x ∈ (V ++ [v]) ++ List.replicate (n - (i + 1)) 0, x < 16 := by
              intro x hx
              simp only [List.mem_append, List.mem_singleton, List.mem_replicate] at hx
              rcases hx with (hx | hx) | hx
              · exact hVlt x hx
              · omega
              · omega
            rw [hsl2] at hset
            have hpl : i / 2 < (pairN (V ++ List.replicate (n - i) 0)).length := by
              rw [pairN_length]; simp only [List.length_append, List.length_replicate, hVl]; omega
            have hcell := hb.out.cell (i / 2) (show (cN _)[i / 2]? = some (.int .u8 (((pairN (V ++ List.replicate (n - i) 0)).getD (i / 2) 0 : Nat) : Int)) by
              rw [cN, List.getElem?_map, List.getElem?_eq_getElem hpl]
              simp [List.getD_eq_getElem?_getD, hpl])
            have hsum : (pairN (V ++ List.replicate (n - i) 0)).getD (i / 2) 0 + v < 256 := by
              refine pairN_lt _ hlt16 _ ?_
              rw [hset]
              exact List.mem_iff_getElem.2 ⟨i / 2, by rw [List.length_set]; exact hpl, by rw [List.getElem_set_self]⟩
            have hfr := hb.out.free (i / 2)
            have hi2l : (i : Int) / 2 < ((n + 1) / 2 : Nat) := by omega
            generalize (pairN (V ++ List.replicate (n - i) 0)).getD (i / 2) 0 = p at *
            have hpi : (p : Int) + (v : Int) ≤ 255 := by omega
            have HSET := Lib.hid hset
            have HVN : Hid (hexVs (s.data.toList.take (i + 1)) = some (V ++ [v])) := by
              show _ = _
              rw [List.take_succ_eq_append_getElem (by omega), hexVs_snoc, hv.out]
              have e : s.data.toList[i]'hiL = b := HB'.out
              rw [e, HX.out]
            have HVAL : Hid ((p : Int) + (v : Int) = ((p + v : Nat) : Int)) := by show _ = _; omega
            clear hset hsl2 hlt16 hpl hp hzero hsum
            go_wp2
            go_roundw
            case rel =>
              refine ⟨i + 1, V ++ [v], by omega, by go_num, HVN, ?_, bSet hbl.out _ _ (Nat.le_refl _) _⟩
              have h1 := hb.out.set (i / 2) (.int .u8 ((p : Int) + (v : Int)))
              rw [HVAL.out] at h1 ⊢
              show Blk _ _ _ _
              rw [HSET.out, cN, List.map_set]
              exact h1
            case measure => simp [intOf]; omega

      · obtain rfl : n = i := by omega
        have HN : Hid (hexN n s.data.toList = some (pairL (V ++ List.replicate (n - s.size) 0))) := by
          show _ = _
          unfold hexN
          have e : s.data.toList.take n = s.data.toList.take n := by first | exact HTAKE.out | rfl
          rw [e, hv.out, hsl]; rfl
        have hrep : n - n = n - s.size := by omega
        have h16 : ∀ x ∈ V ++ List.replicate (n - n) 0, x < 16 := by
          intro x hx
          simp only [List.mem_append, List.mem_replicate] at hx
          rcases hx with hx | hx
          · exact hVlt x hx
          · omega
        have hbb := hb.out
        rw [cN_c8 _ h16, hrep] at hbb
        have HBB := Lib.hid hbb
        have HLN : Hid ((pairL (V ++ List.replicate (n - s.size) 0)).length = (n + 1) / 2) := by
          show _ = _
          rw [pairL_N, List.length_map, pairN_length]; simp only [List.length_append, List.length_replicate, hVl]; omega
        clear hbb h16 hrep hVl hVlt hlt
        go_wp2
        go_ret2
        refine ⟨HB0.out.trans (hbl.out.mono hg0), ?_⟩
        rw [HN.out]
        exact ⟨W.heap.size, (n + 1) / 2, by rw [HLN.out]; rfl, HBB.out.rd, hg0⟩
  · have HTAKE : Hid (s.data.toList.take n = s.data.toList.take s.size) := by
      show _ = _
      rw [List.take_of_length_le (by omega), List.take_of_length_le (by omega)]
    have hmin : min (n : Int) (s.size : Int) = s.size := by omega
    go_enter Tryz.func42, Tryz.ntmps42
    go_upto_region 4 with fail
    generalize w.alloc (.cells #[.int .u8 c.toNat, .bool nb, .int .i64 sz, .bool gr, .bool false, .int .i64 n] 81) = W at *
    have HB0 := Lib.hid hb0
    clear hb0
    go_upto_region 5 with (at_make; refine mk8 _ rfl _ _ rfl _ _ ((n + 1) / 2) rfl rfl HDIV.out HDIV.out (by omega) ?_; intro w1 hb1 hbl1)
    have hg0 : w.heap.size ≤ W.heap.size := HB0.out.size
    have HBL1 := Lib.hid hbl1
    have hblk : Blk w1 W.heap.size 5 (cN (pairN ([] ++ List.replicate (n - 0) 0))) := by
      have h := hb1.out
      rw [List.nil_append, Nat.sub_zero, pairN_zero]
      simpa [cN, c8] using h
    clear hb1 hbl1
    go_wp2
    go_loopw [25] (fun i wr => DigL n s.size s W i wr) (fun i _ => s.size - (intOf i).toNat)
    case atStart => exact ⟨0, [], Nat.zero_le _, rfl, rfl, hblk, HBL1.out⟩
    case round =>
      obtain ⟨i, V, hi, rfl, hv, hb, hbl⟩ := hrel
      obtain ⟨hVl, hVlt⟩ := hexVs_lt _ _ hv.out
      rw [List.length_take, hsl, Nat.min_eq_left (by omega)] at hVl
      by_cases hlt : i < s.size
      · have hlti : (i : Int) < s.size := by omega
        have hisz : i < s.size := by omega
        have hiszi : (i : Int) < s.size := by omega
        have hiL : i < s.data.toList.length := by omega
        obtain ⟨b, hb'⟩ : ∃ b, s.data.toList[i]'hiL = b := ⟨_, rfl⟩
        have hsb : s[i]'hisz = b := hb'
        have HB' := Lib.hid hb'
        clear hb'
        have C := fun W => t61 b W
        cases hx : hexV b with
        | none =>
          have hdv : digV b = .tuple #[.int .u8 0, .bool false] := by unfold digV; rw [hx]
          rw [hdv] at C
          have HN : Hid (hexN n s.data.toList = none) := by
            show _ = _
            have e : s.data.toList[i]'hiL = b := HB'.out
            have h1 : hexVs (s.data.toList.take (i + 1)) = none := by
              rw [List.take_succ_eq_append_getElem (by omega), hexVs_snoc, hv.out, e, hx]
            unfold hexN
            rw [show s.data.toList.take n = s.data.toList.take (i + 1) ++ (s.data.toList.take n).drop (i + 1) by
              conv => lhs; rw [← List.take_append_drop (i + 1) (s.data.toList.take n)]
              rw [List.take_take, Nat.min_eq_left (by omega)], hexVs_none h1]
            rfl
          clear hx hdv hVl hVlt
          go_wp2_with fail
          refine (C _).mono ?_
          rintro e w2 ⟨rfl, rfl⟩
          go_wp2
          go_ret2
          refine ⟨HB0.out.trans (hbl.out.mono hg0), ?_⟩
          rw [HN.out]
          exact ⟨_, rfl⟩
        | some v =>
          have hdv : digV b = .tuple #[.int .u8 v, .bool true] := by unfold digV; rw [hx]
          rw [hdv] at C
          have hv16 := hexV_lt hx
          have hvi : (v : Int) ≤ 15 := by omega
          have HX := Lib.hid hx
          clear hdv hx
          have hzero : (V ++ List.replicate (n - i) 0)[i]? = some 0 := by
            rw [List.getElem?_append_right (by omega), hVl, Nat.sub_self, List.getElem?_replicate_of_lt (by omega)]
          go_wp2_with fail
          refine (C _).mono ?_
          rintro e w2 ⟨rfl, rfl⟩
          by_cases hp : i % 2 = 0
          · have hpar : ((i : Int) % 2 == 0) = true := by rw [beq_iff_eq]; omega
            have hset := pairN_set (V ++ List.replicate (n - i) 0) i v hzero
            rw [if_pos hp] at hset
            have hsl2 : (V ++ List.replicate (n - i) 0).set i v = (V ++ [v]) ++ List.replicate (n - (i + 1)) 0 := by
              rw [List.set_append_right _ _ (by omega), hVl, Nat.sub_self, show n - i = (n - (i + 1)) + 1 by omega, List.replicate_succ, List.set_cons_zero]; simp
            have hlt16 : ∀ x ∈ (V ++ [v]) ++ List.replicate (n - (i + 1)) 0, x < 16 := by
              intro x hx
              simp only [List.mem_append, List.mem_singleton, List.mem_replicate] at hx
              rcases hx with (hx | hx) | hx
              · exact hVlt x hx
              · omega
              · omega
            rw [hsl2] at hset
            have hpl : i / 2 < (pairN (V ++ List.replicate (n - i) 0)).length := by
              rw [pairN_length]; simp only [List.length_append, List.length_replicate, hVl]; omega
            have hcell := hb.out.cell (i / 2) (show (cN _)[i / 2]? = some (.int .u8 (((pairN (V ++ List.replicate (n - i) 0)).getD (i / 2) 0 : Nat) : Int)) by
              rw [cN, List.getElem?_map, List.getElem?_eq_getElem hpl]
              simp [List.getD_eq_getElem?_getD, hpl])
            have hsum : (pairN (V ++ List.replicate (n - i) 0)).getD (i / 2) 0 + 16 * v < 256 := by
              refine pairN_lt _ hlt16 _ ?_
              rw [hset]
              exact List.mem_iff_getElem.2 ⟨i / 2, by rw [List.length_set]; exact hpl, by rw [List.getElem_set_self]⟩
            have hfr := hb.out.free (i / 2)
            have hi2l : (i : Int) / 2 < ((n + 1) / 2 : Nat) := by omega
            generalize (pairN (V ++ List.replicate (n - i) 0)).getD (i / 2) 0 = p at *
            have hpi : (p : Int) + (v : Int) * 16 ≤ 255 := by omega
            have HSET := Lib.hid hset
            have HVN : Hid (hexVs (s.data.toList.take (i + 1)) = some (V ++ [v])) := by
              show _ = _
              rw [List.take_succ_eq_append_getElem (by omega), hexVs_snoc, hv.out]
              have e : s.data.toList[i]'hiL = b := HB'.out
              rw [e, HX.out]
            have HVAL : Hid ((p : Int) + (v : Int) * 16 = ((p + 16 * v : Nat) : Int)) := by show _ = _; omega
            clear hset hsl2 hlt16 hpl hp hzero hsum
            go_wp2
            go_roundw
            case rel =>
              refine ⟨i + 1, V ++ [v], by omega, by go_num, HVN, ?_, bSet hbl.out _ _ (Nat.le_refl _) _⟩
              have h1 := hb.out.set (i / 2) (.int .u8 ((p : Int) + (v : Int) * 16))
              rw [HVAL.out] at h1 ⊢
              show Blk _ _ _ _
              rw [HSET.out, cN, List.map_set]
              exact h1
            case measure => simp [intOf]; omega

          · have hpar : ((i : Int) % 2 == 0) = false := by rw [beq_eq_false_iff_ne]; omega
            have hset := pairN_set (V ++ List.replicate (n - i) 0) i v hzero
            rw [if_neg hp] at hset
            have hsl2 : (V ++ List.replicate (n - i) 0).set i v = (V ++ [v]) ++ List.replicate (n - (i + 1)) 0 := by
              rw [List.set_append_right _ _ (by omega), hVl, Nat.sub_self, show n - i = (n - (i + 1)) + 1 by omega, List.replicate_succ, List.set_cons_zero]; simp
            have hlt16 : ∀ x ∈ (V ++ [v]) ++ List.replicate (n - (i + 1)) 0, x < 16 := by
              intro x hx
              simp only [List.mem_append, List.mem_singleton, List.mem_replicate] at hx
              rcases hx with (hx | hx) | hx
              · exact hVlt x hx
              · omega
              · omega
            rw [hsl2] at hset
            have hpl : i / 2 < (pairN (V ++ List.replicate (n - i) 0)).length := by
              rw [pairN_length]; simp only [List.length_append, List.length_replicate, hVl]; omega
            have hcell := hb.out.cell (i / 2) (show (cN _)[i / 2]? = some (.int .u8 (((pairN (V ++ List.replicate (n - i) 0)).getD (i / 2) 0 : Nat) : Int)) by
              rw [cN, List.getElem?_map, List.getElem?_eq_getElem hpl]
              simp [List.getD_eq_getElem?_getD, hpl])
            have hsum : (pairN (V ++ List.replicate (n - i) 0)).getD (i / 2) 0 + v < 256 := by
              refine pairN_lt _ hlt16 _ ?_
              rw [hset]
              exact List.mem_iff_getElem.2 ⟨i / 2, by rw [List.length_set]; exact hpl, by rw [List.getElem_set_self]⟩
            have hfr := hb.out.free (i / 2)
            have hi2l : (i : Int) / 2 < ((n + 1) / 2 : Nat) := by omega
            generalize (pairN (V ++ List.replicate (n - i) 0)).getD (i / 2) 0 = p at *
            have hpi : (p : Int) + (v : Int) ≤ 255 := by omega
            have HSET := Lib.hid hset
            have HVN : Hid (hexVs (s.data.toList.take (i + 1)) = some (V ++ [v])) := by
              show _ = _
              rw [List.take_succ_eq_append_getElem (by omega), hexVs_snoc, hv.out]
              have e : s.data.toList[i]'hiL = b := HB'.out
              rw [e, HX.out]
            have HVAL : Hid ((p : Int) + (v : Int) = ((p + v : Nat) : Int)) := by show _ = _; omega
            clear hset hsl2 hlt16 hpl hp hzero hsum
            go_wp2
            go_roundw
            case rel =>
              refine ⟨i + 1, V ++ [v], by omega, by go_num, HVN, ?_, bSet hbl.out _ _ (Nat.le_refl _) _⟩
              have h1 := hb.out.set (i / 2) (.int .u8 ((p : Int) + (v : Int)))
              rw [HVAL.out] at h1 ⊢
              show Blk _ _ _ _
              rw [HSET.out, cN, List.map_set]
              exact h1
            case measure => simp [intOf]; omega

      · obtain rfl : s.size = i := by omega
        have HN : Hid (hexN n s.data.toList = some (pairL (V ++ List.replicate (n - s.size) 0))) := by
          show _ = _
          unfold hexN
          have e : s.data.toList.take n = s.data.toList.take s.size := by first | exact HTAKE.out | rfl
          rw [e, hv.out, hsl]; rfl
        have hrep : n - s.size = n - s.size := by omega
        have h16 : ∀ x ∈ V ++ List.replicate (n - s.size) 0, x < 16 := by
          intro x hx
          simp only [List.mem_append, List.mem_replicate] at hx
          rcases hx with hx | hx
          · exact hVlt x hx
          · omega
        have hbb := hb.out
        rw [cN_c8 _ h16, hrep] at hbb
        have HBB := Lib.hid hbb
        have HLN : Hid ((pairL (V ++ List.replicate (n - s.size) 0)).length = (n + 1) / 2) := by
          show _ = _
          rw [pairL_N, List.length_map, pairN_length]; simp only [List.length_append, List.length_replicate, hVl]; omega
        clear hbb h16 hrep hVl hVlt hlt
        go_wp2
        go_ret2
        refine ⟨HB0.out.trans (hbl.out.mono hg0), ?_⟩
        rw [HN.out]
        exact ⟨W.heap.size, (n + 1) / 2, by rw [HLN.out]; rfl, HBB.out.rd, hg0⟩
end Go.Proofs.YtmbnckmhngijdaaGreatDoor
