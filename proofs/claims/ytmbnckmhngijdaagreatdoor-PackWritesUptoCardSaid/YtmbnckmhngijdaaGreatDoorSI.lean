/- Contracts of the reference's packed. -/
import Derived.Test.YtmbnckmhngijdaaGreatDoorSH
import Derived.Test.YtmbnckmhngijdaaGreatDoorRH
namespace Go.Proofs.YtmbnckmhngijdaaGreatDoor
open Go Go.RowKit

def textP (d : Dir) (s : List UInt8) : Option (List UInt8) := if d.c = 72 then hexB d.all d.n s else some (fillL d s)
theorem t64 (d : Dir) (s : ByteArray) (w : World) (hok : d.Ok) (h64 : d.c ≠ 64) (hs : s.size ≤ 1200000) :
    Calls Tryz.prog 64 #[.agg #[.int .u8 d.c.toNat, .bool d.gt, .int .i64 d.k], .string s] w (TexR (textP d s.data.toList) w) := by
  have hf := hok.fine
  have hsl : s.data.toList.length = s.size := rfl
  by_cases hk : d.k = -1
  · have hal : d.all = true := by unfold Dir.all; rw [hk]; rfl
    by_cases h72 : d.c = 72
    · rw [show textP d s.data.toList = hexN s.size s.data.toList by unfold textP; rw [if_pos h72, hexB_N, hal]; rfl]
      exact t64_Hall d.c d.gt d.k s w h72 hk hs
    · rw [show textP d s.data.toList = some (if d.c = 90 then s.data.toList ++ [0] else s.data.toList) by unfold textP fillL; rw [if_neg h72, hal]; rfl]
      exact t64_all d.c d.gt d.k s w h72 hk hs
  · have hal : d.all = false := by unfold Dir.all; exact decide_eq_false hk
    have hp := hf.pos hal h64
    have hkn : (d.k = -2 ∧ d.n = 1) ∨ d.k = (d.n : Int) := by
      rcases hok.count with h | h | h
      · exact absurd h hk
      · exact .inl ⟨h, by unfold Dir.n; rw [if_neg hk, if_pos h, if_neg h64]⟩
      · refine .inr ?_
        unfold Dir.n; rw [if_neg hk, if_neg (by omega)]; omega
    by_cases h72 : d.c = 72
    · rw [show textP d s.data.toList = hexN d.n s.data.toList by unfold textP; rw [if_pos h72, hexB_N, hal]; rfl]
      exact t64_Hcnt d.c d.gt d.k s w h72 d.n hkn hf.n hs
    · rw [show textP d s.data.toList = some (if d.n < s.data.toList.length then (if d.c = 90 then s.data.toList.take (d.n - 1) ++ [0] else s.data.toList.take d.n) else s.data.toList ++ List.replicate (d.n - s.data.toList.length) (if d.c = 65 then 32 else 0)) by unfold textP fillL; rw [if_neg h72, hal]; rfl]
      exact t64_cnt d.c d.gt d.k d.n s w h72 hkn hp hf.n hs
def PckR (r : Except Nat St) (w : World) (e : Ending) (w' : World) : Prop :=
  Below w.heap.size w w' ∧
  match r with
  | .error x => e = .returned (.tuple #[.slice none 0 0, .int .i64 0, .int .i64 x]) ∧ x ≠ 0
  | .ok st => ∃ v, e = .returned (.tuple #[v, .int .i64 st.2, .int .i64 0]) ∧ w'.ownsRow w.heap.size 5 1 v st.1.length (c8 st.1)
theorem PckR.bad {r : Except Nat St} {w w' : World} {x : Nat} (h : Hid (r = .error x)) (hx : x ≠ 0) (hb : Below w.heap.size w w') : PckR r w (.returned (.tuple #[.slice none 0 0, .int .i64 0, .int .i64 x])) w' := by
  unfold PckR; rw [h.out]; exact ⟨hb, rfl, hx⟩
theorem PckR.good {r : Except Nat St} {w w' : World} {v : Value} {o : List UInt8} {u : Nat} (h : Hid (r = .ok (o, u))) (hb : Below w.heap.size w w') (hr : w'.ownsRow w.heap.size 5 1 v o.length (c8 o)) : PckR r w (.returned (.tuple #[v, .int .i64 u, .int .i64 0])) w' := by
  unfold PckR; rw [h.out]; exact ⟨hb, v, rfl, hr⟩
def LoopP (xs : List Itm) (ds : List Dir) (W : World) (i v u : Value) (wr : World) : Prop :=
  ∃ (j n : Nat) (o : List UInt8), j ≤ ds.length ∧ i = .int .i64 j ∧ u = .int .i64 n ∧ n ≤ xs.length ∧ o.length ≤ 100000 ∧ Hid (wr.ownsRow W.heap.size 5 1 v o.length (c8 o)) ∧
    Hid (runL xs (ds.drop j) (o, n) = runL xs ds ([], 0)) ∧ Hid (Below W.heap.size W wr)
def InP (xs : List Itm) (d : Dir) (N gb : Nat) (kv : Value) (R : Except Nat St) (W : World) (m v u : Value) (wr : World) : Prop :=
  ∃ (f n : Nat) (o : List UInt8), f ≤ N ∧ m = .int .i64 f ∧ u = .int .i64 n ∧ n ≤ xs.length ∧ o.length ≤ 100000 ∧ Hid (wr.ownsRow W.heap.size 5 1 v o.length (c8 o)) ∧
    Hid (takesL xs d f (o, n) = R) ∧ Hid (Blk wr gb 60 [.int .u8 d.c.toNat, .bool d.gt, kv]) ∧ Hid (Below W.heap.size W wr)
theorem numB_len2 (d : Dir) (n : Int) : (numB d n).length ≤ 1000 := by have := numB_len d n; omega
theorem takeL_end {xs : List Itm} {d : Dir} {o : List UInt8} {u : Nat} (h : xs[u]? = none) : takeL xs d (o, u) = .error 14 := by
  unfold takeL; rw [show xs[(o, u).2]? = none from h]
theorem takeL_kind {xs : List Itm} {d : Dir} {o : List UInt8} {u : Nat} {x : Itm} (h : xs[u]? = some x) (ht : x.t = numC d.c) : takeL xs d (o, u) = .error 1 := by
  unfold takeL; rw [show xs[(o, u).2]? = some x from h]; dsimp only; rw [if_pos ht]
theorem takeL_item {xs : List Itm} {d : Dir} {o : List UInt8} {u e : Nat} {x : Itm} (h : xs[u]? = some x) (ht : x.t ≠ numC d.c) (hi : itemL d x = .error e) : takeL xs d (o, u) = .error e := by
  unfold takeL; rw [show xs[(o, u).2]? = some x from h]; dsimp only; rw [if_neg ht, hi]
theorem takeL_full {xs : List Itm} {d : Dir} {o b : List UInt8} {u : Nat} {x : Itm} (h : xs[u]? = some x) (ht : x.t ≠ numC d.c) (hi : itemL d x = .ok b) (hl : 100000 < o.length + b.length) : takeL xs d (o, u) = .error 5 := by
  unfold takeL addL; rw [show xs[(o, u).2]? = some x from h]; dsimp only; rw [if_neg ht, hi]; dsimp only; rw [if_pos hl]
theorem takeL_good {xs : List Itm} {d : Dir} {o b : List UInt8} {u : Nat} {x : Itm} (h : xs[u]? = some x) (ht : x.t ≠ numC d.c) (hi : itemL d x = .ok b) (hl : ¬ 100000 < o.length + b.length) : takeL xs d (o, u) = .ok (o ++ b, u + 1) := by
  unfold takeL addL; rw [show xs[(o, u).2]? = some x from h]; dsimp only; rw [if_neg ht, hi]; dsimp only; rw [if_neg hl]
theorem item_num {d : Dir} {x : Itm} (hc : numC d.c = true) : itemL d x = if fitsC d.c x.i then .ok (numB d x.i) else .error 5 := by
  unfold itemL
  rw [if_neg (fun h => by rw [h] at hc; exact absurd hc (by decide)), hc]; rfl
theorem item_txt {d : Dir} {x : Itm} (hc : numC d.c = false) : itemL d x = match textP d x.s with | none => .error 1 | some b => .ok b := by
  unfold itemL textP
  by_cases h : d.c = 72
  · rw [if_pos h, if_pos h]; rfl
  · rw [if_neg h, if_neg h, hc]; rfl
theorem textP_len {d : Dir} {s b : List UInt8} (hd : d.Fine) (hs : s.length ≤ 1100000) (h : textP d s = some b) : b.length ≤ 1200000 := by
  cases hc : numC d.c with
  | false =>
    have hi : itemL d ⟨true, 0, s⟩ = .ok b := by rw [item_txt hc]; show (match textP d s with | none => _ | some b => _) = _; rw [h]
    exact itemL_len hd hs hi
  | true =>
    have h72 : d.c ≠ 72 := fun h => by rw [h] at hc; exact absurd hc (by decide)
    unfold textP at h
    rw [if_neg h72] at h
    cases h
    have := fillL_len d s
    have := hd.n
    omega
theorem own_cap {w : World} {B n cap : Nat} {a : Option Addr} {xs : List Value} (h : w.ownsRow B 5 1 (.slice a n cap) n xs) : n ≤ cap := by
  rcases h.2 with ⟨h1, rfl⟩ | ⟨g, c, cur, h1, _, _, h2, _⟩
  · exact Nat.zero_le _
  · simp only [Value.slice.injEq] at h1
    obtain ⟨_, _, rfl⟩ := h1
    exact h2
theorem own_none {w : World} {B n cap : Nat} {a : Option Addr} {xs : List Value} (h : w.ownsRow B 5 1 (.slice a n cap) n xs) : a = none → n = 0 := by
  rintro rfl
  rcases h.2 with ⟨_, rfl⟩ | ⟨g, c, cur, h1, _⟩
  · rfl
  · simp at h1
set_option maxRecDepth 100000 in
set_option maxHeartbeats 8000000 in
theorem t44 (f : ByteArray) (iv : Value) (xs : List Itm) (w : World) (hf : f.size ≤ 100000) (hI : Its w.heap.size w iv xs) (hx : ItsOk xs) : Calls Tryz.prog 44 #[.string f, iv] w (PckR (packL f.data.toList xs) w) := by
  obtain ⟨pI, capI, rfl, hxl, hI3⟩ := hI
  have HI3 := Lib.hid hI3
  have HX := Lib.hid hx
  have hxli : (xs.length : Int) ≤ 9223372036854775807 := by omega
  clear hI3 hx
  have C := t32 f w hf
  unfold RfdR at C
  cases hff : formL f.data.toList with
  | none =>
    have HS : Hid (packL f.data.toList xs = .error 4) := by show _ = _; unfold packL; rw [hff]
    rw [hff] at C
    clear hff
    go_enter Tryz.func44, Tryz.ntmps44
    go_wp2_with fail
    refine C.mono ?_
    rintro e w1 ⟨hb, v, rfl⟩
    have HB := Lib.hid hb
    clear hb
    go_wp2
    go_ret3
    exact PckR.bad HS (by decide) HB.out
  | some ds =>
    have HS : Hid (packL f.data.toList xs = runL xs ds ([], 0)) := by show _ = _; unfold packL; rw [hff]
    obtain ⟨hdl, hdok⟩ := formL_ok hff
    have HDOK := Lib.hid hdok
    rw [hff] at C
    clear hff hdok
    have hdli : (ds.length : Int) ≤ 50 := by omega
    go_enter Tryz.func44, Tryz.ntmps44
    go_wp2_with fail
    refine C.mono ?_
    rintro e w1 ⟨hb, v, rfl, hds⟩
    have HB := Lib.hid hb
    have HDS := Lib.hid hds
    obtain ⟨al, cl, rfl⟩ := row_slice hds
    clear hb hds C
    go_wp2_with fail
    go_loopw [11, 9, 10] (fun i v u wr => LoopP xs ds w1 i v u wr) (fun i _ _ _ => ds.length - (intOf i).toNat)
    case atStart => exact ⟨0, 0, [], Nat.zero_le _, rfl, rfl, Nat.zero_le _, by simp, World.ownsRow_nil _ _ _ _, rfl, Below.refl _ _⟩
    case round =>
      obtain ⟨j, u, ob, hj, rfl, rfl, hu, hol, hown, hrun, hbl⟩ := hrel
      obtain ⟨ao, co, rfl⟩ := row_slice hown.out
      by_cases hlt : j < ds.length
      · have hlti : (j : Int) < ds.length := by omega
        obtain ⟨d, hd⟩ : ∃ d, ds[j]? = some d := ⟨ds[j], List.getElem?_eq_getElem hlt⟩
        have hdsr : Dr wr w.heap.size (.slice al ds.length cl) ds := ownsRow_below HDS.out hbl.out
        obtain ⟨gl, cl', hsl', hgl, e0, e1, e2⟩ := hdsr.cell hd
        simp only [Value.slice.injEq] at hsl'
        obtain ⟨rfl, _, rfl⟩ := hsl'
        have hok := HDOK.out d (List.mem_of_getElem? hd)
        have HOK := Lib.hid hok
        have hdn := hok.fine.n
        have hdrop : ds.drop j = d :: ds.drop (j + 1) := by
          rw [List.drop_eq_getElem_cons hlt]; congr 1
          have := List.getElem?_eq_getElem hlt
          rw [hd] at this; exact (Option.some.inj this).symm
        have hr2 := hrun.out
        rw [hdrop] at hr2
        have HR2 : Hid ((match stepL xs d (ob, u) with | .error e => .error e | .ok st' => runL xs (ds.drop (j + 1)) st') = runL xs ds ([], 0)) := hr2
        have hb3 := bSelf wr (.cells #[.int .u8 d.c.toNat, .bool d.gt, .int .i64 d.k] 60)
        have hk3 := Blk.new wr #[.int .u8 d.c.toNat, .bool d.gt, .int .i64 d.k] 60
        go_upto_region 19 with fail
        generalize wr.alloc (.cells #[.int .u8 d.c.toNat, .bool d.gt, .int .i64 d.k] 60) = W3 at *
        obtain ⟨gb, hgb⟩ : ∃ gb, wr.heap.size = gb := ⟨_, rfl⟩
        have HO3 : Hid (W3.ownsRow w1.heap.size 5 1 (.slice ao ob.length co) ob.length (c8 ob)) := ownsRow_below hown.out hb3
        have HB3 := Lib.hid (bThen hbl.out hb3)
        have HBW3 := Lib.hid (bThen HB.out HB3.out)
        rw [hgb] at hk3 ⊢
        have HK3 := Lib.hid hk3
        have d0 := hk3.cell 0 rfl
        have d1 := hk3.cell 1 rfl
        have d2 := hk3.cell 2 rfl
        have C33 := fun W => t33 d.c W
        clear hr2 hb3 hk3 e0 e1 e2 hgl hdsr hdrop hd hown hbl hrun hgb
        have hcnt : d.k = -1 ∨ d.k = -2 ∨ ∃ N : Nat, d.k = (N : Int) ∧ N ≤ 1000 := by
          rcases hok.count with h | h | h
          · exact .inl h
          · exact .inr (.inl h)
          · exact .inr (.inr ⟨d.k.toNat, by omega, by omega⟩)
        have HNM := Lib.hid hok.all
        have HPOS := Lib.hid hok.fine.pos
        have HSU := Lib.hid (fun st h => stepL_used (xs := xs) (d := d) (o := ob) hu st h)
        clear hok
        by_cases h120 : d.c = 120
        · have t1 := u8_eq (n := 120) (k := 120) rfl h120
          have hk1 : d.k ≠ -1 := fun h => (HNM.out h).1 h120
          have HST : Hid (stepL xs d (ob, u) = if 100000 < ob.length + d.n then .error 5 else .ok (ob ++ List.replicate d.n 0, u)) := by
            show _ = _; rw [step_x h120]; unfold addL stOf; rw [List.length_replicate]; by_cases hq : 100000 < ob.length + d.n <;> simp only [hq, if_true, if_false]
          rcases hcnt with h | hk | ⟨N, hk, hN⟩
          · exact absurd h hk1
          · have hdn1 : d.n = 1 := by unfold Dir.n; rw [if_neg hk1, if_pos hk, if_neg (by rw [h120]; decide)]
            rw [hdn1] at HST
            rw [hk] at d2
            have hnz : 1 ≤ 1000000 := by omega
            have hno : ob.length ≤ 1000000 := by omega
            have HBS : Hid (w1.heap.size ≤ W3.heap.size) := HB3.out.size
            clear h120 hk1 hk hdn1
            by_cases hl : 100000 < ob.length + 1
            · have HE : Hid (packL f.data.toList xs = .error 5) := by show _ = _; rw [HS.out, ← HR2.out, HST.out, if_pos hl]
              have hld : decide ((100000 : Int) < (ob.length : Int) + 1) = true := decide_eq_true (by omega)
              clear hl hol
              go_wp2_with (at_builtin; refine appZ rfl _ _ rfl w1.heap.size (.slice ao ob.length co) ob.length ob rfl HO3.out 1 rfl hnz hno HBS.out ?_; intro v6 w6 hown6 hgrow6; obtain ⟨a6, c6, rfl⟩ := row_slice hown6.out)
              have HB6 : Hid (Below w1.heap.size w1 w6) := HB3.out.grown hgrow6.out HBS.out (fun k hk => (HO3.out.lt k hk).1)
              go_ret3
              exact PckR.bad HE (by decide) (bThen HB.out HB6.out)
            · have hld : decide ((100000 : Int) < (ob.length : Int) + 1) = false := decide_eq_false (by omega)
              have HRN : Hid (runL xs (ds.drop (j + 1)) (ob ++ List.replicate 1 0, u) = runL xs ds ([], 0)) := by show _ = _; rw [← HR2.out, HST.out, if_neg hl]
              have HOL : Hid ((ob ++ List.replicate 1 (0 : UInt8)).length ≤ 100000) := by show _ ≤ _; rw [List.length_append, List.length_replicate]; omega
              clear hl hol
              go_wp2_with (at_builtin; refine appZ rfl _ _ rfl w1.heap.size (.slice ao ob.length co) ob.length ob rfl HO3.out 1 rfl hnz hno HBS.out ?_; intro v6 w6 hown6 hgrow6; obtain ⟨a6, c6, rfl⟩ := row_slice hown6.out)
              have HB6 : Hid (Below w1.heap.size w1 w6) := HB3.out.grown hgrow6.out HBS.out (fun k hk => (HO3.out.lt k hk).1)
              have HOW : Hid (w6.ownsRow w1.heap.size 5 1 (.slice a6 (ob.length + 1) c6) (ob ++ List.replicate 1 (0 : UInt8)).length (c8 (ob ++ List.replicate 1 0))) := by show World.ownsRow _ _ _ _ _ _ _; rw [List.length_append, List.length_replicate]; exact hown6.out
              clear hown6 hgrow6
              go_roundw
              case rel => exact ⟨j + 1, u, ob ++ List.replicate 1 0, by omega, by go_num, rfl, hu, HOL.out, HOW, HRN, HB6⟩
              case measure => simp [intOf]; omega
          · have hdn1 : d.n = N := by unfold Dir.n; rw [if_neg hk1, if_neg (by omega)]; omega
            have hN1 : 1 ≤ N := by rw [← hdn1]; exact HPOS.out (decide_eq_false hk1) (by rw [h120]; decide)
            have hNi : (N : Int) ≤ 1000 := by omega
            have hmx : max (1 : Int) (N : Int) = N := by omega
            rw [hdn1] at HST
            rw [hk] at d2
            have hnz : N ≤ 1000000 := by omega
            have hno : ob.length ≤ 1000000 := by omega
            have HBS : Hid (w1.heap.size ≤ W3.heap.size) := HB3.out.size
            clear h120 hk1 hk hdn1
            by_cases hl : 100000 < ob.length + N
            · have HE : Hid (packL f.data.toList xs = .error 5) := by show _ = _; rw [HS.out, ← HR2.out, HST.out, if_pos hl]
              have hld : decide ((100000 : Int) < (ob.length : Int) + N) = true := decide_eq_true (by omega)
              clear hl hol
              go_wp2_with (at_builtin; refine appZ rfl _ _ rfl w1.heap.size (.slice ao ob.length co) ob.length ob rfl HO3.out N rfl hnz hno HBS.out ?_; intro v6 w6 hown6 hgrow6; obtain ⟨a6, c6, rfl⟩ := row_slice hown6.out)
              have HB6 : Hid (Below w1.heap.size w1 w6) := HB3.out.grown hgrow6.out HBS.out (fun k hk => (HO3.out.lt k hk).1)
              go_ret3
              exact PckR.bad HE (by decide) (bThen HB.out HB6.out)
            · have hld : decide ((100000 : Int) < (ob.length : Int) + N) = false := decide_eq_false (by omega)
              have HRN : Hid (runL xs (ds.drop (j + 1)) (ob ++ List.replicate N 0, u) = runL xs ds ([], 0)) := by show _ = _; rw [← HR2.out, HST.out, if_neg hl]
              have HOL : Hid ((ob ++ List.replicate N (0 : UInt8)).length ≤ 100000) := by show _ ≤ _; rw [List.length_append, List.length_replicate]; omega
              clear hl hol
              go_wp2_with (at_builtin; refine appZ rfl _ _ rfl w1.heap.size (.slice ao ob.length co) ob.length ob rfl HO3.out N rfl hnz hno HBS.out ?_; intro v6 w6 hown6 hgrow6; obtain ⟨a6, c6, rfl⟩ := row_slice hown6.out)
              have HB6 : Hid (Below w1.heap.size w1 w6) := HB3.out.grown hgrow6.out HBS.out (fun k hk => (HO3.out.lt k hk).1)
              have HOW : Hid (w6.ownsRow w1.heap.size 5 1 (.slice a6 (ob.length + N) c6) (ob ++ List.replicate N (0 : UInt8)).length (c8 (ob ++ List.replicate N 0))) := by show World.ownsRow _ _ _ _ _ _ _; rw [List.length_append, List.length_replicate]; exact hown6.out
              clear hown6 hgrow6
              go_roundw
              case rel => exact ⟨j + 1, u, ob ++ List.replicate N 0, by omega, by go_num, rfl, hu, HOL.out, HOW, HRN, HB6⟩
              case measure => simp [intOf]; omega
        have t1 := u8_ne (n := 120) (k := 120) rfl h120
        by_cases h64 : d.c = 64
        · have t2 := u8_eq (n := 64) (k := 64) rfl h64
          have hk1 : d.k ≠ -1 := fun h => (HNM.out h).2 h64
          have HST : Hid (stepL xs d (ob, u) = goL ob d.n u) := step_at h64
          rcases hcnt with h | hk | ⟨N, hk, hN⟩
          · exact absurd h hk1
          · have hdn1 : d.n = 0 := by unfold Dir.n; rw [if_neg hk1, if_pos hk, if_pos h64]
            rw [hdn1] at HST
            rw [hk] at d2
            have hm01 : max (0 : Int) (0 - (ob.length : Int)) = 0 := by omega
            have hm00 : max (0 : Int) (-2) = 0 := by decide
            have hz : 0 - ob.length = 0 := by omega
            have hmz : max (0 : Int) (-(ob.length : Int)) = 0 := by omega
            have hnz : 0 ≤ 1000000 := by omega
            have hno : ob.length ≤ 1000000 := by omega
            have hnl : 0 ≤ ob.length + 0 := by omega
            have hnli : (0 : Int) ≤ ((ob.length + 0 : Nat) : Int) := by omega
            have hnli2 : (0 : Int) ≤ (ob.length : Int) + 0 := by omega
            have HGO : Hid (goL ob 0 u = .ok ((ob ++ List.replicate 0 0).take 0, u)) := by
              show _ = _; unfold goL; rw [if_neg (by omega)]; simp
            have HTL : Hid (((ob ++ List.replicate 0 (0 : UInt8)).take 0).length = 0) := by show _ = _; rw [List.length_take, List.length_append, List.length_replicate]; omega
            have HBS : Hid (w1.heap.size ≤ W3.heap.size) := HB3.out.size
            have HRN : Hid (runL xs (ds.drop (j + 1)) ((ob ++ List.replicate 0 0).take 0, u) = runL xs ds ([], 0)) := by show _ = _; rw [← HR2.out, HST.out, HGO.out]
            clear h64 hk1 hk hdn1 hz
            go_upto_region 23 with fail
            go_wp2_with (at_builtin; refine appZ rfl _ _ rfl w1.heap.size (.slice ao ob.length co) ob.length ob rfl HO3.out 0 rfl hnz hno HBS.out ?_; intro v6 w6 hown6 hgrow6; obtain ⟨a6, c6, rfl⟩ := row_slice hown6.out; have hcp := own_cap hown6.out; have HCP := Lib.hid hcp; have hcpi : (0 : Int) ≤ (c6 : Int) := by omega)
            have HB6 : Hid (Below w1.heap.size w1 w6) := HB3.out.grown hgrow6.out HBS.out (fun k hk => (HO3.out.lt k hk).1)
            have HOW : Hid (w6.ownsRow w1.heap.size 5 1 (.slice a6 0 c6) ((ob ++ List.replicate 0 (0 : UInt8)).take 0).length (c8 ((ob ++ List.replicate 0 (0 : UInt8)).take 0))) := by
              show World.ownsRow _ _ _ _ _ _ _
              rw [HTL.out]
              exact ownsRow_take hown6.out hnl (by rw [List.length_append, List.length_replicate]) (own_none hown6.out)
            have HOL : Hid (((ob ++ List.replicate 0 (0 : UInt8)).take 0).length ≤ 100000) := by show _ ≤ _; rw [HTL.out]; omega
            clear hgrow6 hown6
            go_roundw
            case rel => exact ⟨j + 1, u, _, by omega, by go_num, rfl, hu, HOL.out, HOW, HRN, HB6⟩
            case measure => simp [intOf]; omega
          · have hdn1 : d.n = N := by unfold Dir.n; rw [if_neg hk1, if_neg (by omega)]; omega
            have hNi : (N : Int) ≤ 1000 := by omega
            have hmx : max (0 : Int) (N : Int) = N := by omega
            rw [hdn1] at HST
            rw [hk] at d2
            obtain ⟨z, hz⟩ : ∃ z, N - ob.length = z := ⟨_, rfl⟩
            have hmz : max (0 : Int) ((N : Int) - ob.length) = (z : Int) := by omega
            have hnz : z ≤ 1000000 := by omega
            have hno : ob.length ≤ 1000000 := by omega
            have hnl : N ≤ ob.length + z := by omega
            have hnli : (N : Int) ≤ ((ob.length + z : Nat) : Int) := by omega
            have hnli2 : (N : Int) ≤ (ob.length : Int) + z := by omega
            have HGO : Hid (goL ob N u = .ok ((ob ++ List.replicate z 0).take N, u)) := by
              show _ = _; unfold goL; rw [← hz]
              by_cases hq : ob.length < N
              · rw [if_pos hq, List.take_of_length_le (by rw [List.length_append, List.length_replicate]; omega)]
              · rw [if_neg hq, show N - ob.length = 0 by omega]; simp
            have HTL : Hid (((ob ++ List.replicate z (0 : UInt8)).take N).length = N) := by show _ = _; rw [List.length_take, List.length_append, List.length_replicate]; omega
            have HBS : Hid (w1.heap.size ≤ W3.heap.size) := HB3.out.size
            have HRN : Hid (runL xs (ds.drop (j + 1)) ((ob ++ List.replicate z 0).take N, u) = runL xs ds ([], 0)) := by show _ = _; rw [← HR2.out, HST.out, HGO.out]
            clear h64 hk1 hk hdn1 hz
            go_upto_region 23 with fail
            go_wp2_with (at_builtin; refine appZ rfl _ _ rfl w1.heap.size (.slice ao ob.length co) ob.length ob rfl HO3.out z rfl hnz hno HBS.out ?_; intro v6 w6 hown6 hgrow6; obtain ⟨a6, c6, rfl⟩ := row_slice hown6.out; have hcp := own_cap hown6.out; have HCP := Lib.hid hcp; have hcpi : (N : Int) ≤ (c6 : Int) := by omega)
            have HB6 : Hid (Below w1.heap.size w1 w6) := HB3.out.grown hgrow6.out HBS.out (fun k hk => (HO3.out.lt k hk).1)
            have HOW : Hid (w6.ownsRow w1.heap.size 5 1 (.slice a6 N c6) ((ob ++ List.replicate z (0 : UInt8)).take N).length (c8 ((ob ++ List.replicate z (0 : UInt8)).take N))) := by
              show World.ownsRow _ _ _ _ _ _ _
              rw [HTL.out]
              exact ownsRow_take hown6.out hnl (by rw [List.length_append, List.length_replicate]) (own_none hown6.out)
            have HOL : Hid (((ob ++ List.replicate z (0 : UInt8)).take N).length ≤ 100000) := by show _ ≤ _; rw [HTL.out]; omega
            clear hgrow6 hown6
            go_roundw
            case rel => exact ⟨j + 1, u, _, by omega, by go_num, rfl, hu, HOL.out, HOW, HRN, HB6⟩
            case measure => simp [intOf]; omega
        have t2 := u8_ne (n := 64) (k := 64) rfl h64
        have HSTK : Hid (stepL xs d (ob, u) = takesL xs d (usesD d (xs.length - u)) (ob, u)) := step_takes h120 h64
        have H64 := Lib.hid h64
        clear h120 h64
        cases hnc : numC d.c with
        | false =>
          rw [hnc] at C33
          have HNC := Lib.hid hnc
          have HST : Hid (stepL xs d (ob, u) = takeL xs d (ob, u)) := by
            show _ = _; rw [HSTK.out]; unfold usesD; rw [hnc]
            show takesL xs d 1 (ob, u) = _
            unfold takesL takesL
            cases takeL xs d (ob, u) <;> rfl
          clear HSTK hnc hcnt
          by_cases hend : u = xs.length
          · have he : ((u : Int) == (xs.length : Int)) = true := by rw [hend]; exact beq_self_eq_true _
            have HE : Hid (packL f.data.toList xs = .error 14) := by show _ = _; rw [HS.out, ← HR2.out, HST.out, takeL_end (List.getElem?_eq_none (by omega))]
            clear hend
            go_wp2_with (go_at_call 33; refine (C33 _).mono ?_; rintro e4 w4 ⟨rfl, rfl⟩)
            go_ret3
            exact PckR.bad HE (by decide) HBW3.out
          · have hul : u < xs.length := by omega
            have hui : (u : Int) < xs.length := by omega
            have he : ((u : Int) == (xs.length : Int)) = false := by rw [beq_eq_false_iff_ne]; omega
            obtain ⟨x, hxu⟩ : ∃ x, xs[u]? = some x := ⟨xs[u], List.getElem?_eq_getElem hul⟩
            obtain ⟨gi, off, rfl, hgi, c0, c1, c2⟩ := HI3.out u x hxu
            have c0 := below_cell HBW3.out c0
            have c1 := below_cell HBW3.out c1
            have c2 := below_cell HBW3.out c2
            have hxo := HX.out x (List.mem_of_getElem? hxu)
            cases hxt : x.t with
            | false =>
              rw [hxt] at c0
              have HE : Hid (packL f.data.toList xs = .error 1) := by show _ = _; rw [HS.out, ← HR2.out, HST.out, takeL_kind hxu (by rw [hxt, HNC.out])]
              clear hend hxu hxt
              go_wp2_with (go_at_call 33; refine (C33 _).mono ?_; rintro e4 w4 ⟨rfl, rfl⟩)
              go_ret3
              exact PckR.bad HE (by decide) HBW3.out
            | true =>
              rw [hxt] at c0
              have hne : x.t ≠ numC d.c := by rw [hxt, HNC.out]; decide
              have C64 := fun W => t64 d x.str W HOK.out H64.out (by have := hxo.2; show x.s.length ≤ _; omega)
              rw [show x.str.data.toList = x.s from rfl] at C64
              have HIT : Hid (itemL d x = match textP d x.s with | none => .error 1 | some b => .ok b) := item_txt HNC.out
              have S0 : Hid (W3.cell? ⟨gb, 0, none⟩ = some (.int .u8 d.c.toNat) ∧ W3.cell? ⟨gb, 1, none⟩ = some (.bool d.gt) ∧ W3.cell? ⟨gb, 2, none⟩ = some (.int .i64 d.k) ∧ W3.cell? ⟨gi, off + u * 3 + 2, none⟩ = some (.string x.str)) := ⟨d0, d1, d2, c2⟩
              have HXU := Lib.hid hxu
              have HNE := Lib.hid hne
              have HXO := Lib.hid hxo.2
              clear hend hxt hxu hne hxo
              go_upto_region 14 with (go_at_call 33; refine (C33 _).mono ?_; rintro e4 w4 ⟨rfl, rfl⟩)
              clear d0 d1 d2 c0 c1 c2
              cases htp : textP d x.s with
              | none =>
                rw [htp] at C64
                have HE : Hid (packL f.data.toList xs = .error 1) := by show _ = _; rw [HS.out, ← HR2.out, HST.out, takeL_item HXU.out HNE.out (by rw [HIT.out, htp])]
                clear htp HIT
                go_region_held3 (fun w' => w'.cell? ⟨gb, 0, none⟩ = some (.int .u8 d.c.toNat) ∧ w'.cell? ⟨gb, 1, none⟩ = some (.bool d.gt) ∧ w'.cell? ⟨gb, 2, none⟩ = some (.int .i64 d.k) ∧ w'.cell? ⟨gi, off + u * 3 + 2, none⟩ = some (.string x.str))
                  (first
                    | exact S0.out
                    | exact S1.out
                    | fail "nokeep")
                  (first
                    | (go_at_call 64; (with_reducible refine (C64 _).mono ?_); rintro e w1x ⟨hb1, rfl⟩; have HB1 := Lib.hid hb1; have S1 := Lib.hid (show w1x.cell? ⟨gb, 0, none⟩ = some (.int .u8 d.c.toNat) ∧ w1x.cell? ⟨gb, 1, none⟩ = some (.bool d.gt) ∧ w1x.cell? ⟨gb, 2, none⟩ = some (.int .i64 d.k) ∧ w1x.cell? ⟨gi, off + u * 3 + 2, none⟩ = some (.string x.str) from ⟨below_cell hb1 S0.out.1, below_cell hb1 S0.out.2.1, below_cell hb1 S0.out.2.2.1, below_cell hb1 S0.out.2.2.2⟩); clear hb1)
                    | fail "noarm")
                have HB2 : Hid (Below w.heap.size w w1x) := HBW3.out.trans ((show Below W3.heap.size W3 w1x from (Below.refl W3.heap.size W3).drew.trans HB1.out).mono HBW3.out.size)
                go_wp2
                go_ret3
                exact PckR.bad HE (by decide) HB2.out
              | some b =>
                rw [htp] at C64
                have HLB : Hid (b.length ≤ 1200000) := textP_len HOK.out.fine HXO.out htp
                have HIB : Hid (itemL d x = .ok b) := by show _ = _; rw [HIT.out, htp]
                clear htp HIT
                go_region_held3 (fun w' => w'.cell? ⟨gb, 0, none⟩ = some (.int .u8 d.c.toNat) ∧ w'.cell? ⟨gb, 1, none⟩ = some (.bool d.gt) ∧ w'.cell? ⟨gb, 2, none⟩ = some (.int .i64 d.k) ∧ w'.cell? ⟨gi, off + u * 3 + 2, none⟩ = some (.string x.str))
                  (first
                    | exact S0.out
                    | exact S1.out
                    | fail "nokeep")
                  (first
                    | (go_at_call 64; (with_reducible refine (C64 _).mono ?_); rintro e w1x ⟨hb1, v1x, rfl, hrv⟩; have HB1 := Lib.hid hb1; have HRV := Lib.hid hrv; clear hrv; have S1 := Lib.hid (show w1x.cell? ⟨gb, 0, none⟩ = some (.int .u8 d.c.toNat) ∧ w1x.cell? ⟨gb, 1, none⟩ = some (.bool d.gt) ∧ w1x.cell? ⟨gb, 2, none⟩ = some (.int .i64 d.k) ∧ w1x.cell? ⟨gi, off + u * 3 + 2, none⟩ = some (.string x.str) from ⟨below_cell hb1 S0.out.1, below_cell hb1 S0.out.2.1, below_cell hb1 S0.out.2.2.1, below_cell hb1 S0.out.2.2.2⟩); clear hb1)
                    | fail "noarm")
                have HBQ : Hid (Below W3.heap.size W3 w1x) := (Below.refl W3.heap.size W3).drew.trans (show Below W3.heap.size W3.drew w1x from HB1.out)
                have HBX : Hid (Below w1.heap.size w1 w1x) := bThen HB3.out HBQ.out
                have HO4 : Hid (w1x.ownsRow w1.heap.size 5 1 (.slice ao ob.length co) ob.length (c8 ob)) := ownsRow_below HO3.out HBQ.out
                have hbl := HLB.out
                have HBS : Hid (w1.heap.size ≤ w1x.heap.size) := HBX.out.size
                rcases id HRV.out with ⟨rfl, rfl⟩ | ⟨g5, c5, rfl, -, -, -, hrd5⟩
                · have HRN : Hid (runL xs (ds.drop (j + 1)) (ob, u + 1) = runL xs ds ([], 0)) := by
                    show _ = _; rw [← HR2.out, HST.out, takeL_good HXU.out HNE.out HIB.out (by simp; omega), List.append_nil]
                  have hld : decide ((100000 : Int) < (ob.length : Int)) = false := decide_eq_false (by omega)
                  have HOL := Lib.hid hol
                  clear hol hbl
                  have hu1 : u + 1 ≤ xs.length := by omega
                  have hu1i : (u : Int) + 1 ≤ 9223372036854775807 := by omega
                  go_wp2_with (at_builtin; refine appN rfl _ _ rfl w1.heap.size (.slice ao ob.length co) ob.length ob rfl HO4.out rfl ?_)
                  go_roundw
                  case rel => exact ⟨j + 1, u + 1, ob, by omega, by go_num, by go_num, hu1, HOL.out, HO4, HRN, HBX⟩
                  case measure => simp [intOf]; omega
                · have HRD := Lib.hid hrd5
                  have hnn : ob.length + b.length ≤ 1000000000 := by omega
                  have hu1 : u + 1 ≤ xs.length := by omega
                  have hu1i : (u : Int) + 1 ≤ 9223372036854775807 := by omega
                  clear hrd5
                  by_cases hl : 100000 < ob.length + b.length
                  · have hld : decide ((100000 : Int) < (ob.length : Int) + b.length) = true := decide_eq_true (by omega)
                    have HE : Hid (packL f.data.toList xs = .error 5) := by show _ = _; rw [HS.out, ← HR2.out, HST.out, takeL_full HXU.out HNE.out HIB.out hl]
                    clear hl hol hbl
                    go_wp2_with (at_builtin; refine app8n rfl _ _ rfl w1.heap.size (.slice ao ob.length co) ob.length ob rfl HO4.out g5 b.length c5 b rfl rfl HRD.out hnn HBS.out ?_; intro v6 w6 hown6 hgrow6; obtain ⟨a6, c6, rfl⟩ := row_slice hown6.out)
                    have HB6 : Hid (Below w1.heap.size w1 w6) := HBX.out.grown hgrow6.out HBS.out (fun k hk => (HO4.out.lt k hk).1)
                    go_ret3
                    exact PckR.bad HE (by decide) (bThen HB.out HB6.out)
                  · have hld : decide ((100000 : Int) < (ob.length : Int) + b.length) = false := decide_eq_false (by omega)
                    have HRN : Hid (runL xs (ds.drop (j + 1)) (ob ++ b, u + 1) = runL xs ds ([], 0)) := by
                      show _ = _; rw [← HR2.out, HST.out, takeL_good HXU.out HNE.out HIB.out hl]
                    have HOL : Hid ((ob ++ b).length ≤ 100000) := by show _ ≤ _; rw [List.length_append]; omega
                    clear hl hol hbl
                    go_wp2_with (at_builtin; refine app8n rfl _ _ rfl w1.heap.size (.slice ao ob.length co) ob.length ob rfl HO4.out g5 b.length c5 b rfl rfl HRD.out hnn HBS.out ?_; intro v6 w6 hown6 hgrow6; obtain ⟨a6, c6, rfl⟩ := row_slice hown6.out)
                    have HB6 : Hid (Below w1.heap.size w1 w6) := HBX.out.grown hgrow6.out HBS.out (fun k hk => (HO4.out.lt k hk).1)
                    have HOW : Hid (w6.ownsRow w1.heap.size 5 1 (.slice a6 (ob.length + b.length) c6) (ob ++ b).length (c8 (ob ++ b))) := by show World.ownsRow _ _ _ _ _ _ _; rw [List.length_append]; exact hown6.out
                    clear hown6 hgrow6
                    go_roundw
                    case rel => exact ⟨j + 1, u + 1, ob ++ b, by omega, by go_num, by go_num, hu1, HOL.out, HOW, HRN, HB6⟩
                    case measure => simp [intOf]; omega
        | true =>
          rw [hnc] at C33
          have HNC := Lib.hid hnc
          have HUS : Hid (usesD d (xs.length - u) = if d.all then xs.length - u else d.n) := by show _ = _; unfold usesD; rw [hnc]; rfl
          clear hnc
          rcases hcnt with hk | hk | ⟨N, hk, hN⟩
          · have HNF : Hid (usesD d (xs.length - u) = xs.length - u) := by show _ = _; rw [HUS.out, show d.all = true by unfold Dir.all; rw [hk]; rfl]; rfl
            have hsb : (xs.length : Int) - u = ((xs.length - u : Nat) : Int) := by omega
            have hui : (u : Int) ≤ xs.length := by omega
            obtain ⟨NN, hNN⟩ : ∃ NN, (xs.length - u) = NN := ⟨_, rfl⟩
            obtain ⟨R, hR⟩ : ∃ R, stepL xs d (ob, u) = R := ⟨_, rfl⟩
            have HST2 : Hid (takesL xs d NN (ob, u) = R) := by show _ = _; rw [← hR, HSTK.out, HNF.out, hNN]
            rw [hR] at HR2 HSU
            have HK3k : Hid (Blk W3 gb 60 [.int .u8 d.c.toNat, .bool d.gt, .int .i64 (-1)]) := by show Blk _ _ _ _; rw [← hk]; exact HK3.out
            have HKK := Lib.hid hk
            rw [hk] at d2
            rw [hNN] at hsb
            clear hR HSTK hk HNF HUS HK3 hNN
            go_upto_region 30 with (go_at_call 33; refine (C33 _).mono ?_; rintro e4 w4 ⟨rfl, rfl⟩)
            clear d0 d1 d2
            go_loopw [14, 9, 10] (fun m v u wr => InP xs d NN gb (.int .i64 (-1)) R w1 m v u wr) (fun m _ _ _ => (intOf m).toNat)
            case atStart => exact ⟨NN, u, ob, Nat.le_refl _, by first | rfl | (rw [hsb]), rfl, hu, hol, HO3, HST2, HK3k, HB3⟩
            case round =>
              obtain ⟨fu, u', o', hfN, rfl, rfl, hu', hol', hown, htk, hbk, hbl⟩ := hrel
              obtain ⟨ao', co', rfl⟩ := row_slice hown.out
              have d0 := hbk.out.cell 0 rfl
              have d1 := hbk.out.cell 1 rfl
              have d2 := hbk.out.cell 2 rfl
              have HBWR := Lib.hid (bThen HB.out hbl.out)
              cases fu with
              | zero =>
                have htk2 : Except.ok (o', u') = R := htk.out
                have HRN : Hid (runL xs (ds.drop (j + 1)) (o', u') = runL xs ds ([], 0)) := by show _ = _; rw [← HR2.out, ← htk2]
                have hld : decide ((100000 : Int) < (o'.length : Int)) = false := decide_eq_false (by omega)
                have HOL := Lib.hid hol'
                clear htk2 hol' hol
                go_wp2
                go_roundw
                case rel => exact ⟨j + 1, u', o', by omega, by go_num, rfl, hu', HOL.out, hown, HRN, hbl⟩
                case measure => simp [intOf]; omega
              | succ fg =>
                have hfg : (0 : Int) < ((fg + 1 : Nat) : Int) := by omega
                have hfm : ((fg + 1 : Nat) : Int) - 1 = fg := by omega
                have htk2 := htk.out
                have htk3 : (match takeL xs d (o', u') with | .error e => .error e | .ok st' => takesL xs d fg st') = R := htk2
                have HTK := Lib.hid htk3
                clear htk2 htk3 htk
                by_cases hend : u' = xs.length
                · have he : ((u' : Int) == (xs.length : Int)) = true := by rw [hend]; exact beq_self_eq_true _
                  have HE : Hid (packL f.data.toList xs = .error 14) := by show _ = _; rw [HS.out, ← HR2.out, ← HTK.out, takeL_end (List.getElem?_eq_none (by omega))]
                  clear hend
                  go_wp2
                  go_ret3
                  exact PckR.bad HE (by decide) HBWR.out
                · have hul : u' < xs.length := by omega
                  have hui : (u' : Int) < xs.length := by omega
                  have he : ((u' : Int) == (xs.length : Int)) = false := by rw [beq_eq_false_iff_ne]; omega
                  obtain ⟨x, hxu⟩ : ∃ x, xs[u']? = some x := ⟨xs[u'], List.getElem?_eq_getElem hul⟩
                  obtain ⟨gi, off, rfl, hgi, c0, c1, c2⟩ := HI3.out u' x hxu
                  have c0 := below_cell HBWR.out c0
                  have c1 := below_cell HBWR.out c1
                  have c2 := below_cell HBWR.out c2
                  have hxo := HX.out x (List.mem_of_getElem? hxu)
                  have hkx := Blk.new wr #[.bool x.t, .int .i64 x.i, .string x.str] 65
                  have hbx := bSelf wr (.cells #[.bool x.t, .int .i64 x.i, .string x.str] 65)
                  go_upto_region 35 with fail
                  generalize wr.alloc (.cells #[.bool x.t, .int .i64 x.i, .string x.str] 65) = W4 at *
                  have HB4 := Lib.hid (bThen hbl.out hbx)
                  have HBW4 := Lib.hid (bThen HB.out HB4.out)
                  have HO4 : Hid (W4.ownsRow w1.heap.size 5 1 (.slice ao' o'.length co') o'.length (c8 o')) := ownsRow_below hown.out hbx
                  have HK4 := Lib.hid (blkDown hbk.out hbx)
                  obtain ⟨gx, hgx⟩ : ∃ gx, wr.heap.size = gx := ⟨_, rfl⟩
                  rw [hgx] at hkx ⊢
                  have x0 := hkx.cell 0 rfl
                  have x1 := hkx.cell 1 rfl
                  have d0 := HK4.out.cell 0 rfl
                  have d1 := HK4.out.cell 1 rfl
                  have d2 := HK4.out.cell 2 rfl
                  clear hkx hbx c0 c1 c2 hgx hown hbl hbk
                  cases hxt : x.t with
                  | true =>
                    rw [hxt] at x0
                    have HE : Hid (packL f.data.toList xs = .error 1) := by show _ = _; rw [HS.out, ← HR2.out, ← HTK.out, takeL_kind hxu (by rw [hxt, HNC.out])]
                    clear hend hxu hxt
                    go_wp2
                    go_ret3
                    exact PckR.bad HE (by decide) HBW4.out
                  | false =>
                    rw [hxt] at x0
                    have hne : x.t ≠ numC d.c := by rw [hxt, HNC.out]; decide
                    have C39 := fun W => t39 d.c x.i W HNC.out hxo.1
                    have HIT : Hid (itemL d x = if fitsC d.c x.i then .ok (numB d x.i) else .error 5) := item_num HNC.out
                    have HXU := Lib.hid hxu
                    have HNE := Lib.hid hne
                    have HIN := Lib.hid hxo.1
                    clear hend hxt hxu hne hxo
                    cases hft : fitsC d.c x.i with
                    | false =>
                      rw [hft] at C39
                      have HE : Hid (packL f.data.toList xs = .error 5) := by show _ = _; rw [HS.out, ← HR2.out, ← HTK.out, takeL_item HXU.out HNE.out (by rw [HIT.out, hft]; rfl)]
                      clear hft HIT
                      go_wp2_with (go_at_call 39; refine (C39 _).mono ?_; rintro e4 w4 ⟨rfl, rfl⟩)
                      go_ret3
                      exact PckR.bad HE (by decide) HBW4.out
                    | true =>
                      rw [hft] at C39
                      have HIB : Hid (itemL d x = .ok (numB d x.i)) := by show _ = _; rw [HIT.out, hft]; rfl
                      have C63 := fun W => t63 d x.i W HNC.out HIN.out hft
                      rw [HKK.out] at C63
                      have hbl2 := numB_len2 d x.i
                      obtain ⟨b, hb⟩ : ∃ b, numB d x.i = b := ⟨_, rfl⟩
                      rw [hb] at HIB C63 hbl2
                      have hu1 : u' + 1 ≤ xs.length := by omega
                      have hu1i : (u' : Int) + 1 ≤ 9223372036854775807 := by omega
                      clear hft HIT hb
                      go_wp2_with (go_at_call 39; refine (C39 _).mono ?_; rintro e4 w4 ⟨rfl, rfl⟩)
                      refine (C63 _).mono ?_
                      rintro e5 w5 ⟨hb5, v5, rfl, hrv5⟩
                      have HB5 := Lib.hid (bThen HB4.out hb5)
                      have HO5 : Hid (w5.ownsRow w1.heap.size 5 1 (.slice ao' o'.length co') o'.length (c8 o')) := ownsRow_below HO4.out hb5
                      have HK5 := Lib.hid (blkDown HK4.out hb5)
                      have HBS : Hid (w1.heap.size ≤ w5.heap.size) := HB5.out.size
                      clear d0 d1 d2 x0 x1 hb5
                      rcases hrv5 with ⟨rfl, rfl⟩ | ⟨g5, c5, rfl, -, -, -, hrd5⟩
                      · have hld : decide ((100000 : Int) < (o'.length : Int)) = false := decide_eq_false (by omega)
                        have HTN : Hid (takesL xs d fg (o', u' + 1) = R) := by show _ = _; rw [← HTK.out, takeL_good HXU.out HNE.out HIB.out (by simp; omega), List.append_nil]
                        have HOL := Lib.hid hol'
                        clear hol' hol hbl2
                        go_wp2_with (at_builtin; refine appN rfl _ _ rfl w1.heap.size (.slice ao' o'.length co') o'.length o' rfl HO5.out rfl ?_)
                        go_roundw
                        case rel => exact ⟨fg, u' + 1, o', by omega, by go_num, by go_num, hu1, HOL.out, HO5, HTN, HK5, HB5⟩
                        case measure => simp [intOf]
                      · have HRD := Lib.hid hrd5
                        have hnn : o'.length + b.length ≤ 1000000000 := by omega
                        clear hrd5
                        by_cases hl : 100000 < o'.length + b.length
                        · have hld : decide ((100000 : Int) < (o'.length : Int) + b.length) = true := decide_eq_true (by omega)
                          have HE : Hid (packL f.data.toList xs = .error 5) := by show _ = _; rw [HS.out, ← HR2.out, ← HTK.out, takeL_full HXU.out HNE.out HIB.out hl]
                          clear hl hol' hol hbl2
                          go_wp2_with (at_builtin; refine app8n rfl _ _ rfl w1.heap.size (.slice ao' o'.length co') o'.length o' rfl HO5.out g5 b.length c5 b rfl rfl HRD.out hnn HBS.out ?_; intro v6 w6 hown6 hgrow6; obtain ⟨a6, c6, rfl⟩ := row_slice hown6.out)
                          have HB6 : Hid (Below w1.heap.size w1 w6) := HB5.out.grown hgrow6.out HBS.out (fun k hk => (HO5.out.lt k hk).1)
                          go_ret3
                          exact PckR.bad HE (by decide) (bThen HB.out HB6.out)
                        · have hld : decide ((100000 : Int) < (o'.length : Int) + b.length) = false := decide_eq_false (by omega)
                          have HTN : Hid (takesL xs d fg (o' ++ b, u' + 1) = R) := by show _ = _; rw [← HTK.out, takeL_good HXU.out HNE.out HIB.out hl]
                          have HOL : Hid ((o' ++ b).length ≤ 100000) := by show _ ≤ _; rw [List.length_append]; omega
                          clear hl hol' hol hbl2
                          go_wp2_with (at_builtin; refine app8n rfl _ _ rfl w1.heap.size (.slice ao' o'.length co') o'.length o' rfl HO5.out g5 b.length c5 b rfl rfl HRD.out hnn HBS.out ?_; intro v6 w6 hown6 hgrow6; obtain ⟨a6, c6, rfl⟩ := row_slice hown6.out)
                          have HB6 : Hid (Below w1.heap.size w1 w6) := HB5.out.grown hgrow6.out HBS.out (fun k hk => (HO5.out.lt k hk).1)
                          have HK6 : Hid (Blk w6 gb 60 [.int .u8 d.c.toNat, .bool d.gt, .int .i64 (-1)]) := (Kp.grown hgrow6.out).blk HK5.out (fun h => own_ne HO5.out HK5.out (by decide) h)
                          have HOW : Hid (w6.ownsRow w1.heap.size 5 1 (.slice a6 (o'.length + b.length) c6) (o' ++ b).length (c8 (o' ++ b))) := by show World.ownsRow _ _ _ _ _ _ _; rw [List.length_append]; exact hown6.out
                          clear hown6 hgrow6
                          go_roundw
                          case rel => exact ⟨fg, u' + 1, o' ++ b, by omega, by go_num, by go_num, hu1, HOL.out, HOW, HTN, HK6, HB6⟩
                          case measure => simp [intOf]
          · have hk1 : d.k ≠ -1 := by omega
            have HNF : Hid (usesD d (xs.length - u) = 1) := by show _ = _; rw [HUS.out, show d.all = false by unfold Dir.all; exact decide_eq_false hk1, if_neg (by decide)]; unfold Dir.n; rw [if_neg hk1, if_pos hk, if_neg H64.out]
            obtain ⟨NN, hNN⟩ : ∃ NN, 1 = NN := ⟨_, rfl⟩
            obtain ⟨R, hR⟩ : ∃ R, stepL xs d (ob, u) = R := ⟨_, rfl⟩
            have HST2 : Hid (takesL xs d NN (ob, u) = R) := by show _ = _; rw [← hR, HSTK.out, HNF.out, hNN]
            rw [hR] at HR2 HSU
            have HK3k : Hid (Blk W3 gb 60 [.int .u8 d.c.toNat, .bool d.gt, .int .i64 (-2)]) := by show Blk _ _ _ _; rw [← hk]; exact HK3.out
            have HKK := Lib.hid hk
            rw [hk] at d2
            subst hNN
            clear hR HSTK hk HNF HUS HK3 hk1
            go_upto_region 30 with (go_at_call 33; refine (C33 _).mono ?_; rintro e4 w4 ⟨rfl, rfl⟩)
            clear d0 d1 d2
            go_loopw [14, 9, 10] (fun m v u wr => InP xs d 1 gb (.int .i64 (-2)) R w1 m v u wr) (fun m _ _ _ => (intOf m).toNat)
            case atStart => exact ⟨1, u, ob, Nat.le_refl _, rfl, rfl, hu, hol, HO3, HST2, HK3k, HB3⟩
            case round =>
              obtain ⟨fu, u', o', hfN, rfl, rfl, hu', hol', hown, htk, hbk, hbl⟩ := hrel
              obtain ⟨ao', co', rfl⟩ := row_slice hown.out
              have d0 := hbk.out.cell 0 rfl
              have d1 := hbk.out.cell 1 rfl
              have d2 := hbk.out.cell 2 rfl
              have HBWR := Lib.hid (bThen HB.out hbl.out)
              cases fu with
              | zero =>
                have htk2 : Except.ok (o', u') = R := htk.out
                have HRN : Hid (runL xs (ds.drop (j + 1)) (o', u') = runL xs ds ([], 0)) := by show _ = _; rw [← HR2.out, ← htk2]
                have hld : decide ((100000 : Int) < (o'.length : Int)) = false := decide_eq_false (by omega)
                have HOL := Lib.hid hol'
                clear htk2 hol' hol
                go_wp2
                go_roundw
                case rel => exact ⟨j + 1, u', o', by omega, by go_num, rfl, hu', HOL.out, hown, HRN, hbl⟩
                case measure => simp [intOf]; omega
              | succ fg =>
                have hfg : (0 : Int) < ((fg + 1 : Nat) : Int) := by omega
                have hfm : ((fg + 1 : Nat) : Int) - 1 = fg := by omega
                have htk2 := htk.out
                have htk3 : (match takeL xs d (o', u') with | .error e => .error e | .ok st' => takesL xs d fg st') = R := htk2
                have HTK := Lib.hid htk3
                clear htk2 htk3 htk
                by_cases hend : u' = xs.length
                · have he : ((u' : Int) == (xs.length : Int)) = true := by rw [hend]; exact beq_self_eq_true _
                  have HE : Hid (packL f.data.toList xs = .error 14) := by show _ = _; rw [HS.out, ← HR2.out, ← HTK.out, takeL_end (List.getElem?_eq_none (by omega))]
                  clear hend
                  go_wp2
                  go_ret3
                  exact PckR.bad HE (by decide) HBWR.out
                · have hul : u' < xs.length := by omega
                  have hui : (u' : Int) < xs.length := by omega
                  have he : ((u' : Int) == (xs.length : Int)) = false := by rw [beq_eq_false_iff_ne]; omega
                  obtain ⟨x, hxu⟩ : ∃ x, xs[u']? = some x := ⟨xs[u'], List.getElem?_eq_getElem hul⟩
                  obtain ⟨gi, off, rfl, hgi, c0, c1, c2⟩ := HI3.out u' x hxu
                  have c0 := below_cell HBWR.out c0
                  have c1 := below_cell HBWR.out c1
                  have c2 := below_cell HBWR.out c2
                  have hxo := HX.out x (List.mem_of_getElem? hxu)
                  have hkx := Blk.new wr #[.bool x.t, .int .i64 x.i, .string x.str] 65
                  have hbx := bSelf wr (.cells #[.bool x.t, .int .i64 x.i, .string x.str] 65)
                  go_upto_region 35 with fail
                  generalize wr.alloc (.cells #[.bool x.t, .int .i64 x.i, .string x.str] 65) = W4 at *
                  have HB4 := Lib.hid (bThen hbl.out hbx)
                  have HBW4 := Lib.hid (bThen HB.out HB4.out)
                  have HO4 : Hid (W4.ownsRow w1.heap.size 5 1 (.slice ao' o'.length co') o'.length (c8 o')) := ownsRow_below hown.out hbx
                  have HK4 := Lib.hid (blkDown hbk.out hbx)
                  obtain ⟨gx, hgx⟩ : ∃ gx, wr.heap.size = gx := ⟨_, rfl⟩
                  rw [hgx] at hkx ⊢
                  have x0 := hkx.cell 0 rfl
                  have x1 := hkx.cell 1 rfl
                  have d0 := HK4.out.cell 0 rfl
                  have d1 := HK4.out.cell 1 rfl
                  have d2 := HK4.out.cell 2 rfl
                  clear hkx hbx c0 c1 c2 hgx hown hbl hbk
                  cases hxt : x.t with
                  | true =>
                    rw [hxt] at x0
                    have HE : Hid (packL f.data.toList xs = .error 1) := by show _ = _; rw [HS.out, ← HR2.out, ← HTK.out, takeL_kind hxu (by rw [hxt, HNC.out])]
                    clear hend hxu hxt
                    go_wp2
                    go_ret3
                    exact PckR.bad HE (by decide) HBW4.out
                  | false =>
                    rw [hxt] at x0
                    have hne : x.t ≠ numC d.c := by rw [hxt, HNC.out]; decide
                    have C39 := fun W => t39 d.c x.i W HNC.out hxo.1
                    have HIT : Hid (itemL d x = if fitsC d.c x.i then .ok (numB d x.i) else .error 5) := item_num HNC.out
                    have HXU := Lib.hid hxu
                    have HNE := Lib.hid hne
                    have HIN := Lib.hid hxo.1
                    clear hend hxt hxu hne hxo
                    cases hft : fitsC d.c x.i with
                    | false =>
                      rw [hft] at C39
                      have HE : Hid (packL f.data.toList xs = .error 5) := by show _ = _; rw [HS.out, ← HR2.out, ← HTK.out, takeL_item HXU.out HNE.out (by rw [HIT.out, hft]; rfl)]
                      clear hft HIT
                      go_wp2_with (go_at_call 39; refine (C39 _).mono ?_; rintro e4 w4 ⟨rfl, rfl⟩)
                      go_ret3
                      exact PckR.bad HE (by decide) HBW4.out
                    | true =>
                      rw [hft] at C39
                      have HIB : Hid (itemL d x = .ok (numB d x.i)) := by show _ = _; rw [HIT.out, hft]; rfl
                      have C63 := fun W => t63 d x.i W HNC.out HIN.out hft
                      rw [HKK.out] at C63
                      have hbl2 := numB_len2 d x.i
                      obtain ⟨b, hb⟩ : ∃ b, numB d x.i = b := ⟨_, rfl⟩
                      rw [hb] at HIB C63 hbl2
                      have hu1 : u' + 1 ≤ xs.length := by omega
                      have hu1i : (u' : Int) + 1 ≤ 9223372036854775807 := by omega
                      clear hft HIT hb
                      go_wp2_with (go_at_call 39; refine (C39 _).mono ?_; rintro e4 w4 ⟨rfl, rfl⟩)
                      refine (C63 _).mono ?_
                      rintro e5 w5 ⟨hb5, v5, rfl, hrv5⟩
                      have HB5 := Lib.hid (bThen HB4.out hb5)
                      have HO5 : Hid (w5.ownsRow w1.heap.size 5 1 (.slice ao' o'.length co') o'.length (c8 o')) := ownsRow_below HO4.out hb5
                      have HK5 := Lib.hid (blkDown HK4.out hb5)
                      have HBS : Hid (w1.heap.size ≤ w5.heap.size) := HB5.out.size
                      clear d0 d1 d2 x0 x1 hb5
                      rcases hrv5 with ⟨rfl, rfl⟩ | ⟨g5, c5, rfl, -, -, -, hrd5⟩
                      · have hld : decide ((100000 : Int) < (o'.length : Int)) = false := decide_eq_false (by omega)
                        have HTN : Hid (takesL xs d fg (o', u' + 1) = R) := by show _ = _; rw [← HTK.out, takeL_good HXU.out HNE.out HIB.out (by simp; omega), List.append_nil]
                        have HOL := Lib.hid hol'
                        clear hol' hol hbl2
                        go_wp2_with (at_builtin; refine appN rfl _ _ rfl w1.heap.size (.slice ao' o'.length co') o'.length o' rfl HO5.out rfl ?_)
                        go_roundw
                        case rel => exact ⟨fg, u' + 1, o', by omega, by go_num, by go_num, hu1, HOL.out, HO5, HTN, HK5, HB5⟩
                        case measure => simp [intOf]
                      · have HRD := Lib.hid hrd5
                        have hnn : o'.length + b.length ≤ 1000000000 := by omega
                        clear hrd5
                        by_cases hl : 100000 < o'.length + b.length
                        · have hld : decide ((100000 : Int) < (o'.length : Int) + b.length) = true := decide_eq_true (by omega)
                          have HE : Hid (packL f.data.toList xs = .error 5) := by show _ = _; rw [HS.out, ← HR2.out, ← HTK.out, takeL_full HXU.out HNE.out HIB.out hl]
                          clear hl hol' hol hbl2
                          go_wp2_with (at_builtin; refine app8n rfl _ _ rfl w1.heap.size (.slice ao' o'.length co') o'.length o' rfl HO5.out g5 b.length c5 b rfl rfl HRD.out hnn HBS.out ?_; intro v6 w6 hown6 hgrow6; obtain ⟨a6, c6, rfl⟩ := row_slice hown6.out)
                          have HB6 : Hid (Below w1.heap.size w1 w6) := HB5.out.grown hgrow6.out HBS.out (fun k hk => (HO5.out.lt k hk).1)
                          go_ret3
                          exact PckR.bad HE (by decide) (bThen HB.out HB6.out)
                        · have hld : decide ((100000 : Int) < (o'.length : Int) + b.length) = false := decide_eq_false (by omega)
                          have HTN : Hid (takesL xs d fg (o' ++ b, u' + 1) = R) := by show _ = _; rw [← HTK.out, takeL_good HXU.out HNE.out HIB.out hl]
                          have HOL : Hid ((o' ++ b).length ≤ 100000) := by show _ ≤ _; rw [List.length_append]; omega
                          clear hl hol' hol hbl2
                          go_wp2_with (at_builtin; refine app8n rfl _ _ rfl w1.heap.size (.slice ao' o'.length co') o'.length o' rfl HO5.out g5 b.length c5 b rfl rfl HRD.out hnn HBS.out ?_; intro v6 w6 hown6 hgrow6; obtain ⟨a6, c6, rfl⟩ := row_slice hown6.out)
                          have HB6 : Hid (Below w1.heap.size w1 w6) := HB5.out.grown hgrow6.out HBS.out (fun k hk => (HO5.out.lt k hk).1)
                          have HK6 : Hid (Blk w6 gb 60 [.int .u8 d.c.toNat, .bool d.gt, .int .i64 (-2)]) := (Kp.grown hgrow6.out).blk HK5.out (fun h => own_ne HO5.out HK5.out (by decide) h)
                          have HOW : Hid (w6.ownsRow w1.heap.size 5 1 (.slice a6 (o'.length + b.length) c6) (o' ++ b).length (c8 (o' ++ b))) := by show World.ownsRow _ _ _ _ _ _ _; rw [List.length_append]; exact hown6.out
                          clear hown6 hgrow6
                          go_roundw
                          case rel => exact ⟨fg, u' + 1, o' ++ b, by omega, by go_num, by go_num, hu1, HOL.out, HOW, HTN, HK6, HB6⟩
                          case measure => simp [intOf]
          · have hk1 : d.k ≠ -1 := by omega
            have HNF : Hid (usesD d (xs.length - u) = N) := by show _ = _; rw [HUS.out, show d.all = false by unfold Dir.all; exact decide_eq_false hk1, if_neg (by decide)]; unfold Dir.n; rw [if_neg hk1, if_neg (by omega)]; omega
            have k1 : ((N : Int) == -1) = false := by rw [beq_eq_false_iff_ne]; omega
            have k2 : ((N : Int) == -2) = false := by rw [beq_eq_false_iff_ne]; omega
            have hNi : (N : Int) ≤ 1000 := by omega
            obtain ⟨NN, hNN⟩ : ∃ NN, N = NN := ⟨_, rfl⟩
            obtain ⟨R, hR⟩ : ∃ R, stepL xs d (ob, u) = R := ⟨_, rfl⟩
            have HST2 : Hid (takesL xs d NN (ob, u) = R) := by show _ = _; rw [← hR, HSTK.out, HNF.out, hNN]
            rw [hR] at HR2 HSU
            have HK3k : Hid (Blk W3 gb 60 [.int .u8 d.c.toNat, .bool d.gt, .int .i64 (N : Int)]) := by show Blk _ _ _ _; rw [← hk]; exact HK3.out
            have HKK := Lib.hid hk
            rw [hk] at d2
            subst hNN
            clear hR HSTK hk HNF HUS HK3 hk1
            go_upto_region 30 with (go_at_call 33; refine (C33 _).mono ?_; rintro e4 w4 ⟨rfl, rfl⟩)
            clear d0 d1 d2
            go_loopw [14, 9, 10] (fun m v u wr => InP xs d N gb (.int .i64 (N : Int)) R w1 m v u wr) (fun m _ _ _ => (intOf m).toNat)
            case atStart => exact ⟨N, u, ob, Nat.le_refl _, rfl, rfl, hu, hol, HO3, HST2, HK3k, HB3⟩
            case round =>
              obtain ⟨fu, u', o', hfN, rfl, rfl, hu', hol', hown, htk, hbk, hbl⟩ := hrel
              obtain ⟨ao', co', rfl⟩ := row_slice hown.out
              have d0 := hbk.out.cell 0 rfl
              have d1 := hbk.out.cell 1 rfl
              have d2 := hbk.out.cell 2 rfl
              have HBWR := Lib.hid (bThen HB.out hbl.out)
              cases fu with
              | zero =>
                have htk2 : Except.ok (o', u') = R := htk.out
                have HRN : Hid (runL xs (ds.drop (j + 1)) (o', u') = runL xs ds ([], 0)) := by show _ = _; rw [← HR2.out, ← htk2]
                have hld : decide ((100000 : Int) < (o'.length : Int)) = false := decide_eq_false (by omega)
                have HOL := Lib.hid hol'
                clear htk2 hol' hol
                go_wp2
                go_roundw
                case rel => exact ⟨j + 1, u', o', by omega, by go_num, rfl, hu', HOL.out, hown, HRN, hbl⟩
                case measure => simp [intOf]; omega
              | succ fg =>
                have hfg : (0 : Int) < ((fg + 1 : Nat) : Int) := by omega
                have hfm : ((fg + 1 : Nat) : Int) - 1 = fg := by omega
                have htk2 := htk.out
                have htk3 : (match takeL xs d (o', u') with | .error e => .error e | .ok st' => takesL xs d fg st') = R := htk2
                have HTK := Lib.hid htk3
                clear htk2 htk3 htk
                by_cases hend : u' = xs.length
                · have he : ((u' : Int) == (xs.length : Int)) = true := by rw [hend]; exact beq_self_eq_true _
                  have HE : Hid (packL f.data.toList xs = .error 14) := by show _ = _; rw [HS.out, ← HR2.out, ← HTK.out, takeL_end (List.getElem?_eq_none (by omega))]
                  clear hend
                  go_wp2
                  go_ret3
                  exact PckR.bad HE (by decide) HBWR.out
                · have hul : u' < xs.length := by omega
                  have hui : (u' : Int) < xs.length := by omega
                  have he : ((u' : Int) == (xs.length : Int)) = false := by rw [beq_eq_false_iff_ne]; omega
                  obtain ⟨x, hxu⟩ : ∃ x, xs[u']? = some x := ⟨xs[u'], List.getElem?_eq_getElem hul⟩
                  obtain ⟨gi, off, rfl, hgi, c0, c1, c2⟩ := HI3.out u' x hxu
                  have c0 := below_cell HBWR.out c0
                  have c1 := below_cell HBWR.out c1
                  have c2 := below_cell HBWR.out c2
                  have hxo := HX.out x (List.mem_of_getElem? hxu)
                  have hkx := Blk.new wr #[.bool x.t, .int .i64 x.i, .string x.str] 65
                  have hbx := bSelf wr (.cells #[.bool x.t, .int .i64 x.i, .string x.str] 65)
                  go_upto_region 35 with fail
                  generalize wr.alloc (.cells #[.bool x.t, .int .i64 x.i, .string x.str] 65) = W4 at *
                  have HB4 := Lib.hid (bThen hbl.out hbx)
                  have HBW4 := Lib.hid (bThen HB.out HB4.out)
                  have HO4 : Hid (W4.ownsRow w1.heap.size 5 1 (.slice ao' o'.length co') o'.length (c8 o')) := ownsRow_below hown.out hbx
                  have HK4 := Lib.hid (blkDown hbk.out hbx)
                  obtain ⟨gx, hgx⟩ : ∃ gx, wr.heap.size = gx := ⟨_, rfl⟩
                  rw [hgx] at hkx ⊢
                  have x0 := hkx.cell 0 rfl
                  have x1 := hkx.cell 1 rfl
                  have d0 := HK4.out.cell 0 rfl
                  have d1 := HK4.out.cell 1 rfl
                  have d2 := HK4.out.cell 2 rfl
                  clear hkx hbx c0 c1 c2 hgx hown hbl hbk
                  cases hxt : x.t with
                  | true =>
                    rw [hxt] at x0
                    have HE : Hid (packL f.data.toList xs = .error 1) := by show _ = _; rw [HS.out, ← HR2.out, ← HTK.out, takeL_kind hxu (by rw [hxt, HNC.out])]
                    clear hend hxu hxt
                    go_wp2
                    go_ret3
                    exact PckR.bad HE (by decide) HBW4.out
                  | false =>
                    rw [hxt] at x0
                    have hne : x.t ≠ numC d.c := by rw [hxt, HNC.out]; decide
                    have C39 := fun W => t39 d.c x.i W HNC.out hxo.1
                    have HIT : Hid (itemL d x = if fitsC d.c x.i then .ok (numB d x.i) else .error 5) := item_num HNC.out
                    have HXU := Lib.hid hxu
                    have HNE := Lib.hid hne
                    have HIN := Lib.hid hxo.1
                    clear hend hxt hxu hne hxo
                    cases hft : fitsC d.c x.i with
                    | false =>
                      rw [hft] at C39
                      have HE : Hid (packL f.data.toList xs = .error 5) := by show _ = _; rw [HS.out, ← HR2.out, ← HTK.out, takeL_item HXU.out HNE.out (by rw [HIT.out, hft]; rfl)]
                      clear hft HIT
                      go_wp2_with (go_at_call 39; refine (C39 _).mono ?_; rintro e4 w4 ⟨rfl, rfl⟩)
                      go_ret3
                      exact PckR.bad HE (by decide) HBW4.out
                    | true =>
                      rw [hft] at C39
                      have HIB : Hid (itemL d x = .ok (numB d x.i)) := by show _ = _; rw [HIT.out, hft]; rfl
                      have C63 := fun W => t63 d x.i W HNC.out HIN.out hft
                      rw [HKK.out] at C63
                      have hbl2 := numB_len2 d x.i
                      obtain ⟨b, hb⟩ : ∃ b, numB d x.i = b := ⟨_, rfl⟩
                      rw [hb] at HIB C63 hbl2
                      have hu1 : u' + 1 ≤ xs.length := by omega
                      have hu1i : (u' : Int) + 1 ≤ 9223372036854775807 := by omega
                      clear hft HIT hb
                      go_wp2_with (go_at_call 39; refine (C39 _).mono ?_; rintro e4 w4 ⟨rfl, rfl⟩)
                      refine (C63 _).mono ?_
                      rintro e5 w5 ⟨hb5, v5, rfl, hrv5⟩
                      have HB5 := Lib.hid (bThen HB4.out hb5)
                      have HO5 : Hid (w5.ownsRow w1.heap.size 5 1 (.slice ao' o'.length co') o'.length (c8 o')) := ownsRow_below HO4.out hb5
                      have HK5 := Lib.hid (blkDown HK4.out hb5)
                      have HBS : Hid (w1.heap.size ≤ w5.heap.size) := HB5.out.size
                      clear d0 d1 d2 x0 x1 hb5
                      rcases hrv5 with ⟨rfl, rfl⟩ | ⟨g5, c5, rfl, -, -, -, hrd5⟩
                      · have hld : decide ((100000 : Int) < (o'.length : Int)) = false := decide_eq_false (by omega)
                        have HTN : Hid (takesL xs d fg (o', u' + 1) = R) := by show _ = _; rw [← HTK.out, takeL_good HXU.out HNE.out HIB.out (by simp; omega), List.append_nil]
                        have HOL := Lib.hid hol'
                        clear hol' hol hbl2
                        go_wp2_with (at_builtin; refine appN rfl _ _ rfl w1.heap.size (.slice ao' o'.length co') o'.length o' rfl HO5.out rfl ?_)
                        go_roundw
                        case rel => exact ⟨fg, u' + 1, o', by omega, by go_num, by go_num, hu1, HOL.out, HO5, HTN, HK5, HB5⟩
                        case measure => simp [intOf]
                      · have HRD := Lib.hid hrd5
                        have hnn : o'.length + b.length ≤ 1000000000 := by omega
                        clear hrd5
                        by_cases hl : 100000 < o'.length + b.length
                        · have hld : decide ((100000 : Int) < (o'.length : Int) + b.length) = true := decide_eq_true (by omega)
                          have HE : Hid (packL f.data.toList xs = .error 5) := by show _ = _; rw [HS.out, ← HR2.out, ← HTK.out, takeL_full HXU.out HNE.out HIB.out hl]
                          clear hl hol' hol hbl2
                          go_wp2_with (at_builtin; refine app8n rfl _ _ rfl w1.heap.size (.slice ao' o'.length co') o'.length o' rfl HO5.out g5 b.length c5 b rfl rfl HRD.out hnn HBS.out ?_; intro v6 w6 hown6 hgrow6; obtain ⟨a6, c6, rfl⟩ := row_slice hown6.out)
                          have HB6 : Hid (Below w1.heap.size w1 w6) := HB5.out.grown hgrow6.out HBS.out (fun k hk => (HO5.out.lt k hk).1)
                          go_ret3
                          exact PckR.bad HE (by decide) (bThen HB.out HB6.out)
                        · have hld : decide ((100000 : Int) < (o'.length : Int) + b.length) = false := decide_eq_false (by omega)
                          have HTN : Hid (takesL xs d fg (o' ++ b, u' + 1) = R) := by show _ = _; rw [← HTK.out, takeL_good HXU.out HNE.out HIB.out hl]
                          have HOL : Hid ((o' ++ b).length ≤ 100000) := by show _ ≤ _; rw [List.length_append]; omega
                          clear hl hol' hol hbl2
                          go_wp2_with (at_builtin; refine app8n rfl _ _ rfl w1.heap.size (.slice ao' o'.length co') o'.length o' rfl HO5.out g5 b.length c5 b rfl rfl HRD.out hnn HBS.out ?_; intro v6 w6 hown6 hgrow6; obtain ⟨a6, c6, rfl⟩ := row_slice hown6.out)
                          have HB6 : Hid (Below w1.heap.size w1 w6) := HB5.out.grown hgrow6.out HBS.out (fun k hk => (HO5.out.lt k hk).1)
                          have HK6 : Hid (Blk w6 gb 60 [.int .u8 d.c.toNat, .bool d.gt, .int .i64 (N : Int)]) := (Kp.grown hgrow6.out).blk HK5.out (fun h => own_ne HO5.out HK5.out (by decide) h)
                          have HOW : Hid (w6.ownsRow w1.heap.size 5 1 (.slice a6 (o'.length + b.length) c6) (o' ++ b).length (c8 (o' ++ b))) := by show World.ownsRow _ _ _ _ _ _ _; rw [List.length_append]; exact hown6.out
                          clear hown6 hgrow6
                          go_roundw
                          case rel => exact ⟨fg, u' + 1, o' ++ b, by omega, by go_num, by go_num, hu1, HOL.out, HOW, HTN, HK6, HB6⟩
                          case measure => simp [intOf]
      · obtain rfl : ds.length = j := by omega
        have hr2 := hrun.out
        rw [List.drop_length] at hr2
        have HE : Hid (packL f.data.toList xs = .ok (ob, u)) := by show _ = _; rw [HS.out, ← hr2]; rfl
        have HOX : Hid (wr.ownsRow w.heap.size 5 1 (.slice ao ob.length co) ob.length (c8 ob)) := ownsRow_mono hown.out HB.out.size
        clear hr2 hlt
        go_wp2
        go_ret3
        exact PckR.good HE (bThen HB.out hbl.out) HOX.out
end Go.Proofs.YtmbnckmhngijdaaGreatDoor
