/- The document's Rekey. -/
import Derived.BigQuiet
import Derived.Deep.Cut
import Derived.Deep.CutRange
import Derived.Deep.RegionLaw
import Derived.Deep.AppendLies
import Derived.Test.YtagejkolgicecaaQK
import Derived.Test.YtagejkolgicecaaPB
namespace Go.Proofs.Ytagejkolgicecaa
open Go Go.RowKit Go.Maps
theorem rk1_len (R : Rt) (ps : List (Int × Int)) : (R.rk1 ps).length = R.rows.length := by unfold Rt.rk1; simp
theorem rk1_nil (R : Rt) : R.rk1 [] = R.rows := by
  unfold Rt.rk1
  conv => rhs; rw [← List.map_id R.rows]
  exact List.map_congr_left (fun x _ => rfl)
theorem rk1_no (R : Rt) (ps : List (Int × Int)) (j : Nat) (a b : Int) (hg : ps[j]? = some (a, b)) (hn : ∀ x ∈ R.rows, x.1 ≠ a) : R.rk1 (ps.take (j + 1)) = R.rk1 (ps.take j) := by
  unfold Rt.rk1
  rw [chN_take ps j _ hg]
  refine List.map_congr_left (fun x hx => ?_)
  show (((upd (chN (ps.take j)).2 a (some b)) x.1).getD x.1, _) = _
  unfold upd; rw [if_neg (hn x hx)]
theorem rk1_at (R : Rt) (hnd : (R.rows.map Prod.fst).Nodup) (ps : List (Int × Int)) (j : Nat) (a b : Int) (hg : ps[j]? = some (a, b)) (i : Nat) (v : Int) (t : Nat) (hi : R.rows[i]? = some (a, v, t)) :
    (R.rk1 (ps.take j))[i]? = some (((chN (ps.take j)).2 a).getD a, v, t) ∧ R.rk1 (ps.take (j + 1)) = (R.rk1 (ps.take j)).set i (b, v, t) := by
  have h0 : (R.rk1 (ps.take j))[i]? = some (((chN (ps.take j)).2 a).getD a, v, t) := by unfold Rt.rk1; rw [List.getElem?_map, hi]; rfl
  refine ⟨h0, ?_⟩
  apply List.ext_getElem?
  intro q
  have hlt : i < (R.rk1 (ps.take j)).length := (List.getElem?_eq_some_iff.1 h0).1
  by_cases e : i = q
  · subst e
    rw [List.getElem?_set_self hlt]
    unfold Rt.rk1
    rw [List.getElem?_map, hi, chN_take ps j _ hg]
    show some (((upd (chN (ps.take j)).2 a (some b)) a).getD a, v, t) = _
    unfold upd; rw [if_pos rfl]; rfl
  · rw [List.getElem?_set_ne e]
    unfold Rt.rk1
    rw [List.getElem?_map, List.getElem?_map, chN_take ps j _ hg]
    cases hq : R.rows[q]? with
    | none => rfl
    | some x =>
      have hne : x.1 ≠ a := fun e2 => by
        have h1 : (R.rows.map Prod.fst)[i]? = some a := by rw [List.getElem?_map, hi]; rfl
        have h2 : (R.rows.map Prod.fst)[q]? = some a := by rw [List.getElem?_map, hq]; simp [e2]
        obtain ⟨l1, h1'⟩ := List.getElem?_eq_some_iff.1 h1
        obtain ⟨l2, h2'⟩ := List.getElem?_eq_some_iff.1 h2
        exact e ((List.getElem_inj hnd).1 (h1'.trans h2'.symm))
      show some (((upd (chN (ps.take j)).2 a (some b)) x.1).getD x.1, _) = _
      unfold upd; rw [if_neg hne]; rfl
/-- where a key stands, as far as one looked -/
def AtI (o : List RRow) (k : Int) (q : Nat) (a : Int) : Prop := (a = -1 ∧ ∀ z ∈ o.take q, z.1 ≠ k) ∨ ∃ (i : Nat) (v : Int) (t : Nat), i < q ∧ o[i]? = some (k, v, t) ∧ a = i
theorem AtI.yes {o : List RRow} {k : Int} {q : Nat} {a v : Int} {t : Nat} (_ : AtI o k q a) (hq : o[q]? = some (k, v, t)) : AtI o k (q + 1) q := .inr ⟨q, v, t, Nat.lt_succ_self _, hq, rfl⟩
theorem AtI.no {o : List RRow} {k : Int} {q : Nat} {a : Int} {z : RRow} (h : AtI o k q a) (hq : o[q]? = some z) (hz : z.1 ≠ k) : AtI o k (q + 1) a := by
  rcases h with ⟨h1, h2⟩ | ⟨i, v, t, h1, h2, h3⟩
  · refine .inl ⟨h1, fun x hx => ?_⟩
    rw [List.take_add_one, hq] at hx
    rcases List.mem_append.1 hx with h | h
    · exact h2 x h
    · simp at h; subst h; exact hz
  · exact .inr ⟨i, v, t, by omega, h2, h3⟩
theorem outS_new {o : List RRow} {y : RRow} (h : ∀ z ∈ o, z.1 ≠ y.1) : outS o y = o ++ [y] := by
  unfold outS
  rw [if_neg]
  intro e
  obtain ⟨z, hz, e⟩ := List.any_eq_true.1 e
  exact h z hz (by simpa using e)
theorem outS_old {o : List RRow} (hnd : (o.map Prod.fst).Nodup) {y : RRow} {i : Nat} {v : Int} {t : Nat} (h : o[i]? = some (y.1, v, t)) : outS o y = o.set i (y.1, y.2.1, t) := by
  unfold outS
  rw [if_pos (List.any_eq_true.2 ⟨_, List.mem_of_getElem? h, by simp⟩)]
  apply List.ext_getElem?
  intro q
  obtain ⟨hlt, _⟩ := List.getElem?_eq_some_iff.1 h
  rw [List.getElem?_map]
  by_cases e : i = q
  · subst e; rw [List.getElem?_set_self hlt, h]; simp
  · rw [List.getElem?_set_ne e]
    cases hq : o[q]? with
    | none => rfl
    | some x =>
      have hne : x.1 ≠ y.1 := fun e2 => by
        have h1 : (o.map Prod.fst)[i]? = some y.1 := by rw [List.getElem?_map, h]; rfl
        have h2 : (o.map Prod.fst)[q]? = some y.1 := by rw [List.getElem?_map, hq]; simp [e2]
        obtain ⟨l1, h1'⟩ := List.getElem?_eq_some_iff.1 h1
        obtain ⟨l2, h2'⟩ := List.getElem?_eq_some_iff.1 h2
        exact e ((List.getElem_inj hnd).1 (h1'.trans h2'.symm))
      simp [hne]
theorem outS_nd {o : List RRow} (hnd : (o.map Prod.fst).Nodup) (y : RRow) : ((outS o y).map Prod.fst).Nodup := by
  unfold outS
  split
  · have e : (o.map (fun z => if z.1 = y.1 then (z.1, y.2.1, z.2.2) else z)).map Prod.fst = o.map Prod.fst := by
      rw [List.map_map]; refine List.map_congr_left (fun z _ => ?_); simp only [Function.comp]; split <;> rfl
    rw [e]; exact hnd
  · rename_i h
    rw [List.map_append]
    refine List.nodup_append.2 ⟨hnd, by simp, fun a ha b hb e => h ?_⟩
    simp at hb; subst hb
    obtain ⟨z, hz, e2⟩ := List.mem_map.1 ha
    exact List.any_eq_true.2 ⟨z, hz, by simp [e2, e]⟩
theorem outS_len (o : List RRow) (y : RRow) : (outS o y).length ≤ o.length + 1 := by unfold outS; split <;> simp
theorem outN_ok : ∀ (l o : List RRow), (o.map Prod.fst).Nodup → ((l.foldl outS o).map Prod.fst).Nodup ∧ (l.foldl outS o).length ≤ o.length + l.length
  | [], o, h => ⟨h, by simp⟩
  | y :: l, o, h => by
    obtain ⟨h1, h2⟩ := outN_ok l (outS o y) (outS_nd h y)
    have := outS_len o y
    exact ⟨h1, by rw [List.foldl_cons, List.length_cons]; omega⟩
theorem outN_take (l : List RRow) (j : Nat) (y : RRow) (h : l[j]? = some y) : outN (l.take (j + 1)) = outS (outN (l.take j)) y := by
  unfold outN
  rw [List.take_add_one, h, List.foldl_append]; rfl
theorem any_take {α : Type} (p : α → Bool) (l : List α) (j : Nat) (y : α) (h : l[j]? = some y) : (l.take (j + 1)).any p = ((l.take j).any p || p y) := by
  rw [List.take_add_one, h, List.any_append]; simp
theorem dis_take (ps : List (Int × Int)) (j : Nat) (y : Int × Int) (h : ps[j]? = some y) : Dis (ps.take (j + 1)) ↔ Dis (ps.take j) ∧ ∀ x ∈ ps.take j, x.1 ≠ y.1 := by
  unfold Dis
  rw [List.take_add_one, h, List.pairwise_append]; simp
theorem Dis.upto {ps : List (Int × Int)} (h : Dis ps) (j : Nat) : Dis (ps.take j) := h.sublist (List.take_sublist ..)
theorem lack_pl {R : Rt} {k : Int} (h : ∀ x ∈ R.rows, x.1 ≠ k) : R.lack k = true := List.all_eq_true.2 (fun x hx => by simpa using h x hx)
theorem lack_at {R : Rt} {k v : Int} {j t : Nat} (h : R.rows[j]? = some (k, v, t)) : R.lack k = false := by
  cases h2 : R.lack k with
  | false => rfl
  | true =>
    have := List.all_eq_true.1 h2 _ (List.mem_of_getElem? h)
    simp at this
section
variable {F : Nat → Prop} {r : Nat} {R : Rt}
def T18 (F : Nat → Prop) (r : Nat) (R : Rt) (ps : List (Int × Int)) (w : World) (e : Ending) (w' : World) : Prop := ∃ (c : Int) (R' : Rt), e = .returned (.int .i64 c) ∧ R.RekR ps c R' ∧ RTab F w' r R' ∧ Turn F w w'
theorem t18b (w : World) (h : RTab F w r R) (ao : Option Addr) (n cap : Nat) (hl : 500 < n) :
    Calls Try.prog 18 #[.pointer (some ⟨r, 0, none⟩), .slice ao n cap] w fun e w' => e = .returned (.int .i64 1) ∧ w' = w := by
  obtain ⟨rv, wv, hW⟩ := h
  have C62 := Lib.hid (t62 r w (hW.blk.cell 0 rfl))
  have hl' : (500 : Int) < n := by omega
  clear hW
  go_enter Try.func18, Try.ntmps18
  go_wp2_with (go_at_call 62; refine C62.out.mono ?_; rintro e w' ⟨rfl, rfl⟩)
  go_ret
  exact ⟨rfl, rfl⟩
set_option maxRecDepth 100000 in
set_option maxHeartbeats 16000000 in
theorem t18 (w : World) (h : RTab F w r R) (hn : ∀ i, w.heap.size ≤ i → F i) (hl : R.rows.length ≤ 500) (hw : R.walks.length ≤ 1000) (hnd : (R.rows.map Prod.fst).Nodup) (ao : Option Addr) (cap : Nat) (ps : List (Int × Int)) (hr : RowsO w ao ps) (hpl : ps.length ≤ 500) :
    Calls Try.prog 18 #[.pointer (some ⟨r, 0, none⟩), .slice ao ps.length cap] w (T18 F r R ps w) := by
  obtain ⟨rv, wv, hW⟩ := h
  have q2 := hW.blk.cell 2 rfl
  have C62 := Lib.hid (t62 r w (hW.blk.cell 0 rfl))
  have HW := Lib.hid hW
  have HN := Lib.hid hn
  have HND := Lib.hid hnd
  have HPS := Lib.hid hr
  have HWL := Lib.hid hw
  have HL := Lib.hid hl
  have HPL := Lib.hid hpl
  have hpl' : (ps.length : Int) ≤ 500 := by omega
  have H0 : Hid (Dis (ps.take 0)) := List.Pairwise.nil
  clear hW hn hnd hr hw hl
  go_enter Try.func18, Try.ntmps18
  go_wp2_with (go_at_call 62; refine C62.out.mono ?_; rintro e w' ⟨rfl, rfl⟩)
  have HB0 : Hid (Below w'.heap.size w' w') := Below.refl _ _
  go_loopw [5, 6] (fun i u wr => ∃ j : Nat, j ≤ ps.length ∧ i = .int .i64 j ∧ Hid (Dis (ps.take j)) ∧ Hid (Below w'.heap.size w' wr)) (fun i _ _ => ps.length - (intOf i).toNat)
  case atStart => exact ⟨0, Nat.zero_le _, rfl, H0, HB0⟩
  case round =>
    obtain ⟨j, hj, rfl, HD, HB⟩ := hrel
    clear H0 C62 HB0
    by_cases hlt : j < ps.length
    · obtain ⟨a, b, hg⟩ : ∃ a b, ps[j]? = some (a, b) := ⟨_, _, List.getElem?_eq_getElem hlt⟩
      obtain ⟨rb, ro, rfl, c0', _⟩ := HPS.out j a b hg
      have hlt' : (j : Int) < ps.length := by omega
      have HG := Lib.hid hg
      have H1 : Hid (∀ x ∈ ps.take 0, x.1 ≠ a) := by show ∀ x ∈ ps.take 0, x.1 ≠ a; simp
      clear hg q2
      go_wp2_with fail
      go_loopw [6] (fun i wq => ∃ q : Nat, q ≤ j ∧ i = .int .i64 q ∧ Hid (∀ x ∈ ps.take q, x.1 ≠ a) ∧ Hid (Below w'.heap.size w' wq)) (fun i _ => j - (intOf i).toNat)
      case atStart => exact ⟨0, Nat.zero_le _, rfl, H1, HB⟩
      case round =>
        obtain ⟨q, hq, rfl, HQ, HBq⟩ := hrel
        clear H1 HB
        by_cases hqt : q < j
        · obtain ⟨a2, b2, hg2⟩ : ∃ a b, ps[q]? = some (a, b) := ⟨_, _, List.getElem?_eq_getElem (by omega)⟩
          obtain ⟨rb2, ro2, e2, d0', _⟩ := HPS.out q a2 b2 hg2
          obtain ⟨rfl, rfl⟩ : rb = rb2 ∧ ro = ro2 := by cases e2; exact ⟨rfl, rfl⟩
          have c0 := below_cell HBq.out c0'
          have d0 := below_cell HBq.out d0'
          have hqt' : (q : Int) < j := by omega
          have hqp : (q : Int) < ps.length := by omega
          have HG2 := Lib.hid hg2
          clear hg2 e2 c0' d0'
          by_cases he : a = a2
          · subst he
            go_wp2_with fail
            go_region
            all_goals go_wp2
            all_goals go_ret
            all_goals
              have hB := HBq.out.drew
              refine ⟨1, R, rfl, .inl ⟨fun hd => ?_, rfl, rfl⟩, ⟨_, _, HW.out.below hB⟩, Turn.of_below hB⟩
              have h1 := ((dis_take ps j _ HG.out).1 (hd.upto (j + 1))).2 (a, b2) (by
                have h2 : (ps.take j)[q]? = some (a, b2) := by rw [List.getElem?_take, if_pos hqt]; exact HG2.out
                exact List.mem_of_getElem? h2)
              exact h1 rfl
          · have hb : (a == a2) = false := by simpa using he
            have HQ2 : Hid (∀ x ∈ ps.take (q + 1), x.1 ≠ a) := by
              show ∀ x ∈ ps.take (q + 1), x.1 ≠ a
              rw [List.take_add_one, HG2.out]
              intro x hx
              rcases List.mem_append.1 hx with h | h
              · exact HQ.out x h
              · simp at h; subst h; exact fun e => he e.symm
            clear he HQ
            go_wp2_with fail
            go_region
            all_goals go_wp2_with fail
            all_goals go_roundw
            case rel => exact ⟨q + 1, by omega, by go_num, HQ2, HBq.out.drew⟩
            case measure => simp [intOf]; omega
        · obtain rfl : q = j := by omega
          have HD2 : Hid (Dis (ps.take (q + 1))) := (dis_take ps q _ HG.out).2 ⟨HD.out, HQ.out⟩
          clear HQ HD
          go_wp2_with fail
          go_roundw
          case rel => exact ⟨q + 1, by omega, by go_num, HD2, HBq⟩
          case measure => simp [intOf]; omega
    · have HDD : Hid (Dis ps) := by
        have h1 := HD.out
        rw [List.take_of_length_le (by omega)] at h1
        exact h1
      have hlt' : ¬ ((j : Int) < ps.length) := by omega
      have q2 := below_cell HB.out q2
      have HW1 := Lib.hid (HW.out.below HB.out)
      have HPS1 := Lib.hid (HPS.out.below HB.out)
      have HSZ := Lib.hid HB.out.size
      clear HD
      cases hfz : R.fz with
      | true =>
        have HF : Hid (R.fz = true) := hfz
        rw [hfz] at q2
        clear hfz
        go_wp2_with fail
        go_ret
        have hE : R.rekE ps = 13 := by unfold Rt.rekE; rw [HF.out]; rfl
        exact ⟨13, R, rfl, .inr ⟨HDD.out, hE.symm, by rw [hE]; rfl⟩, ⟨_, _, HW1.out⟩, Turn.of_below HB.out⟩
      | false =>
        have HF : Hid (R.fz = false) := hfz
        rw [hfz] at q2
        clear hfz hj
        have q0 := HW1.out.blk.cell 0 rfl
        have q1 := HW1.out.blk.cell 1 rfl
        have q3 := HW1.out.blk.cell 3 rfl
        have HBw := Lib.hid HB
        have hrl := HW1.out.blk.lt
        have hrn : r ≠ wr.heap.size := by omega
        go_upto_region 14 with fail
        go_cut [8] from 49 to 54 (fun v wx => ∃ ao2 cap2, v = .slice ao2 R.rows.length cap2 ∧ Hid (Seq rowL w'.heap.size wx (.slice ao2 R.rows.length cap2) R.rows) ∧ Hid (Below wr.heap.size wr wx))
        case first =>
          have hrows := HW1.out.rows
          obtain ⟨ar, cr, rfl, _, _, hc⟩ := hrows.form
          obtain ⟨i0, hi, hz0, hz1, hz2⟩ := info_parts info83
          have HE : Hid ((wr.alloc (.cells #[] 83)).ownsRow w'.heap.size 83 3 (.slice (some ⟨wr.heap.size, 0, none⟩) 0 0) 0 []) := by
            show World.ownsRow _ _ _ _ _ _ _
            exact ⟨rfl, .inr ⟨wr.heap.size, 0, #[], rfl, HSZ.out, by simpa using heap_alloc_new wr (.cells #[] 83), Nat.le_refl _, Nat.zero_le _, rfl, rfl⟩⟩
          by_cases hne : 0 < R.rows.length
          · obtain ⟨⟨k0, v0, z0⟩, hg0⟩ : ∃ x, R.rows[0]? = some x := ⟨_, List.getElem?_eq_getElem hne⟩
            obtain ⟨g, rfl, _, _, _⟩ := hc 0 _ hg0
            have HNW := Lib.hid hrows.news
            have n1l : (R.rows.flatMap rowL.enc).length = R.rows.length * 3 := fm_len rowL.enc 3 rowL.len R.rows
            have HNL := Lib.hid n1l
            have HON := Lib.hid (row_one R.rows)
            have N1 : Hid (∀ j u, (R.rows.flatMap rowL.enc)[j]? = some u → (wr.alloc (.cells #[] 83)).cell? ((⟨g, 0, none⟩ : Addr).add j) = some u) := fun j u hu => by
              have h1 := HNW.out j u hu
              exact ((bSelf wr (.cells #[] 83)).cell (World.block_lt_of_cell? wr _ h1)).trans h1
            have HNE := Lib.hid hne
            clear hc hg0 n1l hne hrows
            go_wp2_with (first | (at_builtin; refine wpList_append_lies _ rfl _ _ 55 rfl w'.heap.size 83 i0 (.agg #[.int .i64 0, .int .i64 0, .int .i64 0]) 3 24 Try.underlying55 hi hz0 hz1 hz2 rfl (by decide) (.slice (some ⟨wr.heap.size, 0, none⟩) 0 0) 0 [] rfl HE.out ⟨g, 0, none⟩ R.rows.length cr (R.rows.flatMap rowL.enc) rfl HNL.out N1.out HON.out HNE.out (by have := HL.out; unfold maxLen; omega) (by have := HL.out; omega) (by have := HSZ.out; simp; omega) _ rfl ?_; intro g2 cap2 w3 hown3 hgrow3 hat3 hlt3) | fail)
            have hB3 : Below wr.heap.size wr w3 := by
              have h1 := bSelf wr (.cells #[] 83)
              refine h1.trans ⟨hgrow3.os, hgrow3.tape, hgrow3.output, hgrow3.size, fun i hi => hgrow3.block i (by have h2 := h1.size; omega) (fun e => by have e2 : i = wr.heap.size := Option.some.inj e; omega)⟩
            have HO : Hid (Seq rowL w'.heap.size w3 (.slice (some ⟨g2, 0, none⟩) R.rows.length cap2) R.rows) := by
              rw [Nat.zero_add, List.nil_append] at hown3
              exact hown3
            clear hown3 hgrow3 hat3 hlt3
            go_wp2_with fail
            go_meet
            case rel => exact ⟨_, cap2, by simp, HO, hB3⟩
          · have hl0 : R.rows.length = 0 := by omega
            have HNE : Hid (R.rows = []) := List.length_eq_zero_iff.1 hl0
            rw [hl0] at q3
            clear hc hne hl0 hrows
            rcases ar with _ | a
            all_goals
              go_wp2_with fail
              go_meet
              case rel =>
                refine ⟨_, 0, by rw [HNE.out]; rfl, ?_, bSelf wr _⟩
                show World.ownsRow _ _ 83 3 _ _ _
                rw [HNE.out]
                exact HE.out
        case rest =>
          obtain ⟨ao2, cap2, rfl, HO, HBx⟩ := hcut
          have HB2 := Lib.hid (HBw.out.trans (HBx.out.mono HBw.out.size))
          clear q0 q1 q2 q3 HBx HPS1 HW1
          obtain ⟨rn, hrn⟩ : ∃ x, x = R.rows.length := ⟨_, rfl⟩
          have HRN := Lib.hid hrn
          have HK0 : Hid (Seq rowL w'.heap.size wc (.slice ao2 rn cap2) (R.rk1 (ps.take 0))) := by
            show Seq _ _ _ _ _
            rw [List.take_zero, rk1_nil, hrn]; exact HO.out
          rw [← hrn] at HL ⊢
          have hrn5 : (rn : Int) ≤ 500 := by have := HL.out; omega
          clear hrn HO
          go_wp2_with fail
          go_loopw [9, 7, 10] (fun i m u wx => ∃ j : Nat, j ≤ ps.length ∧ i = .int .i64 j ∧ m = .bool ((ps.take j).any (fun p => R.lack p.1)) ∧ Hid (Seq rowL w'.heap.size wx (.slice ao2 rn cap2) (R.rk1 (ps.take j))) ∧ Hid (Below w'.heap.size w' wx)) (fun i _ _ _ => ps.length - (intOf i).toNat)
          case atStart => exact ⟨0, Nat.zero_le _, rfl, rfl, HK0, HB2⟩
          case round =>
            obtain ⟨j, hj, rfl, rfl, HO, HBX⟩ := hrel
            clear HK0 HB2 HBw
            have HWX := Lib.hid (HW.out.below HBX.out)
            by_cases hlt : j < ps.length
            · obtain ⟨a, b, hg⟩ : ∃ a b, ps[j]? = some (a, b) := ⟨_, _, List.getElem?_eq_getElem hlt⟩
              obtain ⟨rb, ro, rfl, c0, c1⟩ := (HPS.out.below HBX.out) j a b hg
              have hlt' : (j : Int) < ps.length := by omega
              have HG := Lib.hid hg
              have C63 := Lib.hid (t63 wr HWX.out (by have := HL.out; have := HRN.out; omega) a)
              have HAT := Lib.hid (any_take (fun p => R.lack p.1) ps j (a, b) hg)
              obtain ⟨m, hm⟩ : ∃ m, m = (ps.take j).any (fun p => R.lack p.1) := ⟨_, rfl⟩
              rw [← hm] at HAT ⊢
              clear hg hm
              go_wp2_with fail
              refine C63.out.mono ?_
              rintro e w2 ⟨⟨h1, rfl⟩ | ⟨j', v', t', h1, h2, rfl⟩, rfl⟩
              · have HA2 : Hid ((ps.take (j + 1)).any (fun p => R.lack p.1) = true) := by
                  show _ = _
                  rw [HAT.out, lack_pl h1]; simp
                have HO2 : Hid (Seq rowL w'.heap.size w2 (.slice ao2 rn cap2) (R.rk1 (ps.take (j + 1)))) := by
                  show Seq _ _ _ _ _
                  rw [rk1_no R ps j a b HG.out h1]; exact HO.out
                clear h1 HAT C63 HO
                go_wp2_with fail
                go_roundw
                case rel => exact ⟨j + 1, by omega, by go_num, by rw [HA2.out], HO2, HBX⟩
                case measure => simp [intOf]; omega
              · obtain ⟨e1, e2⟩ := rk1_at R HND.out ps j a b HG.out j' v' t' h1
                obtain ⟨ao', cap', hv', _, _, hc⟩ := HO.out.form
                obtain ⟨g, hao, hge, hcell, hfr⟩ := hc j' _ e1
                simp only [Value.slice.injEq] at hv'
                obtain ⟨rfl, -, rfl⟩ := hv'
                subst hao
                have d0 := hcell 0 _ (by decide) rfl
                rw [Nat.add_zero] at d0
                change w2.cell? ⟨g, j' * 3, none⟩ = some _ at d0
                have f0 := hfr (j' * 3)
                have hjr : (j' : Int) < rn := by have := (List.getElem?_eq_some_iff.1 h1).1; have := HRN.out; omega
                have HA2 : Hid ((ps.take (j + 1)).any (fun p => R.lack p.1) = m) := by
                  show _ = _
                  rw [HAT.out, lack_at h1]; simp
                have HO2 : Hid (Seq rowL w'.heap.size (w2.setCell ⟨g, j' * 3, none⟩ (.int .i64 b)) (.slice (some ⟨g, 0, none⟩) rn cap2) (R.rk1 (ps.take (j + 1)))) := by
                  show Seq _ _ _ _ _
                  rw [e2]; exact HO.out.set j' 0 _ (b, v', t') (.int .i64 b) e1 (by decide) rfl
                have HB2 : Hid (Below w'.heap.size w' (w2.setCell ⟨g, j' * 3, none⟩ (.int .i64 b))) := HBX.out.setCell (p := ⟨g, j' * 3, none⟩) hge _
                have hj0 : ¬ ((j' : Int) < 0) := by omega
                clear h1 h2 e1 e2 hc hcell hfr HAT C63 HO
                go_wp2_with fail
                go_roundw
                case rel => exact ⟨j + 1, by omega, by go_num, by rw [HA2.out], HO2, HB2⟩
                case measure => simp [intOf]; omega
            · obtain rfl : j = ps.length := by omega
              rw [List.take_length] at HO ⊢
              have q1 := HWX.out.blk.cell 1 rfl
              have C64 := Lib.hid (t64 wr HWX.out HWL.out)
              obtain ⟨rk, hrk⟩ : ∃ x, x = R.rk1 ps := ⟨_, rfl⟩
              have HRK := Lib.hid hrk
              obtain ⟨m, hm⟩ : ∃ x, x = ps.any (fun p => R.lack p.1) := ⟨_, rfl⟩
              have HM := Lib.hid hm
              rw [← hrk] at HO
              rw [← hm]
              have hrl : rk.length = rn := by rw [hrk, rk1_len, ← HRN.out]
              have HRL := Lib.hid hrl
              clear hrk hm hlt hrl
              obtain ⟨sb, hsb⟩ : ∃ x, x = R.st := ⟨_, rfl⟩
              obtain ⟨kb, hkb⟩ : ∃ x, x = R.walking := ⟨_, rfl⟩
              have HSK : Hid ((R.st && R.walking) = (sb && kb)) := by show _ = _; rw [hsb, hkb]
              rw [← hsb] at q1
              rw [← hkb] at C64
              clear hsb hkb
              go_upto_region 22 with fail
              go_cut [86] from 79 to 86 (fun v wy => v = .bool (sb && kb) ∧ wy = wr)
              case first =>
                rcases sb with _ | _
                all_goals
                  rcases kb with _ | _
                  all_goals
                    go_wp2_with (go_at_call 64; refine C64.out.mono ?_; rintro e wy ⟨rfl, rfl⟩)
                    go_meet
                    case rel => exact ⟨rfl, rfl⟩
              case rest =>
                obtain ⟨rfl, rfl⟩ := hcut
                clear C64 q1
                obtain ⟨cl, hcl⟩ : ∃ x, x = (sb && kb) := ⟨_, rfl⟩
                rw [← hcl] at HSK ⊢
                clear hcl
                cases cl with
                | true =>
                  have H4 : Hid ((rk.take 0).any (fun x => R.lack x.1) = false) := rfl
                  go_wp2_with fail
                  go_loopw [11] (fun i wy => ∃ j : Nat, j ≤ rn ∧ i = .int .i64 j ∧ Hid ((rk.take j).any (fun x => R.lack x.1) = false) ∧ wy = wc) (fun i _ => rn - (intOf i).toNat)
                  case atStart => exact ⟨0, Nat.zero_le _, rfl, H4, rfl⟩
                  case round =>
                    obtain ⟨j, hj, rfl, HJ, rfl⟩ := hrel
                    clear H4
                    by_cases hlt : j < rn
                    · obtain ⟨k, v, t, hg⟩ : ∃ k v t, rk[j]? = some (k, v, t) := ⟨_, _, _, List.getElem?_eq_getElem (by rw [HRL.out]; exact hlt)⟩
                      obtain ⟨ao', cap', hv', _, _, hc⟩ := HO.out.form
                      obtain ⟨g, hao, hge, hcell, _⟩ := hc j _ hg
                      simp only [Value.slice.injEq] at hv'
                      obtain ⟨rfl, -, rfl⟩ := hv'
                      subst hao
                      have d0 := hcell 0 _ (by decide) rfl
                      rw [Nat.add_zero] at d0
                      change World.cell? _ ⟨g, j * 3, none⟩ = some _ at d0
                      have hlt' : (j : Int) < rn := by omega
                      have C63 := Lib.hid (t63 _ HWX.out (by have := HL.out; have := HRN.out; omega) k)
                      have HAT := Lib.hid (any_take (fun x => R.lack x.1) rk j (k, v, t) hg)
                      have HGM := Lib.hid (List.mem_of_getElem? hg)
                      clear hg hc hcell
                      go_wp2_with fail
                      refine C63.out.mono ?_
                      rintro e w2 ⟨⟨h1, rfl⟩ | ⟨j', v', t', h1, h2, rfl⟩, rfl⟩
                      · have HLK := Lib.hid (lack_pl h1)
                        clear h1 HAT C63
                        go_wp2_with fail
                        go_ret
                        have hany : (R.rk1 ps).any (fun x => R.lack x.1) = true := by rw [← HRK.out]; exact List.any_eq_true.2 ⟨_, HGM.out, HLK.out⟩
                        have hE : R.rekE ps = 8 := by unfold Rt.rekE; rw [HF.out, HSK.out, hany]; rfl
                        exact ⟨8, R, rfl, .inr ⟨HDD.out, hE.symm, by rw [hE]; rfl⟩, ⟨_, _, HWX.out⟩, Turn.of_below HBX.out⟩
                      · have HA2 : Hid ((rk.take (j + 1)).any (fun x => R.lack x.1) = false) := by
                          show _ = _
                          rw [HAT.out, HJ.out, lack_at h1]; rfl
                        have hj0 : ¬ ((j' : Int) < 0) := by omega
                        clear h1 h2 HAT C63 HJ
                        go_wp2_with fail
                        go_roundw
                        case rel => exact ⟨j + 1, by omega, by go_num, HA2, trivial⟩
                        case measure => simp [intOf]; omega
                    · have hlt' : ¬ ((j : Int) < rn) := by omega
                      have HCL : Hid (((R.st && R.walking) && (R.rk1 ps).any (fun x => R.lack x.1)) = false) := by
                        have h1 := HJ.out
                        rw [List.take_of_length_le (by rw [HRL.out]; omega)] at h1
                        show _ = _
                        rw [← HRK.out, h1, Bool.and_false]
                      clear HJ hj hlt
                      cases m with
                      | true =>
                        go_wp2_with fail
                        go_ret
                        have hE : R.rekE ps = 3 := by unfold Rt.rekE; rw [HF.out, HCL.out, ← HM.out]; rfl
                        exact ⟨3, R, rfl, .inr ⟨HDD.out, hE.symm, by rw [hE]; rfl⟩, ⟨_, _, HWX.out⟩, Turn.of_below HBX.out⟩
                      | false =>
                        have HE : Hid (R.rekE ps = 0) := by
                          show _ = _
                          unfold Rt.rekE; rw [HF.out, HCL.out, ← HM.out]; rfl
                        clear HCL HM HSK
                        obtain ⟨wx, rfl⟩ : ∃ x, x = wr := ⟨_, rfl⟩
                        have H0 : Hid (Seq rowL wx.heap.size wx (.slice none 0 0) (outN (rk.take 0))) := ⟨rfl, .inl ⟨rfl, rfl⟩⟩
                        have HBB : Hid (Below wx.heap.size wx wx) := Below.refl _ _
                        go_wp2_with fail
                        go_loopw [13, 12, 14, 15] (fun i o u1 u2 wy => ∃ (j : Nat) (av : Option Addr) (cv : Nat), j ≤ rn ∧ i = .int .i64 j ∧ o = .slice av (outN (rk.take j)).length cv ∧ Hid (Seq rowL wx.heap.size wy (.slice av (outN (rk.take j)).length cv) (outN (rk.take j))) ∧ Hid (Below wx.heap.size wx wy)) (fun i _ _ _ _ => rn - (intOf i).toNat)
                        case atStart => exact ⟨0, none, 0, Nat.zero_le _, rfl, rfl, H0, HBB⟩
                        case round =>
                          obtain ⟨j, av, cv, hj, rfl, rfl, HR, HBY⟩ := hrel
                          clear H0 HBB
                          by_cases hlt : j < rn
                          · obtain ⟨k, v, t, hg⟩ : ∃ k v t, rk[j]? = some (k, v, t) := ⟨_, _, _, List.getElem?_eq_getElem (by rw [HRL.out]; exact hlt)⟩
                            obtain ⟨ao', cap', hv', _, _, hc⟩ := HO.out.form
                            obtain ⟨g, hao, hge, hcell, _⟩ := hc j _ hg
                            simp only [Value.slice.injEq] at hv'
                            obtain ⟨rfl, -, rfl⟩ := hv'
                            subst hao
                            have d0' := hcell 0 _ (by decide) rfl
                            rw [Nat.add_zero] at d0'
                            change World.cell? _ ⟨g, j * 3, none⟩ = some _ at d0'
                            have d1' : wx.cell? ⟨g, j * 3 + 1, none⟩ = some _ := hcell 1 _ (by decide) rfl
                            have d2' : wx.cell? ⟨g, j * 3 + 2, none⟩ = some _ := hcell 2 _ (by decide) rfl
                            have hlt' : (j : Int) < rn := by omega
                            have HS := Lib.hid (outN_take rk j _ hg)
                            have hon := outN_ok (rk.take j) [] (by simp)
                            have HOD := Lib.hid hon.1
                            have hol : (outN (rk.take j)).length ≤ 500 := by
                              have h1 := hon.2
                              rw [List.length_take] at h1
                              have h2 := HL.out
                              have h3 : (outN (rk.take j)).length ≤ ([] : List RRow).length + min j rk.length := h1
                              simp only [List.length_nil] at h3
                              omega
                            change Hid ((outN (rk.take j)).map Prod.fst).Nodup at HOD
                            obtain ⟨o, ho⟩ : ∃ o, o = outN (rk.take j) := ⟨_, rfl⟩
                            rw [← ho] at HS HOD hol HR ⊢
                            obtain ⟨ol, hol'⟩ : ∃ n, n = o.length := ⟨_, rfl⟩
                            have HOL := Lib.hid hol'
                            rw [← hol'] at HR hol ⊢
                            have hol5 : (ol : Int) ≤ 500 := by omega
                            have HA0 : Hid (AtI o k 0 (-1)) := .inl ⟨rfl, by simp⟩
                            clear hg hc hcell hon ho hol'
                            go_wp2_with fail
                            go_loopw [15, 14] (fun i at_ wz => ∃ (q : Nat) (a : Int), q ≤ ol ∧ i = .int .i64 q ∧ at_ = .int .i64 a ∧ Hid (AtI o k q a) ∧ Hid (Seq rowL wx.heap.size wz (.slice av ol cv) o) ∧ Hid (Below wx.heap.size wx wz)) (fun i _ _ => ol - (intOf i).toNat)
                            case atStart => exact ⟨0, -1, Nat.zero_le _, rfl, rfl, HA0, HR, HBY⟩
                            case round =>
                              obtain ⟨q, a, hq, rfl, rfl, HA, HRZ, HBZ⟩ := hrel
                              clear HA0 HR HBY
                              have d0 := below_cell HBZ.out d0'
                              have d1 := below_cell HBZ.out d1'
                              have d2 := below_cell HBZ.out d2'
                              by_cases hqt : q < ol
                              · obtain ⟨k2, v2, t2, hg2⟩ : ∃ k v t, o[q]? = some (k, v, t) := ⟨_, _, _, List.getElem?_eq_getElem (by rw [← HOL.out]; exact hqt)⟩
                                obtain ⟨av', cv', hv2, _, _, hc2⟩ := HRZ.out.form
                                obtain ⟨g2, hav, _, hcell2, _⟩ := hc2 q _ hg2
                                simp only [Value.slice.injEq] at hv2
                                obtain ⟨rfl, -, rfl⟩ := hv2
                                subst hav
                                have e0 := hcell2 0 _ (by decide) rfl
                                rw [Nat.add_zero] at e0
                                change World.cell? _ ⟨g2, q * 3, none⟩ = some _ at e0
                                have hqt' : (q : Int) < ol := by omega
                                have HG2 := Lib.hid hg2
                                clear hg2 hc2 hcell2
                                by_cases he : k2 = k
                                · subst he
                                  have HA2 := Lib.hid (HA.out.yes HG2.out)
                                  clear HA HG2
                                  go_wp2_with fail
                                  go_region
                                  all_goals go_wp2_with fail
                                  all_goals go_roundw
                                  case rel => exact ⟨q + 1, q, by omega, by go_num, rfl, HA2, HRZ.out.below (Below.refl _ _).drew, HBZ.out.drew⟩
                                  case measure => simp [intOf]; omega
                                · have hb : (k2 == k) = false := by simpa using he
                                  have HA2 := Lib.hid (HA.out.no HG2.out he)
                                  clear HA HG2 he
                                  go_wp2_with fail
                                  go_region
                                  all_goals go_wp2_with fail
                                  all_goals go_roundw
                                  case rel => exact ⟨q + 1, a, by omega, by go_num, rfl, HA2, HRZ.out.below (Below.refl _ _).drew, HBZ.out.drew⟩
                                  case measure => simp [intOf]; omega
                              · have hqt' : ¬ ((q : Int) < ol) := by omega
                                have hqe : q = ol := by omega
                                rcases HA.out with ⟨rfl, h1⟩ | ⟨i, v2, t2, h1, h2, rfl⟩
                                · have HS2 : Hid (outN (rk.take (j + 1)) = o ++ [(k, v, t)]) := by
                                    show _ = _
                                    rw [HS.out, outS_new]
                                    intro z hz
                                    exact h1 z (by rw [List.take_of_length_le (by rw [← HOL.out]; omega)]; exact hz)
                                  have HRO : Hid (wr.ownsRow wx.heap.size 83 3 (.slice av ol cv) ol (o.flatMap rowL.enc)) := by
                                    have h3 := HRZ.out
                                    unfold Seq at h3
                                    rw [← HOL.out] at h3
                                    exact h3
                                  obtain ⟨i0, hi, hz0, hz1, hz2⟩ := info_parts info83
                                  have HSZZ := Lib.hid HBZ.out.size
                                  have hgz : g < wr.heap.size := World.block_lt_of_cell? wr _ d0
                                  have h11 : ¬ ((-1 : Int) ≥ 0) := by decide
                                  clear h1 HA HS
                                  go_wp2_with (first | (at_builtin; refine wpList_append_lies _ rfl _ _ 55 rfl wx.heap.size 83 i0 (.agg #[.int .i64 0, .int .i64 0, .int .i64 0]) 3 24 Try.underlying55 hi hz0 hz1 hz2 rfl (by decide) (.slice av ol cv) ol _ rfl (ownsRow_below HRO.out (bSelf _ _)) ⟨wr.heap.size, 0, none⟩ 1 1 [.int .i64 k, .int .i64 v, .int .i64 (t : Int)] rfl rfl (three_new wr _ _ _ 83) (by simp [Value.oneCell']) (by omega) (by unfold maxLen; omega) (by omega) (by have := HSZZ.out; simp; omega) _ rfl ?_; intro g3 cap3 w6 hown6 hgrow6 hat6 hlt6) | fail)
                                  have hB6 : Below wx.heap.size wx w6 := by
                                    have h1 := bAl HBZ.out (.cells #[.int .i64 k, .int .i64 v, .int .i64 (t : Int)] 83)
                                    refine h1.trans ⟨hgrow6.os, hgrow6.tape, hgrow6.output, hgrow6.size, fun i hi => hgrow6.block i (by have h2 := h1.size; omega) (fun e => ?_)⟩
                                    rcases HRO.out.2 with ⟨h6, _⟩ | ⟨g5, c5, cu5, h6, h7, _⟩
                                    · rw [h6] at e; cases e
                                    · rw [h6] at e
                                      have e2 : i = g5 := Option.some.inj e
                                      omega
                                  have HNew : Hid (Seq rowL wx.heap.size w6 (.slice (some ⟨g3, 0, none⟩) (outN (rk.take (j + 1))).length cap3) (outN (rk.take (j + 1)))) := by
                                    show World.ownsRow _ _ _ _ _ _ _
                                    rw [HS2.out, List.length_append, List.flatMap_append, ← HOL.out]
                                    exact hown6
                                  have HL2 : Hid (ol + 1 = (outN (rk.take (j + 1))).length) := by show _ = _; rw [HS2.out, List.length_append, ← HOL.out]; rfl
                                  clear hown6 hgrow6 hat6 hlt6
                                  go_wp2_with fail
                                  go_roundw
                                  case rel => exact ⟨j + 1, _, cap3, by omega, by go_num, by rw [HL2.out], HNew, hB6⟩
                                  case measure => simp [intOf]; omega
                                · have hS2 := HS.out
                                  rw [outS_old HOD.out h2] at hS2
                                  have HS2 : Hid (outN (rk.take (j + 1)) = o.set i (k, v, t2)) := hS2
                                  obtain ⟨av', cv', hv2, _, _, hc2⟩ := HRZ.out.form
                                  obtain ⟨g2, hav, hge2, hcell2, hfr2⟩ := hc2 i _ h2
                                  simp only [Value.slice.injEq] at hv2
                                  obtain ⟨rfl, -, rfl⟩ := hv2
                                  subst hav
                                  have e1 : wr.cell? ⟨g2, i * 3 + 1, none⟩ = some _ := hcell2 1 _ (by decide) rfl
                                  have f1 := hfr2 (i * 3 + 1)
                                  have hil : (i : Int) < ol := by omega
                                  have hi0 : (i : Int) ≥ 0 := by omega
                                  have HNew : Hid (Seq rowL wx.heap.size (wr.setCell ⟨g2, i * 3 + 1, none⟩ (.int .i64 v)) (.slice (some ⟨g2, 0, none⟩) (outN (rk.take (j + 1))).length cv) (outN (rk.take (j + 1)))) := by
                                    show Seq _ _ _ _ _
                                    have h3 := HRZ.out.set i 1 _ (k, v, t2) (.int .i64 v) h2 (by decide) rfl
                                    rw [HS2.out, List.length_set, ← HOL.out]
                                    exact h3
                                  have HL2 : Hid (ol = (outN (rk.take (j + 1))).length) := by show _ = _; rw [HS2.out, List.length_set, ← HOL.out]
                                  have HB6 : Hid (Below wx.heap.size wx (wr.setCell ⟨g2, i * 3 + 1, none⟩ (.int .i64 v))) := HBZ.out.setCell (p := ⟨g2, i * 3 + 1, none⟩) hge2 _
                                  clear h1 h2 hS2 HA HS HS2 hc2 hcell2 hfr2
                                  go_wp2_with fail
                                  go_roundw
                                  case rel => exact ⟨j + 1, _, cv, by omega, by go_num, by rw [← HL2.out], HNew, HB6⟩
                                  case measure => simp [intOf]; omega
                          · have hlt' : ¬ ((j : Int) < rn) := by omega
                            have hle : rk.take j = rk := List.take_of_length_le (by rw [HRL.out]; omega)
                            rw [hle] at HR ⊢
                            have HWY := Lib.hid (HWX.out.below HBY.out)
                            have q3 := HWY.out.blk.cell 3 rfl
                            have f3 := HWY.out.blk.free 3
                            clear hle hlt hj
                            go_wp2
                            go_ret
                            have hT := turnSet wr r 3 (.slice av (outN rk).length cv)
                            refine ⟨0, { R with rows := outN rk }, rfl, .inr ⟨HDD.out, HE.out.symm, by rw [HE.out, if_pos rfl, ← HRK.out]⟩, ⟨.slice av (outN rk).length cv, wv, ?_⟩, (Turn.of_below (HBX.out.trans (HBY.out.mono HBX.out.size))).trans (hT.mono (fun i _ e => by rw [e]; exact HW.out.fr))⟩
                            have hrlt := HW.out.blk.lt
                            have hsx := HBX.out.size
                            exact ⟨HWY.out.blk.set 3 _, HR.out.down.turn hT (fun g' hg' e => by have := (HR.out.lt hg').1; omega), HWY.out.walks.turn hT (fun g' hg' e => HWY.out.ne.2.1 (by rw [hg', e])), HW.out.fr, fun g' hg' => HN.out g' (by have := (HR.out.lt hg').1; omega), HW.out.fw⟩
                | false =>
                  have HCL : Hid (((R.st && R.walking) && (R.rk1 ps).any (fun x => R.lack x.1)) = false) := by
                    show _ = _
                    rw [HSK.out, Bool.false_and]
                  cases m with
                  | true =>
                    go_wp2_with fail
                    go_ret
                    have hE : R.rekE ps = 3 := by unfold Rt.rekE; rw [HF.out, HCL.out, ← HM.out]; rfl
                    exact ⟨3, R, rfl, .inr ⟨HDD.out, hE.symm, by rw [hE]; rfl⟩, ⟨_, _, HWX.out⟩, Turn.of_below HBX.out⟩
                  | false =>
                    have HE : Hid (R.rekE ps = 0) := by
                      show _ = _
                      unfold Rt.rekE; rw [HF.out, HCL.out, ← HM.out]; rfl
                    clear HCL HM HSK
                    obtain ⟨wx, rfl⟩ : ∃ x, x = wc := ⟨_, rfl⟩
                    have H0 : Hid (Seq rowL wx.heap.size wx (.slice none 0 0) (outN (rk.take 0))) := ⟨rfl, .inl ⟨rfl, rfl⟩⟩
                    have HBB : Hid (Below wx.heap.size wx wx) := Below.refl _ _
                    go_wp2_with fail
                    go_loopw [13, 12, 14, 15] (fun i o u1 u2 wy => ∃ (j : Nat) (av : Option Addr) (cv : Nat), j ≤ rn ∧ i = .int .i64 j ∧ o = .slice av (outN (rk.take j)).length cv ∧ Hid (Seq rowL wx.heap.size wy (.slice av (outN (rk.take j)).length cv) (outN (rk.take j))) ∧ Hid (Below wx.heap.size wx wy)) (fun i _ _ _ _ => rn - (intOf i).toNat)
                    case atStart => exact ⟨0, none, 0, Nat.zero_le _, rfl, rfl, H0, HBB⟩
                    case round =>
                      obtain ⟨j, av, cv, hj, rfl, rfl, HR, HBY⟩ := hrel
                      clear H0 HBB
                      by_cases hlt : j < rn
                      · obtain ⟨k, v, t, hg⟩ : ∃ k v t, rk[j]? = some (k, v, t) := ⟨_, _, _, List.getElem?_eq_getElem (by rw [HRL.out]; exact hlt)⟩
                        obtain ⟨ao', cap', hv', _, _, hc⟩ := HO.out.form
                        obtain ⟨g, hao, hge, hcell, _⟩ := hc j _ hg
                        simp only [Value.slice.injEq] at hv'
                        obtain ⟨rfl, -, rfl⟩ := hv'
                        subst hao
                        have d0' := hcell 0 _ (by decide) rfl
                        rw [Nat.add_zero] at d0'
                        change World.cell? _ ⟨g, j * 3, none⟩ = some _ at d0'
                        have d1' : wx.cell? ⟨g, j * 3 + 1, none⟩ = some _ := hcell 1 _ (by decide) rfl
                        have d2' : wx.cell? ⟨g, j * 3 + 2, none⟩ = some _ := hcell 2 _ (by decide) rfl
                        have hlt' : (j : Int) < rn := by omega
                        have HS := Lib.hid (outN_take rk j _ hg)
                        have hon := outN_ok (rk.take j) [] (by simp)
                        have HOD := Lib.hid hon.1
                        have hol : (outN (rk.take j)).length ≤ 500 := by
                          have h1 := hon.2
                          rw [List.length_take] at h1
                          have h2 := HL.out
                          have h3 : (outN (rk.take j)).length ≤ ([] : List RRow).length + min j rk.length := h1
                          simp only [List.length_nil] at h3
                          omega
                        change Hid ((outN (rk.take j)).map Prod.fst).Nodup at HOD
                        obtain ⟨o, ho⟩ : ∃ o, o = outN (rk.take j) := ⟨_, rfl⟩
                        rw [← ho] at HS HOD hol HR ⊢
                        obtain ⟨ol, hol'⟩ : ∃ n, n = o.length := ⟨_, rfl⟩
                        have HOL := Lib.hid hol'
                        rw [← hol'] at HR hol ⊢
                        have hol5 : (ol : Int) ≤ 500 := by omega
                        have HA0 : Hid (AtI o k 0 (-1)) := .inl ⟨rfl, by simp⟩
                        clear hg hc hcell hon ho hol'
                        go_wp2_with fail
                        go_loopw [15, 14] (fun i at_ wz => ∃ (q : Nat) (a : Int), q ≤ ol ∧ i = .int .i64 q ∧ at_ = .int .i64 a ∧ Hid (AtI o k q a) ∧ Hid (Seq rowL wx.heap.size wz (.slice av ol cv) o) ∧ Hid (Below wx.heap.size wx wz)) (fun i _ _ => ol - (intOf i).toNat)
                        case atStart => exact ⟨0, -1, Nat.zero_le _, rfl, rfl, HA0, HR, HBY⟩
                        case round =>
                          obtain ⟨q, a, hq, rfl, rfl, HA, HRZ, HBZ⟩ := hrel
                          clear HA0 HR HBY
                          have d0 := below_cell HBZ.out d0'
                          have d1 := below_cell HBZ.out d1'
                          have d2 := below_cell HBZ.out d2'
                          by_cases hqt : q < ol
                          · obtain ⟨k2, v2, t2, hg2⟩ : ∃ k v t, o[q]? = some (k, v, t) := ⟨_, _, _, List.getElem?_eq_getElem (by rw [← HOL.out]; exact hqt)⟩
                            obtain ⟨av', cv', hv2, _, _, hc2⟩ := HRZ.out.form
                            obtain ⟨g2, hav, _, hcell2, _⟩ := hc2 q _ hg2
                            simp only [Value.slice.injEq] at hv2
                            obtain ⟨rfl, -, rfl⟩ := hv2
                            subst hav
                            have e0 := hcell2 0 _ (by decide) rfl
                            rw [Nat.add_zero] at e0
                            change World.cell? _ ⟨g2, q * 3, none⟩ = some _ at e0
                            have hqt' : (q : Int) < ol := by omega
                            have HG2 := Lib.hid hg2
                            clear hg2 hc2 hcell2
                            by_cases he : k2 = k
                            · subst he
                              have HA2 := Lib.hid (HA.out.yes HG2.out)
                              clear HA HG2
                              go_wp2_with fail
                              go_region
                              all_goals go_wp2_with fail
                              all_goals go_roundw
                              case rel => exact ⟨q + 1, q, by omega, by go_num, rfl, HA2, HRZ.out.below (Below.refl _ _).drew, HBZ.out.drew⟩
                              case measure => simp [intOf]; omega
                            · have hb : (k2 == k) = false := by simpa using he
                              have HA2 := Lib.hid (HA.out.no HG2.out he)
                              clear HA HG2 he
                              go_wp2_with fail
                              go_region
                              all_goals go_wp2_with fail
                              all_goals go_roundw
                              case rel => exact ⟨q + 1, a, by omega, by go_num, rfl, HA2, HRZ.out.below (Below.refl _ _).drew, HBZ.out.drew⟩
                              case measure => simp [intOf]; omega
                          · have hqt' : ¬ ((q : Int) < ol) := by omega
                            have hqe : q = ol := by omega
                            rcases HA.out with ⟨rfl, h1⟩ | ⟨i, v2, t2, h1, h2, rfl⟩
                            · have HS2 : Hid (outN (rk.take (j + 1)) = o ++ [(k, v, t)]) := by
                                show _ = _
                                rw [HS.out, outS_new]
                                intro z hz
                                exact h1 z (by rw [List.take_of_length_le (by rw [← HOL.out]; omega)]; exact hz)
                              have HRO : Hid (wr.ownsRow wx.heap.size 83 3 (.slice av ol cv) ol (o.flatMap rowL.enc)) := by
                                have h3 := HRZ.out
                                unfold Seq at h3
                                rw [← HOL.out] at h3
                                exact h3
                              obtain ⟨i0, hi, hz0, hz1, hz2⟩ := info_parts info83
                              have HSZZ := Lib.hid HBZ.out.size
                              have hgz : g < wr.heap.size := World.block_lt_of_cell? wr _ d0
                              have h11 : ¬ ((-1 : Int) ≥ 0) := by decide
                              clear h1 HA HS
                              go_wp2_with (first | (at_builtin; refine wpList_append_lies _ rfl _ _ 55 rfl wx.heap.size 83 i0 (.agg #[.int .i64 0, .int .i64 0, .int .i64 0]) 3 24 Try.underlying55 hi hz0 hz1 hz2 rfl (by decide) (.slice av ol cv) ol _ rfl (ownsRow_below HRO.out (bSelf _ _)) ⟨wr.heap.size, 0, none⟩ 1 1 [.int .i64 k, .int .i64 v, .int .i64 (t : Int)] rfl rfl (three_new wr _ _ _ 83) (by simp [Value.oneCell']) (by omega) (by unfold maxLen; omega) (by omega) (by have := HSZZ.out; simp; omega) _ rfl ?_; intro g3 cap3 w6 hown6 hgrow6 hat6 hlt6) | fail)
                              have hB6 : Below wx.heap.size wx w6 := by
                                have h1 := bAl HBZ.out (.cells #[.int .i64 k, .int .i64 v, .int .i64 (t : Int)] 83)
                                refine h1.trans ⟨hgrow6.os, hgrow6.tape, hgrow6.output, hgrow6.size, fun i hi => hgrow6.block i (by have h2 := h1.size; omega) (fun e => ?_)⟩
                                rcases HRO.out.2 with ⟨h6, _⟩ | ⟨g5, c5, cu5, h6, h7, _⟩
                                · rw [h6] at e; cases e
                                · rw [h6] at e
                                  have e2 : i = g5 := Option.some.inj e
                                  omega
                              have HNew : Hid (Seq rowL wx.heap.size w6 (.slice (some ⟨g3, 0, none⟩) (outN (rk.take (j + 1))).length cap3) (outN (rk.take (j + 1)))) := by
                                show World.ownsRow _ _ _ _ _ _ _
                                rw [HS2.out, List.length_append, List.flatMap_append, ← HOL.out]
                                exact hown6
                              have HL2 : Hid (ol + 1 = (outN (rk.take (j + 1))).length) := by show _ = _; rw [HS2.out, List.length_append, ← HOL.out]; rfl
                              clear hown6 hgrow6 hat6 hlt6
                              go_wp2_with fail
                              go_roundw
                              case rel => exact ⟨j + 1, _, cap3, by omega, by go_num, by rw [HL2.out], HNew, hB6⟩
                              case measure => simp [intOf]; omega
                            · have hS2 := HS.out
                              rw [outS_old HOD.out h2] at hS2
                              have HS2 : Hid (outN (rk.take (j + 1)) = o.set i (k, v, t2)) := hS2
                              obtain ⟨av', cv', hv2, _, _, hc2⟩ := HRZ.out.form
                              obtain ⟨g2, hav, hge2, hcell2, hfr2⟩ := hc2 i _ h2
                              simp only [Value.slice.injEq] at hv2
                              obtain ⟨rfl, -, rfl⟩ := hv2
                              subst hav
                              have e1 : wr.cell? ⟨g2, i * 3 + 1, none⟩ = some _ := hcell2 1 _ (by decide) rfl
                              have f1 := hfr2 (i * 3 + 1)
                              have hil : (i : Int) < ol := by omega
                              have hi0 : (i : Int) ≥ 0 := by omega
                              have HNew : Hid (Seq rowL wx.heap.size (wr.setCell ⟨g2, i * 3 + 1, none⟩ (.int .i64 v)) (.slice (some ⟨g2, 0, none⟩) (outN (rk.take (j + 1))).length cv) (outN (rk.take (j + 1)))) := by
                                show Seq _ _ _ _ _
                                have h3 := HRZ.out.set i 1 _ (k, v, t2) (.int .i64 v) h2 (by decide) rfl
                                rw [HS2.out, List.length_set, ← HOL.out]
                                exact h3
                              have HL2 : Hid (ol = (outN (rk.take (j + 1))).length) := by show _ = _; rw [HS2.out, List.length_set, ← HOL.out]
                              have HB6 : Hid (Below wx.heap.size wx (wr.setCell ⟨g2, i * 3 + 1, none⟩ (.int .i64 v))) := HBZ.out.setCell (p := ⟨g2, i * 3 + 1, none⟩) hge2 _
                              clear h1 h2 hS2 HA HS HS2 hc2 hcell2 hfr2
                              go_wp2_with fail
                              go_roundw
                              case rel => exact ⟨j + 1, _, cv, by omega, by go_num, by rw [← HL2.out], HNew, HB6⟩
                              case measure => simp [intOf]; omega
                      · have hlt' : ¬ ((j : Int) < rn) := by omega
                        have hle : rk.take j = rk := List.take_of_length_le (by rw [HRL.out]; omega)
                        rw [hle] at HR ⊢
                        have HWY := Lib.hid (HWX.out.below HBY.out)
                        have q3 := HWY.out.blk.cell 3 rfl
                        have f3 := HWY.out.blk.free 3
                        clear hle hlt hj
                        go_wp2
                        go_ret
                        have hT := turnSet wr r 3 (.slice av (outN rk).length cv)
                        refine ⟨0, { R with rows := outN rk }, rfl, .inr ⟨HDD.out, HE.out.symm, by rw [HE.out, if_pos rfl, ← HRK.out]⟩, ⟨.slice av (outN rk).length cv, wv, ?_⟩, (Turn.of_below (HBX.out.trans (HBY.out.mono HBX.out.size))).trans (hT.mono (fun i _ e => by rw [e]; exact HW.out.fr))⟩
                        have hrlt := HW.out.blk.lt
                        have hsx := HBX.out.size
                        exact ⟨HWY.out.blk.set 3 _, HR.out.down.turn hT (fun g' hg' e => by have := (HR.out.lt hg').1; omega), HWY.out.walks.turn hT (fun g' hg' e => HWY.out.ne.2.1 (by rw [hg', e])), HW.out.fr, fun g' hg' => HN.out g' (by have := (HR.out.lt hg').1; omega), HW.out.fw⟩
end
end Go.Proofs.Ytagejkolgicecaa
