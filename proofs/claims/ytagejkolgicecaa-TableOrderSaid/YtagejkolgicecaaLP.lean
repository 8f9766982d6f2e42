/- TableOrder: the walk. -/
import Derived.Test.YtagejkolgicecaaLO
namespace Go.Proofs.Ytagejkolgicecaa
open Go Go.RowKit Go.Maps
theorem pcs_set : ∀ (rs : List (Int × Int)) (q : Nat) (k v x : Int), rs[q]? = some (k, v) → (pcs rs).set (q * 2 + 1) (.int .i64 x) = pcs (rs.set q (k, x))
  | [], q, k, v, x, h => by simp at h
  | r :: rs, 0, k, v, x, h => by simp at h; subst h; rfl
  | r :: rs, q + 1, k, v, x, h => by
    have := pcs_set rs q k v x (by simpa using h)
    rw [show (q + 1) * 2 + 1 = (q * 2 + 1) + 1 + 1 by omega]
    simpa [pcs] using this
theorem PrsB.set {B : Nat} {w : World} {g n cap : Nat} {rs : List (Int × Int)} (h : PrsB B w (.slice (some ⟨g, 0, none⟩) n cap) rs) (q : Nat) (k v x : Int) (hq : rs[q]? = some (k, v)) :
    PrsB B (w.setCell ⟨g, q * 2 + 1, none⟩ (.int .i64 x)) (.slice (some ⟨g, 0, none⟩) n cap) (rs.set q (k, x)) := by
  have hlt : q < rs.length := (List.getElem?_eq_some_iff.1 hq).1
  obtain ⟨h1, h2 | ⟨g', cap', cur, h3, hb, hh, h5, h6, h7, h8⟩⟩ := h
  · cases h2.1
  · cases h3
    refine ⟨by rw [← pcs_set rs q k v x hq, List.length_set, List.length_set]; exact h1, .inr ⟨g, cap, (cur.toList.set (q * 2 + 1) (.int .i64 x)).toArray, by rw [List.length_set], hb, ?_, by rw [List.length_set]; exact h5, h6, by simp; omega, ?_⟩⟩
    · have hb2 : Blk w g 42 cur.toList := by simpa [Blk] using hh
      exact hb2.set (q * 2 + 1) (.int .i64 x)
    · rw [List.length_set, ← pcs_set rs q k v x hq, ← h8]
      simp [List.take_set]
def OrdAt2 (w : World) (b : Nat) (wr : World) (S : Tb) (v : Value) (rs : List (Int × Int)) (u : Value) (us : List (Int × Int)) : Prop :=
  ∃ G : Nat → Prop, Tab G wr b S ∧ (∀ i, G i → w.heap.size ≤ i ∧ i < wr.heap.size) ∧ PrsB w.heap.size wr u us ∧ (∀ g, u.ownBlock = some g → ¬ G g) ∧ Below w.heap.size w wr ∧ PrsB w.heap.size wr v rs ∧ ∀ g, v.ownBlock = some g → G g
theorem PrsB.base {B : Nat} {w : World} {v : Value} {rs : List (Int × Int)} (h : PrsB B w v rs) {g : Nat} (hg : v.ownBlock = some g) : B ≤ g ∧ g < w.heap.size := by
  refine ⟨?_, ?_⟩
  · rcases h.2 with ⟨h6, _⟩ | ⟨g5, c5, cu5, h6, h7, _⟩
    · rw [h6] at hg; cases hg
    · rw [h6] at hg
      have e2 : g5 = g := Option.some.inj hg
      omega
  · obtain ⟨_, _, _, _, _, h6⟩ := h.prs.read
    exact h6 g hg
theorem OrdAt.two {w wr : World} {b : Nat} {S : Tb} {v : Value} {rs : List (Int × Int)} (h : OrdAt w b wr S v rs) : OrdAt2 w b wr S v rs (.slice none 0 0) [] := by
  obtain ⟨G, h1, h2, h3, h4, h5⟩ := h
  refine ⟨fun i => G i ∨ v.ownBlock = some i, h1.mono (fun _ _ h => .inl h), fun i hi => ?_, ⟨rfl, .inl ⟨rfl, rfl⟩⟩, fun g hg => (by cases hg), h5, h3, fun g hg => .inr hg⟩
  rcases hi with h | h
  · exact h2 i h
  · exact h3.base h
theorem OrdAt2.one {w wr : World} {b : Nat} {S : Tb} {v u : Value} {rs us : List (Int × Int)} (h : OrdAt2 w b wr S v rs u us) : OrdAt w b wr S u us := by
  obtain ⟨G, h1, h2, h3, h4, h5, _⟩ := h
  exact ⟨G, h1, h2, h3, h4, h5⟩
theorem OrdAt2.below {w wr w' : World} {b : Nat} {S : Tb} {v u : Value} {rs us : List (Int × Int)} (h : OrdAt2 w b wr S v rs u us) (hb : Below wr.heap.size wr w') : OrdAt2 w b w' S v rs u us := by
  obtain ⟨G, h1, h2, h3, h4, h5, h6, h7⟩ := h
  exact ⟨G, h1.below hb, fun i hi => ⟨(h2 i hi).1, Nat.lt_of_lt_of_le (h2 i hi).2 hb.size⟩, h3.below hb, h4, bThen h5 hb, h6.below hb, h7⟩
theorem OrdAt2.want {w wr w' : World} {b : Nat} {S : Tb} {v u u' : Value} {rs us us' : List (Int × Int)} (h : OrdAt2 w b wr S v rs u us) (hg : wr.grownBy w' u.ownBlock) (hp : PrsB w.heap.size w' u' us') (hv : u.ownBlock = u'.ownBlock ∨ ∃ g, u'.ownBlock = some g ∧ wr.heap.size ≤ g) : OrdAt2 w b w' S v rs u' us' := by
  obtain ⟨G, h1, h2, h3, h4, h5, h6, h7⟩ := h
  have hU : Turn (fun i => u.ownBlock = some i) wr w' := .of_grown hg (fun _ e => e)
  refine ⟨G, h1.turn hU (fun k hk e => h4 k e hk), fun i hi => ⟨(h2 i hi).1, Nat.lt_of_lt_of_le (h2 i hi).2 hg.size⟩, hp, fun g hgv hG => ?_, h5.trans ⟨hg.os, hg.tape, hg.output, hg.size, fun k hk => hg.block k (by have := h5.size; omega) (fun e => ?_)⟩, h6.turn hU (fun g hgv e => h4 g e (h7 g hgv)), h7⟩
  · rcases hv with h | ⟨g', h6, h7⟩
    · exact h4 g (h.trans hgv) hG
    · rw [h6] at hgv; cases hgv; have := (h2 g hG).2; omega
  · have := (h3.base e.symm).1; omega
theorem take_any {l : List (Int × Int)} {q : Nat} {k k' v' : Int} (h : l[q]? = some (k', v')) : (l.take (q + 1)).any (fun r => decide (r.1 = k)) = ((l.take q).any (fun r => decide (r.1 = k)) || decide (k' = k)) := by
  rw [List.take_add_one, h]; simp
theorem put_step {l : List (Int × Int)} {q : Nat} {k x k' v' : Int} (h : l[q]? = some (k', v')) :
    (((l.take q).map (updR k x) ++ l.drop q).set q (updR k x (k', v'))) = (l.take (q + 1)).map (updR k x) ++ l.drop (q + 1) ∧ ((l.take q).map (updR k x) ++ l.drop q)[q]? = some (k', v') := by
  obtain ⟨hlt, he⟩ := List.getElem?_eq_some_iff.1 h
  have hl : ((l.take q).map (updR k x)).length = q := by simp; omega
  have hd : l.drop q = (k', v') :: l.drop (q + 1) := by rw [List.drop_eq_getElem_cons hlt, he]
  constructor
  · rw [hd, List.set_append_right _ _ (by omega), hl, Nat.sub_self, List.set_cons_zero, List.take_add_one, h]
    simp
  · rw [hd, List.getElem?_append_right (by omega), hl, Nat.sub_self]; rfl
theorem filt_step {l : List (Int × Int)} {q : Nat} {k k' v' : Int} (h : l[q]? = some (k', v')) :
    (l.take (q + 1)).filter (fun r => !decide (r.1 = k)) = (l.take q).filter (fun r => !decide (r.1 = k)) ++ (if k' = k then [] else [(k', v')]) := by
  rw [List.take_add_one, h, List.filter_append]
  congr 1
  by_cases e : k' = k <;> simp [e]
theorem put_same {l : List (Int × Int)} {q : Nat} {k x k' v' : Int} (h : l[q]? = some (k', v')) (hne : k' ≠ k) : (l.take q).map (updR k x) ++ l.drop q = (l.take (q + 1)).map (updR k x) ++ l.drop (q + 1) := by
  obtain ⟨hlt, he⟩ := List.getElem?_eq_some_iff.1 h
  have hd : l.drop q = (k', v') :: l.drop (q + 1) := by rw [List.drop_eq_getElem_cons hlt, he]
  rw [hd, List.take_add_one, h]
  simp [updR, hne]
theorem grow_set (w : World) (g j : Nat) (u : Value) : w.grownBy (w.setCell ⟨g, j, none⟩ u) (some g) :=
  ⟨(turnSet w g j u).os, (turnSet w g j u).tape, (turnSet w g j u).output, (turnSet w g j u).size, fun k hk hne => (turnSet w g j u).block k hk (fun e => hne (by rw [e]))⟩
theorem OrdAt.bw {w wr : World} {b : Nat} {S : Tb} {v : Value} {rs : List (Int × Int)} (h : OrdAt w b wr S v rs) : Below w.heap.size w wr := by obtain ⟨_, _, _, _, _, h⟩ := h; exact h
theorem OrdAt.at {w wr : World} {b n c : Nat} {S : Tb} {ao : Option Addr} {rs : List (Int × Int)} (h : OrdAt w b wr S (.slice ao n c) rs) : RowsAt wr ao rs := by
  obtain ⟨G, _, _, h3, _⟩ := h
  obtain ⟨a2, c2, e, hr, _⟩ := h3.prs.read
  cases e; exact hr
theorem OrdAt.prs {w wr : World} {b : Nat} {S : Tb} {v : Value} {rs : List (Int × Int)} (h : OrdAt w b wr S v rs) : PrsB w.heap.size wr v rs := by
  obtain ⟨G, _, _, h3, _⟩ := h; exact h3
theorem OrdAt.ok {w wr : World} {b : Nat} {S : Tb} {v : Value} {rs : List (Int × Int)} (h : OrdAt w b wr S v rs) : Ok S := by
  obtain ⟨G, h1, _⟩ := h; exact h1.1
theorem OrdAt2.at {w wr : World} {b n c : Nat} {S : Tb} {ao : Option Addr} {u : Value} {rs us : List (Int × Int)} (h : OrdAt2 w b wr S (.slice ao n c) rs u us) : RowsAt wr ao rs := by
  obtain ⟨G, _, _, _, _, _, h3, _⟩ := h
  obtain ⟨a2, c2, e, hr, _⟩ := h3.prs.read
  cases e; exact hr
theorem rows_free {w : World} {B g n c : Nat} {rs : List (Int × Int)} (h : PrsB B w (.slice (some ⟨g, 0, none⟩) n c) rs) (j : Nat) : w.frozen? ⟨g, j, none⟩ = false := by
  obtain ⟨h1, h2 | ⟨g', cap', cur, h3, hb, hh, h5⟩⟩ := h
  · cases h2.1
  · cases h3
    simp [World.frozen?, hh]
set_option maxRecDepth 100000 in
set_option maxHeartbeats 8000000 in
theorem t5 (w : World) (ao : Option Addr) (cap : Nat) (ds : List (Int × Int × Int)) (hD : Ds3 w ao ds) :
    Calls Try.prog 5 #[.slice ao ds.length cap] w fun e w' => e = .returned (.bool true) ∧ Below w.heap.size w w' := by
  have HD := Lib.hid hD
  have C20 := Lib.hid (t20 (fun i => w.heap.size ≤ i) w (fun i h => h))
  clear hD
  obtain ⟨i0, hi, hz0, hz1, hz2⟩ := info_parts info42
  go_enter Try.func5, Try.ntmps5
  go_wp2_with fail
  refine C20.out.mono ?_
  rintro e w1 ⟨b, rfl, h1, hb1, _⟩
  have hst : Hid (OrdI 0 Tb.new ∧ OrdAt w b w1 Tb.new (.slice none 0 0) Tb.new.rows) :=
    ⟨OrdI.first, fun i => w.heap.size ≤ i ∧ i < w1.heap.size, h1.mono (fun i hi hf => ⟨hf, hi⟩), fun i hi => hi, ⟨rfl, .inl ⟨rfl, rfl⟩⟩, fun g hg => (by cases hg), hb1⟩
  clear h1 hb1 C20
  go_wp2_with fail
  go_loopw [5, 4] (fun i t wr => ∃ (j : Nat) (S : Tb) (aw : Option Addr) (cw : Nat), j ≤ ds.length ∧ j ≤ 300 ∧ i = .int .i64 j ∧ t = .slice aw S.rows.length cw ∧ Hid (OrdI j S ∧ OrdAt w b wr S (.slice aw S.rows.length cw) S.rows)) (fun i _ _ => ds.length - (intOf i).toNat)
  case atStart => exact ⟨0, Tb.new, none, 0, Nat.zero_le _, Nat.zero_le _, rfl, rfl, hst⟩
  case round =>
    obtain ⟨j, S, aw, cw, hj, hj3, rfl, rfl, HI⟩ := hrel
    clear hst
    have hrl : S.rows.length ≤ 300 := by have h1 := HI.out.1.len; unfold Tb.rows; rw [List.length_map]; omega
    by_cases hlt : j < ds.length
    · by_cases h3 : j < 300
      · obtain ⟨d, a, x, hg⟩ : ∃ d a x, ds[j]? = some (d, a, x) := ⟨_, _, _, List.getElem?_eq_getElem hlt⟩
        obtain ⟨hI, hO⟩ := HI.out
        have hBw : Below w.heap.size w wr := by obtain ⟨_, _, _, _, _, h⟩ := hO; exact h
        obtain ⟨db, off, rfl, hdbw, c0', c1', c2'⟩ := HD.out j d a x hg
        have c0 := below_cell hBw c0'
        have c1 := below_cell hBw c1'
        have c2 := below_cell hBw c2'
        clear c0' c1' c2'
        obtain ⟨k, hk, ek⟩ := and15 a
        obtain ⟨m, hm, em⟩ := and3 d
        have hlt' : (j : Int) < ds.length := by omega
        have h3' : (j : Int) < 300 := by omega
        have HIc := Lib.hid hI
        have HO := Lib.hid hO
        have HG := Lib.hid hg
        have HB := Lib.hid hBw
        have HKW : Hid (WF (k : Int)) := wf_small (by omega)
        have HOk : Hid (Ok S) := by obtain ⟨G, h1, _⟩ := hO; exact h1.1
        have hRA : RowsAt wr aw S.rows := by
          obtain ⟨G, _, _, h3, _⟩ := hO
          obtain ⟨a2, c2, e, hr, _⟩ := h3.prs.read
          cases e; exact hr
        have HRA := Lib.hid hRA
        have h00 : Hid ((S.rows.take 0).any (fun r => decide (r.1 = (k : Int))) = false) := rfl
        obtain ⟨rn, hrn⟩ : ∃ rn, rn = S.rows.length := ⟨_, rfl⟩
        have HRN := Lib.hid hrn
        rw [← hrn] at hrl ⊢
        clear hI hO hBw hg hRA HI hrn
        have HO2 : Hid (OrdAt w b wr S (.slice aw rn cw) S.rows) := by have h1 := HO.out; rw [← HRN.out] at h1; exact h1
        clear HO
        have hrl' : (rn : Int) ≤ 300 := by omega
        go_wp2_with fail
        go_loopw [9, 8] (fun i t w2 => ∃ q : Nat, q ≤ rn ∧ i = .int .i64 q ∧ t = .bool ((S.rows.take q).any (fun r => decide (r.1 = (k : Int)))) ∧ w2 = wr) (fun i _ _ => rn - (intOf i).toNat)
        case atStart => exact ⟨0, Nat.zero_le _, rfl, rfl, rfl⟩
        case round =>
          obtain ⟨q, hq, rfl, rfl, rfl⟩ := hrel
          by_cases hqr : q < rn
          · obtain ⟨k', v', hg⟩ : ∃ k' v', S.rows[q]? = some (k', v') := ⟨_, _, List.getElem?_eq_getElem (by rw [← HRN.out]; exact hqr)⟩
            obtain ⟨rb, rfl, e0, e1⟩ := HRA.out q k' v' hg
            have hqr' : (q : Int) < rn := by omega
            have HT := Lib.hid (take_any (k := (k : Int)) hg)
            generalize (S.rows.take q).any (fun r => decide (r.1 = (k : Int))) = t0 at *
            clear hg
            by_cases he : k' = (k : Int)
            · have hbe : (k' == (k : Int)) = true := by simpa using he
              have HT2 : Hid ((S.rows.take (q + 1)).any (fun r => decide (r.1 = (k : Int))) = true) := by show _ = _; rw [HT.out]; simp [he]
              clear he HT
              go_wp2_with fail
              go_roundw
              case rel => exact ⟨q + 1, by omega, by go_num, by rw [HT2.out], trivial⟩
              case measure => simp [intOf]; omega
            · have hbe : (k' == (k : Int)) = false := by simpa using he
              have HT2 : Hid ((S.rows.take (q + 1)).any (fun r => decide (r.1 = (k : Int))) = t0) := by show _ = _; rw [HT.out]; simp [he]
              clear HT
              go_wp2_with fail
              go_roundw
              case rel => exact ⟨q + 1, by omega, by go_num, by rw [HT2.out], trivial⟩
              case measure => simp [intOf]; omega
          · have hqr' : ¬ ((q : Int) < rn) := by omega
            have HQ : Hid ((S.rows.take q).any (fun r => decide (r.1 = (k : Int))) = S.has k) := by
              show _ = _
              have e : q = S.rows.length := by rw [← HRN.out]; omega
              rw [has_rows HOk.out HKW.out, e, List.take_length]
            rw [HQ.out]
            clear h00
            by_cases hm0 : m = 0
            · have em' : bits .and .i64 d 3 = 0 := by rw [em, hm0]; rfl
              have hbm : (bits .and .i64 d 3 == 0) = true := by rw [em']; rfl
              clear em hm hm0
              have HRD := Lib.hid (rows_del HIc.out.fz k HOk.out HKW.out)
              have HNx := Lib.hid (HIc.out.del k)
              obtain ⟨F, hT, hFn, hback⟩ := HO2.out.call
              have C22 := Lib.hid (t22 wr hT HKW.out)
              have HBK := Lib.hid hback
              clear hT hFn hback HQ
              cases hh : S.has k with
              | true =>
                obtain ⟨vl, hvl⟩ : ∃ vl, vl = S.vl k := ⟨_, rfl⟩
                have hE : S.delE k = .returned (.tuple #[.int .i64 vl, .int .i64 0]) := by unfold Tb.delE; rw [if_neg (by rw [HIc.out.fz]; simp), if_pos hh, hvl]
                rw [hE] at C22
                clear hE hvl hh
                go_wp2_with fail
                refine C22.out.mono ?_
                rintro e w4 ⟨rfl, hT4, hU4⟩
                have HO4 : Hid (OrdAt2 w b w4 (S.del k) (.slice aw rn cw) S.rows (.slice none ((S.rows.take 0).filter (fun r => !decide (r.1 = (k : Int)))).length 0) ((S.rows.take 0).filter (fun r => !decide (r.1 = (k : Int))))) := (HBK.out _ _ hT4 hU4).two
                clear hT4 hU4 C22 HBK
                go_wp2_with fail
                go_loopw [13, 7] (fun i t w5 => ∃ (q : Nat) (au : Option Addr) (cu : Nat), q ≤ rn ∧ i = .int .i64 q ∧ t = .slice au ((S.rows.take q).filter (fun r => !decide (r.1 = (k : Int)))).length cu ∧ Hid (OrdAt2 w b w5 (S.del k) (.slice aw rn cw) S.rows (.slice au ((S.rows.take q).filter (fun r => !decide (r.1 = (k : Int)))).length cu) ((S.rows.take q).filter (fun r => !decide (r.1 = (k : Int)))))) (fun i _ _ => rn - (intOf i).toNat)
                case atStart => exact ⟨0, none, 0, Nat.zero_le _, rfl, rfl, HO4⟩
                case round =>
                  obtain ⟨q, au, cu, hq, rfl, rfl, HO5⟩ := hrel
                  clear HO4
                  by_cases hqr : q < rn
                  · obtain ⟨k', v', hg⟩ : ∃ k' v', S.rows[q]? = some (k', v') := ⟨_, _, List.getElem?_eq_getElem (by rw [← HRN.out]; exact hqr)⟩
                    obtain ⟨rb, rfl, e0, e1⟩ := HO5.out.at q k' v' hg
                    have hqr' : (q : Int) < rn := by omega
                    have HF := Lib.hid (filt_step (k := (k : Int)) hg)
                    have hul : ((S.rows.take q).filter (fun r => !decide (r.1 = (k : Int)))).length ≤ 300 := by
                      have h1 := List.length_filter_le (fun r : Int × Int => !decide (r.1 = (k : Int))) (S.rows.take q)
                      rw [List.length_take] at h1; omega
                    obtain ⟨us, hus⟩ : ∃ us, us = (S.rows.take q).filter (fun r => !decide (r.1 = (k : Int))) := ⟨_, rfl⟩
                    rw [← hus] at HF HO5 hul ⊢
                    clear hg hus
                    by_cases he : k' = (k : Int)
                    · have hbe : (k' == (k : Int)) = true := by simpa using he
                      have HF2 : Hid ((S.rows.take (q + 1)).filter (fun r => !decide (r.1 = (k : Int))) = us) := by show _ = _; rw [HF.out, if_pos he, List.append_nil]
                      clear he HF
                      go_wp2_with fail
                      go_roundw
                      case rel => exact ⟨q + 1, au, cu, by omega, by go_num, by rw [HF2.out], by rw [HF2.out]; exact HO5⟩
                      case measure => simp [intOf]; omega
                    · have hbe : (k' == (k : Int)) = false := by simpa using he
                      have HF2 : Hid ((S.rows.take (q + 1)).filter (fun r => !decide (r.1 = (k : Int))) = us ++ [(k', v')]) := by show _ = _; rw [HF.out, if_neg he]
                      have hP : PrsB w.heap.size wr (.slice au us.length cu) us := by obtain ⟨_, _, _, h, _⟩ := HO5.out; exact h
                      have hbw : w.heap.size ≤ wr.heap.size := by obtain ⟨_, _, _, _, _, h, _⟩ := HO5.out; exact h.size
                      obtain ⟨ul, hul2⟩ : ∃ ul, ul = us.length := ⟨_, rfl⟩
                      have HUL := Lib.hid hul2
                      unfold PrsB at hP
                      rw [← hul2] at hP hul HO5 ⊢
                      have HP := Lib.hid hP
                      clear hP HF hul2
                      go_wp2_with (first | (at_builtin; refine wpList_append_lies _ rfl _ _ 30 rfl w.heap.size 42 i0 (.agg #[.int .i64 0, .int .i64 0]) 2 16 Try.underlying30 hi hz0 hz1 hz2 rfl (by decide) (.slice au ul cu) ul _ rfl (HP.out.alloc _) ⟨wr.heap.size, 0, none⟩ 1 1 [.int .i64 k', .int .i64 v'] rfl rfl (two_new wr _ _ 42) (by simp [Value.oneCell']) (by omega) (by unfold maxLen; omega) (by omega) (by simp; omega) _ rfl ?_; intro g2 cap2 w6 hown6 hgrow6 hat6 hlt6) | fail)
                      have hN : PrsB w.heap.size w6 (.slice (some ⟨g2, 0, none⟩) (ul + 1) cap2) (us ++ [(k', v')]) := by
                        unfold PrsB
                        rw [List.length_append, ← HUL.out, pcs_append]
                        exact hown6
                      have HNew : Hid (OrdAt2 w b w6 (S.del k) (.slice (some ⟨rb, 0, none⟩) rn cw) S.rows (.slice (some ⟨g2, 0, none⟩) (ul + 1) cap2) (us ++ [(k', v')])) := by
                        refine (HO5.out.below (bSelf wr (.cells #[.int .i64 k', .int .i64 v'] 42))).want hgrow6 hN ?_
                        rcases hat6 with h1 | h1
                        · exact .inl h1
                        · exact .inr ⟨g2, rfl, by rw [h1]; exact Nat.le_refl _⟩
                      have HL2 : Hid ((us ++ [(k', v')]).length = ul + 1) := by show _ = _; rw [List.length_append, ← HUL.out]; rfl
                      clear hown6 hgrow6 hat6 hlt6 hN
                      go_wp2_with fail
                      go_roundw
                      case rel => exact ⟨q + 1, some ⟨g2, 0, none⟩, cap2, by omega, by go_num, by rw [HF2.out, HL2.out], by rw [HF2.out, HL2.out]; exact HNew⟩
                      case measure => simp [intOf]; omega
                  · have hqr' : ¬ ((q : Int) < rn) := by omega
                    have e : (S.rows.take q).filter (fun r => !decide (r.1 = (k : Int))) = (S.del k).rows := by
                      have e : q = S.rows.length := by rw [← HRN.out]; omega
                      rw [e, List.take_length, ← HRD.out]
                    rw [e] at HO5 ⊢
                    have HNew : Hid (OrdI (j + 1) (S.del k) ∧ OrdAt w b wr (S.del k) (.slice au (S.del k).rows.length cu) (S.del k).rows) := ⟨HNx.out, HO5.out.one⟩
                    clear c0 c1 c2 e
                    go_wp2_with fail
                    go_roundw
                    case rel => exact ⟨j + 1, S.del k, au, cu, by omega, by omega, by go_num, rfl, HNew⟩
                    case measure => simp [intOf]; omega
              | false =>
                have hE : S.delE k = .returned (.tuple #[.int .i64 0, .int .i64 3]) := by unfold Tb.delE; rw [if_neg (by rw [HIc.out.fz]; simp), if_neg (by rw [hh]; simp)]
                rw [hE] at C22
                clear hE hh
                go_wp2_with fail
                refine C22.out.mono ?_
                rintro e w4 ⟨rfl, hT4, hU4⟩
                have HO4 : Hid (OrdAt2 w b w4 (S.del k) (.slice aw rn cw) S.rows (.slice none ((S.rows.take 0).filter (fun r => !decide (r.1 = (k : Int)))).length 0) ((S.rows.take 0).filter (fun r => !decide (r.1 = (k : Int))))) := (HBK.out _ _ hT4 hU4).two
                clear hT4 hU4 C22 HBK
                go_wp2_with fail
                go_loopw [13, 7] (fun i t w5 => ∃ (q : Nat) (au : Option Addr) (cu : Nat), q ≤ rn ∧ i = .int .i64 q ∧ t = .slice au ((S.rows.take q).filter (fun r => !decide (r.1 = (k : Int)))).length cu ∧ Hid (OrdAt2 w b w5 (S.del k) (.slice aw rn cw) S.rows (.slice au ((S.rows.take q).filter (fun r => !decide (r.1 = (k : Int)))).length cu) ((S.rows.take q).filter (fun r => !decide (r.1 = (k : Int)))))) (fun i _ _ => rn - (intOf i).toNat)
                case atStart => exact ⟨0, none, 0, Nat.zero_le _, rfl, rfl, HO4⟩
                case round =>
                  obtain ⟨q, au, cu, hq, rfl, rfl, HO5⟩ := hrel
                  clear HO4
                  by_cases hqr : q < rn
                  · obtain ⟨k', v', hg⟩ : ∃ k' v', S.rows[q]? = some (k', v') := ⟨_, _, List.getElem?_eq_getElem (by rw [← HRN.out]; exact hqr)⟩
                    obtain ⟨rb, rfl, e0, e1⟩ := HO5.out.at q k' v' hg
                    have hqr' : (q : Int) < rn := by omega
                    have HF := Lib.hid (filt_step (k := (k : Int)) hg)
                    have hul : ((S.rows.take q).filter (fun r => !decide (r.1 = (k : Int)))).length ≤ 300 := by
                      have h1 := List.length_filter_le (fun r : Int × Int => !decide (r.1 = (k : Int))) (S.rows.take q)
                      rw [List.length_take] at h1; omega
                    obtain ⟨us, hus⟩ : ∃ us, us = (S.rows.take q).filter (fun r => !decide (r.1 = (k : Int))) := ⟨_, rfl⟩
                    rw [← hus] at HF HO5 hul ⊢
                    clear hg hus
                    by_cases he : k' = (k : Int)
                    · have hbe : (k' == (k : Int)) = true := by simpa using he
                      have HF2 : Hid ((S.rows.take (q + 1)).filter (fun r => !decide (r.1 = (k : Int))) = us) := by show _ = _; rw [HF.out, if_pos he, List.append_nil]
                      clear he HF
                      go_wp2_with fail
                      go_roundw
                      case rel => exact ⟨q + 1, au, cu, by omega, by go_num, by rw [HF2.out], by rw [HF2.out]; exact HO5⟩
                      case measure => simp [intOf]; omega
                    · have hbe : (k' == (k : Int)) = false := by simpa using he
                      have HF2 : Hid ((S.rows.take (q + 1)).filter (fun r => !decide (r.1 = (k : Int))) = us ++ [(k', v')]) := by show _ = _; rw [HF.out, if_neg he]
                      have hP : PrsB w.heap.size wr (.slice au us.length cu) us := by obtain ⟨_, _, _, h, _⟩ := HO5.out; exact h
                      have hbw : w.heap.size ≤ wr.heap.size := by obtain ⟨_, _, _, _, _, h, _⟩ := HO5.out; exact h.size
                      obtain ⟨ul, hul2⟩ : ∃ ul, ul = us.length := ⟨_, rfl⟩
                      have HUL := Lib.hid hul2
                      unfold PrsB at hP
                      rw [← hul2] at hP hul HO5 ⊢
                      have HP := Lib.hid hP
                      clear hP HF hul2
                      go_wp2_with (first | (at_builtin; refine wpList_append_lies _ rfl _ _ 30 rfl w.heap.size 42 i0 (.agg #[.int .i64 0, .int .i64 0]) 2 16 Try.underlying30 hi hz0 hz1 hz2 rfl (by decide) (.slice au ul cu) ul _ rfl (HP.out.alloc _) ⟨wr.heap.size, 0, none⟩ 1 1 [.int .i64 k', .int .i64 v'] rfl rfl (two_new wr _ _ 42) (by simp [Value.oneCell']) (by omega) (by unfold maxLen; omega) (by omega) (by simp; omega) _ rfl ?_; intro g2 cap2 w6 hown6 hgrow6 hat6 hlt6) | fail)
                      have hN : PrsB w.heap.size w6 (.slice (some ⟨g2, 0, none⟩) (ul + 1) cap2) (us ++ [(k', v')]) := by
                        unfold PrsB
                        rw [List.length_append, ← HUL.out, pcs_append]
                        exact hown6
                      have HNew : Hid (OrdAt2 w b w6 (S.del k) (.slice (some ⟨rb, 0, none⟩) rn cw) S.rows (.slice (some ⟨g2, 0, none⟩) (ul + 1) cap2) (us ++ [(k', v')])) := by
                        refine (HO5.out.below (bSelf wr (.cells #[.int .i64 k', .int .i64 v'] 42))).want hgrow6 hN ?_
                        rcases hat6 with h1 | h1
                        · exact .inl h1
                        · exact .inr ⟨g2, rfl, by rw [h1]; exact Nat.le_refl _⟩
                      have HL2 : Hid ((us ++ [(k', v')]).length = ul + 1) := by show _ = _; rw [List.length_append, ← HUL.out]; rfl
                      clear hown6 hgrow6 hat6 hlt6 hN
                      go_wp2_with fail
                      go_roundw
                      case rel => exact ⟨q + 1, some ⟨g2, 0, none⟩, cap2, by omega, by go_num, by rw [HF2.out, HL2.out], by rw [HF2.out, HL2.out]; exact HNew⟩
                      case measure => simp [intOf]; omega
                  · have hqr' : ¬ ((q : Int) < rn) := by omega
                    have e : (S.rows.take q).filter (fun r => !decide (r.1 = (k : Int))) = (S.del k).rows := by
                      have e : q = S.rows.length := by rw [← HRN.out]; omega
                      rw [e, List.take_length, ← HRD.out]
                    rw [e] at HO5 ⊢
                    have HNew : Hid (OrdI (j + 1) (S.del k) ∧ OrdAt w b wr (S.del k) (.slice au (S.del k).rows.length cu) (S.del k).rows) := ⟨HNx.out, HO5.out.one⟩
                    clear c0 c1 c2 e
                    go_wp2_with fail
                    go_roundw
                    case rel => exact ⟨j + 1, S.del k, au, cu, by omega, by omega, by go_num, rfl, HNew⟩
                    case measure => simp [intOf]; omega
            · have em' : (bits .and .i64 d 3 == 0) = false := by rw [em]; exact beq_eq_false_iff_ne.2 (by omega)
              have em'' : ¬ (bits .and .i64 d 3 = 0) := by rw [em]; omega
              clear em hm hm0
              obtain ⟨F, hT, hFn, hback⟩ := HO2.out.call
              have C21 := Lib.hid (t21 F b S wr hT hFn HKW.out x (by have := HIc.out.pt; omega))
              rw [allE_one HIc.out.fz HIc.out.st (by have := HIc.out.len; omega), all_one HIc.out.fz HIc.out.st (by have := HIc.out.len; omega)] at C21
              have HBK := Lib.hid hback
              clear hT hFn hback
              go_wp2_with fail
              refine C21.out.mono ?_
              rintro e w4 ⟨rfl, hT4, hU4⟩
              have HO4 : Hid (OrdAt w b w4 (S.set k x) (.slice aw rn cw) ((S.rows.take 0).map (updR k x) ++ S.rows.drop 0)) := HBK.out _ _ hT4 hU4
              clear hT4 hU4 C21 HBK
              have HNx := Lib.hid (HIc.out.put k x)
              have HRS := Lib.hid (rows_set HOk.out HKW.out x)
              obtain ⟨hs, hhs⟩ : ∃ hs, hs = S.has k := ⟨_, rfl⟩
              rw [← hhs] at HRS ⊢
              clear hhs HQ
              go_wp2_with fail
              go_loopw [10] (fun i w5 => ∃ q : Nat, q ≤ rn ∧ i = .int .i64 q ∧ Hid (OrdAt w b w5 (S.set k x) (.slice aw rn cw) ((S.rows.take q).map (updR k x) ++ S.rows.drop q))) (fun i _ => rn - (intOf i).toNat)
              case atStart => exact ⟨0, Nat.zero_le _, rfl, HO4⟩
              case round =>
                obtain ⟨q, hq, rfl, HO5⟩ := hrel
                clear HO4
                by_cases hqr : q < rn
                · obtain ⟨k', v', hg⟩ : ∃ k' v', S.rows[q]? = some (k', v') := ⟨_, _, List.getElem?_eq_getElem (by rw [← HRN.out]; exact hqr)⟩
                  obtain ⟨rb, rfl, e0, e1⟩ := HO5.out.at q k' v' (put_step (k := (k : Int)) (x := x) hg).2
                  have hfr := rows_free HO5.out.prs (q * 2 + 1)
                  obtain ⟨db', off', hx, hdb', d0, d1, d2⟩ := HD.out.below HO5.out.bw j d a x HG.out
                  obtain ⟨rfl, rfl⟩ : db = db' ∧ off = off' := by cases hx; exact ⟨rfl, rfl⟩
                  have hqr' : (q : Int) < rn := by omega
                  have HGq := Lib.hid hg
                  clear hx hg
                  by_cases he : k' = (k : Int)
                  · subst he
                    have hne : db ≠ rb := by
                      have h1 := (HO5.out.prs.base (g := rb) rfl).1
                      omega
                    have hN : Hid (OrdAt w b (World.drew (World.setCell wr ⟨rb, q * 2 + 1, none⟩ (.int .i64 x))) (S.set k x) (.slice (some ⟨rb, 0, none⟩) rn cw) ((S.rows.take (q + 1)).map (updR k x) ++ S.rows.drop (q + 1))) := by
                      have h1 := put_step (k := (k : Int)) (x := x) HGq.out
                      have h2 : updR (k : Int) x ((k : Int), v') = ((k : Int), x) := by simp [updR]
                      rw [h2] at h1
                      rw [← h1.1]
                      exact (HO5.out.want (grow_set _ rb (q * 2 + 1) (.int .i64 x)) (HO5.out.prs.set q k v' x h1.2) (.inl rfl)).below (Below.refl _ _).drew
                    go_wp2_with fail
                    go_region
                    all_goals go_wp2_with fail
                    all_goals go_roundw
                    case rel => exact ⟨q + 1, by omega, by go_num, hN⟩
                    case measure => simp [intOf]; omega
                  · have hbe : (k' == (k : Int)) = false := by simpa using he
                    have HN : Hid (OrdAt w b wr (S.set k x) (.slice (some ⟨rb, 0, none⟩) rn cw) ((S.rows.take (q + 1)).map (updR k x) ++ S.rows.drop (q + 1))) := by
                      rw [← put_same HGq.out he]; exact HO5.out
                    go_wp2_with fail
                    go_roundw
                    case rel => exact ⟨q + 1, by omega, by go_num, HN⟩
                    case measure => simp [intOf]; omega
                · have hqr' : ¬ ((q : Int) < rn) := by omega
                  have HO6 : Hid (OrdAt w b wr (S.set k x) (.slice aw rn cw) (S.rows.map (updR k x))) := by
                    have h1 := HO5.out
                    have e : q = S.rows.length := by rw [← HRN.out]; omega
                    rw [e, List.take_length, List.drop_length, List.append_nil] at h1
                    exact h1
                  clear HO5
                  obtain ⟨db', off', hx, hdb', d0, d1, d2⟩ := HD.out.below HO6.out.bw j d a x HG.out
                  obtain ⟨rfl, rfl⟩ : db = db' ∧ off = off' := by cases hx; exact ⟨rfl, rfl⟩
                  clear hx
                  cases hs with
                  | true =>
                    have HR2 : Hid ((S.set k x).rows = S.rows.map (updR k x)) := by show _ = _; rw [HRS.out]; simp
                    have HL : Hid (rn = (S.set k x).rows.length) := by show _ = _; rw [HR2.out, List.length_map]; exact HRN.out
                    have HNew : Hid (OrdI (j + 1) (S.set k x) ∧ OrdAt w b wr (S.set k x) (.slice aw (S.set k x).rows.length cw) (S.set k x).rows) := ⟨HNx.out, by rw [← HL.out, HR2.out]; exact HO6.out⟩
                    clear d0 d1 d2 c0 c1 c2
                    go_wp2_with fail
                    go_roundw
                    case rel => exact ⟨j + 1, S.set k x, aw, cw, by omega, by omega, by go_num, by rw [← HL.out], HNew⟩
                    case measure => simp [intOf]; omega
                  | false =>
                    have HR2 : Hid ((S.set k x).rows = S.rows.map (updR k x) ++ [((k : Int), x)]) := by show _ = _; rw [HRS.out]; rfl
                    have HL : Hid (rn + 1 = (S.set k x).rows.length) := by show _ = _; rw [HR2.out, List.length_append, List.length_map, ← HRN.out]; rfl
                    have hP := HO6.out.prs
                    have hbw := HO6.out.bw.size
                    unfold PrsB at hP
                    rw [List.length_map, ← HRN.out] at hP
                    have HP := Lib.hid hP
                    clear hP d0 d1 c0 c1 c2
                    go_wp2_with (first | (at_builtin; refine wpList_append_lies _ rfl _ _ 30 rfl w.heap.size 42 i0 (.agg #[.int .i64 0, .int .i64 0]) 2 16 Try.underlying30 hi hz0 hz1 hz2 rfl (by decide) (.slice aw rn cw) rn _ rfl (HP.out.alloc _) ⟨wr.heap.size, 0, none⟩ 1 1 [.int .i64 k, .int .i64 x] rfl rfl (two_new wr _ _ 42) (by simp [Value.oneCell']) (by omega) (by unfold maxLen; omega) (by omega) (by simp; omega) _ rfl ?_; intro g2 cap2 w6 hown6 hgrow6 hat6 hlt6) | fail)
                    have hN : PrsB w.heap.size w6 (.slice (some ⟨g2, 0, none⟩) (rn + 1) cap2) (S.set k x).rows := by
                      unfold PrsB
                      rw [← HL.out, HR2.out, pcs_append]
                      exact hown6
                    have HNew : Hid (OrdI (j + 1) (S.set k x) ∧ OrdAt w b w6 (S.set k x) (.slice (some ⟨g2, 0, none⟩) (S.set k x).rows.length cap2) (S.set k x).rows) := by
                      refine ⟨HNx.out, ?_⟩
                      rw [← HL.out]
                      refine (HO6.out.below (bSelf wr (.cells #[.int .i64 k, .int .i64 x] 42))).want hgrow6 hN ?_
                      rcases hat6 with h1 | h1
                      · exact .inl h1
                      · exact .inr ⟨g2, rfl, by rw [h1]; exact Nat.le_refl _⟩
                    clear hown6 hgrow6 hat6 hlt6 hN d2
                    go_wp2_with fail
                    go_roundw
                    case rel => exact ⟨j + 1, S.set k x, some ⟨g2, 0, none⟩, cap2, by omega, by omega, by go_num, by rw [← HL.out], HNew⟩
                    case measure => simp [intOf]; omega
      · have h3' : ¬ ((j : Int) < 300) := by omega
        have hlt' : (j : Int) < ds.length := by omega
        have HX := HI.out
        obtain ⟨_, hO⟩ := HX
        have HA := Lib.hid hO.at
        have HBw := Lib.hid hO.bw
        obtain ⟨G, ⟨hOk, m0, m1, kv, hW⟩, _⟩ := hO
        have C23 := Lib.hid (t23 wr hOk hW)
        have hrl2 : S.rows.length ≤ 9223372036854775807 := by omega
        clear hOk hW HI
        go_wp2_with fail
        refine C23.out.mono ?_
        rintro e w2 ⟨v2, rfl, hP2, hb2, _⟩
        obtain ⟨a2, c2', rfl, hR2, _⟩ := hP2.read
        have C19 := Lib.hid (t19 w2 a2 aw c2' cw S.rows S.rows hR2 (HA.out.below hb2) hrl2)
        have HB2 := Lib.hid (bThen HBw.out hb2)
        rw [decide_eq_true rfl] at C19
        clear hP2 hR2 hb2
        go_wp2_with fail
        refine C19.out.mono ?_
        rintro e w3 ⟨rfl, hb3⟩
        have HB3 := Lib.hid (bThen HB2.out hb3)
        clear hb3
        go_wp2_with (go_at_call 15; refine (t15 _).mono ?_; rintro e w9 ⟨rfl, hb9⟩; have H9 := Lib.hid hb9; clear hb9)
        go_ret
        exact ⟨rfl, bThen HB3.out H9.out⟩
    · have hlt' : ¬ ((j : Int) < ds.length) := by omega
      have HX := HI.out
      obtain ⟨_, hO⟩ := HX
      have HA := Lib.hid hO.at
      have HBw := Lib.hid hO.bw
      obtain ⟨G, ⟨hOk, m0, m1, kv, hW⟩, _⟩ := hO
      have C23 := Lib.hid (t23 wr hOk hW)
      have hrl2 : S.rows.length ≤ 9223372036854775807 := by omega
      clear hOk hW HI
      go_wp2_with fail
      refine C23.out.mono ?_
      rintro e w2 ⟨v2, rfl, hP2, hb2, _⟩
      obtain ⟨a2, c2', rfl, hR2, _⟩ := hP2.read
      have C19 := Lib.hid (t19 w2 a2 aw c2' cw S.rows S.rows hR2 (HA.out.below hb2) hrl2)
      have HB2 := Lib.hid (bThen HBw.out hb2)
      rw [decide_eq_true rfl] at C19
      clear hP2 hR2 hb2
      go_wp2_with fail
      refine C19.out.mono ?_
      rintro e w3 ⟨rfl, hb3⟩
      have HB3 := Lib.hid (bThen HB2.out hb3)
      clear hb3
      go_wp2_with (go_at_call 15; refine (t15 _).mono ?_; rintro e w9 ⟨rfl, hb9⟩; have H9 := Lib.hid hb9; clear hb9)
      go_ret
      exact ⟨rfl, bThen HB3.out H9.out⟩
end Go.Proofs.Ytagejkolgicecaa
