/- Contract of the reference's Made. -/
import Derived.Lib.ItoaLen
import Derived.Test.YtifhiefdhhmdeaaGreatDoorZG
import Derived.Test.YtifhiefdhhmdeaaGreatDoorZF
namespace Go.Proofs.YtifhiefdhhmdeaaGreatDoor
open Go Go.RowKit

/-- A slice of ints, as it reads. -/
def IntsRead (w : World) (v : Value) (xs : List Int) : Prop :=
  ∃ ao cap, v = .slice ao xs.length cap ∧ (∀ k (h : k < xs.length), ∃ g off, ao = some ⟨g, off, none⟩ ∧ g < w.heap.size ∧ w.cell? ⟨g, off + k, none⟩ = some (.int .i64 xs[k]))
theorem IntsRead.below {w w' : World} {v : Value} {xs : List Int} (h : IntsRead w v xs) (hb : Below w.heap.size w w') : IntsRead w' v xs := by
  obtain ⟨ao, cap, hv, hc⟩ := h
  refine ⟨ao, cap, hv, fun k hk => ?_⟩
  obtain ⟨g, off, ha, hg, h1⟩ := hc k hk
  exact ⟨g, off, ha, Nat.lt_of_lt_of_le hg hb.size, (hb.cell (p := ⟨g, off + k, none⟩) hg).trans h1⟩
def InInt (x : Int) : Prop := -9223372036854775808 ≤ x ∧ x ≤ 9223372036854775807
/-- Go's table of powers of ten stands -/
def TabOk (w : World) : Prop := ∀ w', Below w.heap.size w w' → Lib.TabIs Tryz.prog w' "internal/strconv.uint64pow10" .u64 Lib.pow10Tab
theorem TabOk.on {w w' : World} (h : TabOk w) (hb : Below w.heap.size w w') : TabOk w' := fun w2 h2 => h w2 (hb.trans (h2.mono hb.size))
theorem below_itoa (w : World) (k : Nat) (os : Array Obj) : Below w.heap.size w (Sort.grow (w.drewN k) os) :=
  ⟨rfl, rfl, rfl, by show w.heap.size ≤ (w.heap ++ os).size; rw [Array.size_append]; omega, fun j hj => by show (w.heap ++ os)[j]? = _; rw [Array.getElem?_append_left hj]⟩
theorem t50 (x : Int) (w : World) (hx : InInt x) (hT : TabOk w) : Calls Tryz.prog 50 #[.int .i64 x] w (TxtR (Lib.itoa x) w) :=
  (Tryz.strconv_Itoa x hx.1 hx.2 w (hT w (Below.refl _ _))).mono fun e w' ⟨h1, k, os, h2⟩ => ⟨h1, by rw [h2]; exact below_itoa w k os⟩

set_option maxRecDepth 100000 in
set_option maxHeartbeats 4000000 in
theorem t16 (v : Value) (xs : List Int) (n : Nat) (w : World) (hv : IntsRead w v xs) (hx : ∀ x ∈ xs, InInt x) (hT : TabOk w) (hl : xs.length ≤ 9223372036854775807) (hn : n ≤ 1000) :
    Calls Tryz.prog 16 #[v, .int .i64 n] w (TxtR (madeL n xs) w) := by
  obtain ⟨ao, cap, rfl, hc⟩ := hv
  have HC := Lib.hid hc
  have HX := Lib.hid hx
  have HT := Lib.hid hT
  clear hc hx hT
  go_enter Tryz.func16, Tryz.ntmps16
  go_wp2
  go_loopw [6, 5] (fun i v wr => ∃ (k : Nat) (bs : List UInt8), k ≤ xs.length ∧ i = .int .i64 k ∧ Hid (wr.ownsRow w.heap.size 5 1 v bs.length (c8 bs)) ∧ Hid ((xs.drop k).foldl (addI n) bs = madeB n xs) ∧ bs.length ≤ n ∧ Below w.heap.size w wr) (fun i _ _ => xs.length - (intOf i).toNat)
  case atStart => exact ⟨0, [], by omega, rfl, World.ownsRow_nil _ _ _ _, rfl, by simp, Below.refl _ _⟩
  case round =>
    obtain ⟨k, bs, hk, rfl, hrow, hfold, hbn, hbl⟩ := hrel
    obtain ⟨wo, rfl⟩ : ∃ wo : World, wo = wr := ⟨_, rfl⟩
    by_cases hgo : k < xs.length ∧ bs.length < n
    · obtain ⟨hlt, hbn2⟩ := hgo
      obtain ⟨g, off, rfl, hg, hcell⟩ := HC.out k hlt
      have hcell2 : wo.cell? ⟨g, off + k, none⟩ = some (.int .i64 xs[k]) := (hbl.cell (p := ⟨g, off + k, none⟩) hg).trans hcell
      have hdrop := List.drop_eq_getElem_cons hlt
      have hf2 := hfold.out
      rw [hdrop, List.foldl_cons] at hf2
      have hxk := HX.out xs[k] (List.getElem_mem hlt)
      generalize xs[k] = x at *
      have c := t50 x wo hxk (HT.out.on hbl)
      have hlen := Lib.itoa_length_le x hxk.1 hxk.2
      unfold addI at hf2
      unfold TxtR at c
      obtain ⟨sb, hsb⟩ : ∃ sb : ByteArray, sb = ⟨(Lib.itoa x).toArray⟩ := ⟨_, rfl⟩
      rw [← hsb] at c
      have hsl : sb.data.toList = Lib.itoa x := by rw [hsb]
      rw [← hsl] at hf2 hlen
      have hss : sb.size ≤ 21 := hlen
      have HF := Lib.hid hf2
      have C := Lib.hid c
      obtain ⟨p, cp, hu⟩ : ∃ p cp, u5 = .slice p bs.length cp := by
        rcases row_cases hrow.out with ⟨_, h2 | ⟨g', cs, h2, _⟩⟩
        · exact ⟨none, 0, by rw [h2.1, h2.2.1]⟩
        · exact ⟨_, _, h2⟩
      subst hu
      clear hdrop hf2 hcell hxk hlen c hsb hsl
      go_wp2_with fail
      refine C.out.mono ?_
      rintro e w2 ⟨rfl, hb2⟩
      have hB2 := hbl.trans (hb2.mono hbl.size)
      have hrow2 := Lib.hid (ownsRow_below hrow.out hb2)
      clear hb2
      go_wp2_with fail
      go_loopw [8, 5] (fun i v wr => ∃ (j : Nat) (ys : List UInt8), j ≤ sb.size ∧ i = .int .i64 j ∧ Hid (wr.ownsRow w.heap.size 5 1 v ys.length (c8 ys)) ∧ Hid (addS n ys (sb.data.toList.drop j) = addS n bs sb.data.toList) ∧ ys.length ≤ n ∧ Below w.heap.size w wr) (fun i _ _ => sb.size - (intOf i).toNat)
      case atStart => exact ⟨0, bs, by omega, rfl, hrow2, rfl, hbn, hB2⟩
      case round =>
        obtain ⟨j, ys, hj, rfl, hrow3, hadd, hyn, hbl3⟩ := hrel
        have hbs3 := hbl3.size
        obtain ⟨p3, cp3, hu3⟩ : ∃ p cp, u5 = .slice p ys.length cp := by
          rcases row_cases hrow3.out with ⟨_, h2 | ⟨g', cs, h2, _⟩⟩
          · exact ⟨none, 0, by rw [h2.1, h2.2.1]⟩
          · exact ⟨_, _, h2⟩
        subst hu3
        by_cases hgo2 : j < sb.size ∧ ys.length < n
        · obtain ⟨hj2, hyn2⟩ := hgo2
          have hstep : addS n (addC n ys sb[j]) (sb.data.toList.drop (j + 1)) = addS n bs sb.data.toList := by
            have h9 := hadd.out
            rw [List.drop_eq_getElem_cons (show j < sb.data.toList.length from hj2)] at h9
            exact h9
          have HSTEP := Lib.hid hstep
          clear hstep
          have hc1 := sb[j].toNat_lt
          by_cases hm : sb[j] = 45
          · have hmi : (sb[j].toNat : Int) = 45 := by rw [hm]; rfl
            have HADD : Hid (addS n (ys) (sb.data.toList.drop (j + 1)) = addS n bs sb.data.toList) := by
              have h9 := HSTEP.out
              rw [addC, if_neg (fun h => h.2.1 hm)] at h9
              exact h9
            clear hm
            go_wp2
            go_roundw
            case rel => exact ⟨j + 1, ys, by omega, by go_num, hrow3, HADD.out, hyn, hbl3⟩
            case measure => first | (simp [intOf]; omega) | simp [intOf]
          · have hmi : ¬ (sb[j].toNat : Int) = 45 := fun h => hm (UInt8.toNat_inj.1 (by simp; omega))
            by_cases hy0 : ys = []
            · subst hy0
              have hrow0 : Hid (wr.ownsRow w.heap.size 5 1 (.slice p3 0 cp3) 0 (c8 [])) := hrow3
              by_cases hz : sb[j] = 48
              · have hzi : (sb[j].toNat : Int) = 48 := by rw [hz]; rfl
                have HADD : Hid (addS n [] (sb.data.toList.drop (j + 1)) = addS n bs sb.data.toList) := by
                  have h9 := HSTEP.out
                  rw [addC, if_neg (fun h => by rcases h.2.2 with h8 | h8; exact h8 rfl; exact h8 hz)] at h9
                  exact h9
                clear hm hz hrow3 hyn
                go_wp2
                go_roundw
                case rel => exact ⟨j + 1, [], by omega, by go_num, hrow0, HADD.out, by simp, hbl3⟩
                case measure => first | (simp [intOf]; omega) | simp [intOf]
              · have hzi : ¬ (sb[j].toNat : Int) = 48 := fun h => hz (UInt8.toNat_inj.1 (by simp; omega))
                have HADD : Hid (addS n [sb[j]] (sb.data.toList.drop (j + 1)) = addS n bs sb.data.toList) := by
                  have h9 := HSTEP.out
                  rw [addC, if_pos ⟨hyn2, hm, .inr hz⟩] at h9
                  exact h9
                have hn1 : 1 ≤ n := by simp at hyn2; omega
                have hm2 : ((sb[j].toNat : Int) != 45) = true := by simp; omega
                have hz2 : ((sb[j].toNat : Int) != 48) = true := by simp; omega
                clear hm hz hrow3 hyn
                go_wp2_with (at_builtin; refine app8 rfl _ _ rfl w.heap.size _ _ [] rfl (hrow0.out.alloc _) wr.heap.size 1 sb[j] rfl ((Blk.new wr _ 5).cell 0 rfl) (by omega) (Nat.le_trans hbs3 (by simp)) ?_; intro v' w4 hown' hgrow)
                have hb4 : Below w.heap.size w w4 := (hbl3.alloc hbs3 _).grown hgrow.out (Nat.le_trans hbs3 (by simp)) (fun q hq => (hrow0.out.lt q hq).1)
                go_wp2
                go_roundw
                case rel => exact ⟨j + 1, [sb[j]], by omega, by go_num, hown', HADD.out, by simpa using hn1, hb4⟩
                case measure => first | (simp [intOf]; omega) | simp [intOf]
            · have hyl : 0 < ys.length := List.length_pos_iff.2 hy0
              have hyz : (0 : Int) < ys.length := by omega
              have HADD : Hid (addS n (ys ++ [sb[j]]) (sb.data.toList.drop (j + 1)) = addS n bs sb.data.toList) := by
                have h9 := HSTEP.out
                rw [addC, if_pos (⟨hyn2, hm, .inl hy0⟩)] at h9
                exact h9
              clear hm hy0
              go_wp2_with (at_builtin; refine app8 rfl _ _ rfl w.heap.size _ _ ys rfl (hrow3.out.alloc _) wr.heap.size 1 sb[j] rfl ((Blk.new wr _ 5).cell 0 rfl) (by omega) (Nat.le_trans hbs3 (by simp)) ?_; intro v' w4 hown' hgrow)
              have hb4 : Below w.heap.size w w4 := (hbl3.alloc hbs3 _).grown hgrow.out (Nat.le_trans hbs3 (by simp)) (fun q hq => (hrow3.out.lt q hq).1)
              go_wp2
              go_roundw
              case rel => exact ⟨j + 1, ys ++ [sb[j]], by omega, by go_num, by show World.ownsRow _ _ _ _ _ _ _; rw [List.length_append]; exact hown'.out, HADD.out, by rw [List.length_append]; simp; omega, hb4⟩
              case measure => first | (simp [intOf]; omega) | simp [intOf]
        · have hend : Hid ((xs.drop (k + 1)).foldl (addI n) ys = madeB n xs) := by
            show _ = _
            have h9 := HF.out
            rw [← hadd.out] at h9
            rcases Nat.lt_or_ge ys.length n with h8 | h8
            · rw [List.drop_of_length_le (show sb.data.toList.length ≤ j from by have : sb.data.toList.length = sb.size := rfl; omega)] at h9
              exact h9
            · rw [addS_full h8] at h9
              exact h9
          by_cases hj2 : j < sb.size
          · have hyn2 : (n : Int) ≤ ys.length := by omega
            clear hgo2
            go_wp2
            go_roundw
            case rel => exact ⟨k + 1, ys, by omega, by go_num, hrow3, hend, hyn, hbl3⟩
            case measure => first | (simp [intOf]; omega) | simp [intOf]
          · clear hgo2
            go_wp2
            go_roundw
            case rel => exact ⟨k + 1, ys, by omega, by go_num, hrow3, hend, hyn, hbl3⟩
            case measure => first | (simp [intOf]; omega) | simp [intOf]
    · have hend : Hid (madeB n xs = bs) := by
        show _ = _
        rw [← hfold.out]
        rcases Nat.lt_or_ge k xs.length with h8 | h8
        · exact addI_full (by omega) _
        · rw [List.drop_of_length_le h8]; rfl
      obtain ⟨p3, cp3, hu3⟩ : ∃ p cp, u5 = .slice p bs.length cp := by
        rcases row_cases hrow.out with ⟨_, h2 | ⟨g', cs, h2, _⟩⟩
        · exact ⟨none, 0, by rw [h2.1, h2.2.1]⟩
        · exact ⟨_, _, h2⟩
      subst hu3
      have hcv := conv_row wo w.heap.size (.slice p3 bs.length cp3) bs hrow.out
      have HG := Lib.hid (good_made n xs)
      by_cases hb0 : bs = []
      · subst hb0
        have hr : Hid (madeL n xs = [48]) := by show _ = _; unfold madeL; rw [if_pos hend.out]
        clear hcv
        by_cases hlt : k < xs.length
        · have hn0 : (n : Int) ≤ 0 := by simp at hgo; omega
          clear hgo
          go_wp2
          go_ret
          exact ⟨by rw [hr.out]; rfl, hbl⟩
        · clear hgo
          go_wp2
          go_ret
          exact ⟨by rw [hr.out]; rfl, hbl⟩
      · have hbl0 : 0 < bs.length := List.length_pos_iff.2 hb0
        have hbi : (0 : Int) < bs.length := by omega
        have hx0 : 0 < xs.length := by
          rcases Nat.eq_zero_or_pos xs.length with h | h
          · exfalso
            apply hb0
            rw [← hend.out, List.length_eq_zero_iff.1 h]; rfl
          · exact h
        obtain ⟨g, off, rfl, hg, hcell⟩ := HC.out 0 hx0
        have hcell2 : wo.cell? ⟨g, off, none⟩ = some (.int .i64 xs[0]) := (hbl.cell (p := ⟨g, off + 0, none⟩) hg).trans hcell
        have hx0i : (0 : Int) < xs.length := by omega
        have hhd : xs.headD 0 = xs[0] := by
          cases xs with
          | nil => simp at hx0
          | cons y l => rfl
        have hr : Hid (madeL n xs = if xs[0] < 0 then 45 :: bs else bs) := by show _ = _; unfold madeL; rw [hend.out, if_neg hb0, hhd]
        have hlen2 : bs.length ≤ 1000 := by omega
        have HGO := Lib.hid hgo
        clear hcell hhd hb0 hgo
        generalize xs[0] = x0 at *
        by_cases hneg : x0 < 0
        · have hr2 : Hid (madeL n xs = 45 :: bs) := by show _ = _; rw [hr.out, if_pos hneg]
          by_cases hlt : k < xs.length
          · have hn0 : (n : Int) ≤ bs.length := by have := HGO.out; omega
            go_wp2
            go_ret
            exact ⟨by rw [hr2.out, ← cons_bytes]; rfl, hbl⟩
          · go_wp2
            go_ret
            exact ⟨by rw [hr2.out, ← cons_bytes]; rfl, hbl⟩
        · have hr2 : Hid (madeL n xs = bs) := by show _ = _; rw [hr.out, if_neg hneg]
          by_cases hlt : k < xs.length
          · have hn0 : (n : Int) ≤ bs.length := by have := HGO.out; omega
            go_wp2
            go_ret
            exact ⟨by rw [hr2.out]; rfl, hbl⟩
          · go_wp2
            go_ret
            exact ⟨by rw [hr2.out]; rfl, hbl⟩
end Go.Proofs.YtifhiefdhhmdeaaGreatDoor
