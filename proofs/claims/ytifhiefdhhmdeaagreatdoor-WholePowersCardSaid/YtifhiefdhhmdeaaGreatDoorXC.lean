/- The reference's Show, told, all, Read, Add, Sub, Mul, Compare; the laws' long and sums. -/
import Derived.Test.YtifhiefdhhmdeaaGreatDoorXB
import Derived.Test.YtifhiefdhhmdeaaGreatDoorZA
import Derived.Test.YtifhiefdhhmdeaaGreatDoorZB
import Derived.Test.YtifhiefdhhmdeaaGreatDoorZC
import Derived.Test.YtifhiefdhhmdeaaGreatDoorZN
import Derived.Deep.AppendLies
import Derived.Deep.RegionLaw
namespace Go.Proofs.YtifhiefdhhmdeaaGreatDoor
open Go Go.RowKit

theorem txtZ_pos (z : Int) (h : z.natAbs ≠ 0) : txtZ 10 z = (if z < 0 then [45] else []) ++ (dgs 10 z.natAbs).reverse.map chr := by
  unfold txtZ txt
  rw [if_neg h]
  split <;> rfl
set_option maxRecDepth 100000 in
set_option maxHeartbeats 2000000 in
theorem t118 (z : Int) (b : Bool) (va : Value) (w : World) (hb : b = decide (z < 0)) (hA : Dg w va z.natAbs) (hl : Ld z.natAbs ≤ 100000) :
    Calls Tryz.prog 118 #[.agg #[.bool b, va]] w (TxtR (txtZ 10 z) w) := by
  obtain ⟨p, ca, rfl, a1, a2, hA1⟩ := hA.cells
  unfold maxLen at a2
  have HBW : Hid (Below w.heap.size w (w.alloc (.cells #[.bool b, .slice p (Ld z.natAbs) ca] 73))) := bSelf0 w _
  have hkb := Blk.new w #[.bool b, .slice p (Ld z.natAbs) ca] 73
  have HA := Lib.hid hA1
  have HAL : Hid ((dgs 10 z.natAbs).length = Ld z.natAbs) := rfl
  by_cases h0 : z.natAbs = 0
  · obtain rfl : z = 0 := by omega
    rw [show Ld (0 : Int).natAbs = 0 from rfl] at *
    clear hA hb hA1
    go_enter Tryz.func118, Tryz.ntmps118
    go_wp2_with fail
    go_ret
    exact ⟨rfl, HBW.out⟩
  · have hpos : (0 : Int) < Ld z.natAbs := by have := Ld_pos (show 0 < z.natAbs by omega); omega
    have hla0 : ((Ld z.natAbs : Int) == 0) = false := by rw [beq_eq_false_iff_ne]; omega
    have htx := txtZ_pos z h0
    have h10 := hkb.cell 0 rfl
    have HK : Hid ((w.alloc (.cells #[.bool b, .slice p (Ld z.natAbs) ca] 73)).cell? ⟨w.heap.size, 1, none⟩ = some (.slice p (Ld z.natAbs) ca)) := hkb.cell 1 rfl
    have h11 := HK.out
    cases b with
    | false =>
      have HTX : Hid (([] : List UInt8) ++ (dgs 10 z.natAbs).reverse.map chr = txtZ 10 z) := by show _ = _; rw [htx, if_neg (by simpa using hb.symm)]
      clear hA hb hA1 htx h0 hkb
      generalize Ld z.natAbs = la at *
      go_enter Tryz.func118, Tryz.ntmps118
      go_upto_region 4 with fail
      generalize w.alloc (.cells #[.bool false, .slice p la ca] 73) = W at *
      go_wp2_with fail
      go_loopw [3, 4] (fun u i wr => ∃ (k : Nat) (ys : List UInt8), k ≤ la ∧ i = .int .i64 ((k : Int) - 1) ∧ ys.length ≤ 200000 ∧ ys.length + k ≤ 200000 ∧ Hid (ys = [] ++ (((dgs 10 z.natAbs).drop k).reverse.map chr)) ∧ Hid (wr.ownsRow W.heap.size 5 1 u ys.length (c8 ys)) ∧ Below W.heap.size W wr) (fun _ i _ => (intOf i + 1).toNat)
      case atStart => exact ⟨la, [], Nat.le_refl _, rfl, by simp, by simp; omega, by show _ = _; rw [List.drop_of_length_le (by rw [HAL.out]; omega)]; simp, World.ownsRow_nil _ _ _ _, Below.refl _ _⟩
      case round =>
        obtain ⟨k, ys, hk, rfl, hyl, hylk, hys, hrow, hbl⟩ := hrel
        obtain ⟨pu, cu, rfl⟩ := row_form hrow.out
        have hbW := HBW.out.trans (hbl.mono HBW.out.size)
        by_cases h0 : k = 0
        · subst h0
          have hcv := conv_row wr W.heap.size _ ys (by simpa [Lib.byteCells] using hrow.out)
          have HYS : Hid (ys = txtZ 10 z) := by
            show _ = _
            rw [hys.out, List.drop_zero]
            exact HTX.out
          go_wp2_with fail
          go_ret
          exact ⟨by rw [HYS.out]; rfl, hbW⟩
        · obtain ⟨j, rfl⟩ : ∃ j, k = j + 1 := ⟨k - 1, by omega⟩
          have hja : j < (dgs 10 z.natAbs).length := by rw [HAL.out]; omega
          obtain ⟨ga, rfl, -, hca0⟩ := HA.out j _ (List.getElem?_eq_getElem hja)
          have hca : wr.cell? ⟨ga, j, none⟩ = some (.int .i64 ((dgs 10 z.natAbs)[j] : Nat)) := (hbW.cell (p := ⟨ga, j, none⟩) (World.block_lt_of_cell? w _ hca0)).trans hca0
          have hkc := below_cell hbl HK.out
          have hxl := dgs10_lt _ _ (List.getElem_mem hja)
          have hdr : (dgs 10 z.natAbs).drop j = (dgs 10 z.natAbs)[j] :: (dgs 10 z.natAbs).drop (j + 1) := List.drop_eq_getElem_cons hja
          generalize (dgs 10 z.natAbs)[j] = x at hca hxl hdr
          have HDR : Hid (ys ++ [chr x] = [] ++ (((dgs 10 z.natAbs).drop j).reverse.map chr)) := by show _ = _; rw [hys.out, hdr]; simp
          have hi0 : (0 : Int) ≤ j := by omega
          have hi1 : (j : Int) < la := by omega
          have hxc : Hid ((48 + (x : Int)) = ((chr x).toNat : Int)) := by show _ = _; rw [chr10n x hxl]; omega
          clear hdr h0 hca0
          go_wp2_with (at_builtin; refine app8 rfl _ _ rfl W.heap.size _ _ ys rfl (hrow.out.alloc _) wr.heap.size 1 (chr x) rfl (by rw [← hxc.out]; exact (Blk.new wr _ 5).cell 0 rfl) (by omega) (Nat.le_trans hbl.size (by simp)) ?_; intro v' w4 hown' hgrow)
          go_roundw
          case rel => exact ⟨j, ys ++ [chr x], by omega, by go_num, by simp; omega, by simp; omega, HDR, by show World.ownsRow _ _ _ _ _ _ _; rw [List.length_append]; exact hown'.out, (hbl.alloc hbl.size _).grown hgrow.out (Nat.le_trans hbl.size (by simp)) (fun q hq => row_own hrow.out hq)⟩
          case measure => first | (simp [intOf]; omega) | simp [intOf]
    | true =>
      have HTX : Hid ([45] ++ (dgs 10 z.natAbs).reverse.map chr = txtZ 10 z) := by show _ = _; rw [htx, if_pos (by simpa using hb.symm)]
      clear hA hb hA1 htx h0 hkb
      generalize Ld z.natAbs = la at *
      go_enter Tryz.func118, Tryz.ntmps118
      go_upto_region 4 with fail
      generalize w.alloc (.cells #[.bool true, .slice p la ca] 73) = W at *
      go_wp2_with (at_builtin; refine app8 rfl _ _ rfl W.heap.size (.slice none 0 0) _ [] rfl ((World.ownsRow_nil W W.heap.size 5 1).alloc _) W.heap.size 1 45 rfl ((Blk.new W _ 5).cell 0 rfl) (by omega) (by simp) ?_; intro v' w4 hown' hgrow; have hb4 : Below W.heap.size W w4 := ((Below.refl W.heap.size W).alloc (Nat.le_refl _) (.cells #[.int .u8 45] 5)).grown (show World.grownBy _ w4 none from hgrow.out) (by simp) (fun q hq => by cases hq); have h12 := below_cell hb4 h11)
      go_loopw [3, 4] (fun u i wr => ∃ (k : Nat) (ys : List UInt8), k ≤ la ∧ i = .int .i64 ((k : Int) - 1) ∧ ys.length ≤ 200000 ∧ ys.length + k ≤ 200000 ∧ Hid (ys = [45] ++ (((dgs 10 z.natAbs).drop k).reverse.map chr)) ∧ Hid (wr.ownsRow W.heap.size 5 1 u ys.length (c8 ys)) ∧ Below W.heap.size W wr) (fun _ i _ => (intOf i + 1).toNat)
      case atStart => exact ⟨la, [45], Nat.le_refl _, rfl, by simp, by simp; omega, by show _ = _; rw [List.drop_of_length_le (by rw [HAL.out]; omega)]; simp, by show World.ownsRow _ _ _ _ _ _ _; exact hown'.out, hb4⟩
      case round =>
        obtain ⟨k, ys, hk, rfl, hyl, hylk, hys, hrow, hbl⟩ := hrel
        obtain ⟨pu, cu, rfl⟩ := row_form hrow.out
        have hbW := HBW.out.trans (hbl.mono HBW.out.size)
        by_cases h0 : k = 0
        · subst h0
          have hcv := conv_row wr W.heap.size _ ys (by simpa [Lib.byteCells] using hrow.out)
          have HYS : Hid (ys = txtZ 10 z) := by
            show _ = _
            rw [hys.out, List.drop_zero]
            exact HTX.out
          go_wp2_with fail
          go_ret
          exact ⟨by rw [HYS.out]; rfl, hbW⟩
        · obtain ⟨j, rfl⟩ : ∃ j, k = j + 1 := ⟨k - 1, by omega⟩
          have hja : j < (dgs 10 z.natAbs).length := by rw [HAL.out]; omega
          obtain ⟨ga, rfl, -, hca0⟩ := HA.out j _ (List.getElem?_eq_getElem hja)
          have hca : wr.cell? ⟨ga, j, none⟩ = some (.int .i64 ((dgs 10 z.natAbs)[j] : Nat)) := (hbW.cell (p := ⟨ga, j, none⟩) (World.block_lt_of_cell? w _ hca0)).trans hca0
          have hkc := below_cell hbl HK.out
          have hxl := dgs10_lt _ _ (List.getElem_mem hja)
          have hdr : (dgs 10 z.natAbs).drop j = (dgs 10 z.natAbs)[j] :: (dgs 10 z.natAbs).drop (j + 1) := List.drop_eq_getElem_cons hja
          generalize (dgs 10 z.natAbs)[j] = x at hca hxl hdr
          have HDR : Hid (ys ++ [chr x] = [45] ++ (((dgs 10 z.natAbs).drop j).reverse.map chr)) := by show _ = _; rw [hys.out, hdr]; simp
          have hi0 : (0 : Int) ≤ j := by omega
          have hi1 : (j : Int) < la := by omega
          have hxc : Hid ((48 + (x : Int)) = ((chr x).toNat : Int)) := by show _ = _; rw [chr10n x hxl]; omega
          clear hdr h0 hca0
          go_wp2_with (at_builtin; refine app8 rfl _ _ rfl W.heap.size _ _ ys rfl (hrow.out.alloc _) wr.heap.size 1 (chr x) rfl (by rw [← hxc.out]; exact (Blk.new wr _ 5).cell 0 rfl) (by omega) (Nat.le_trans hbl.size (by simp)) ?_; intro v' w4 hown' hgrow)
          go_roundw
          case rel => exact ⟨j, ys ++ [chr x], by omega, by go_num, by simp; omega, by simp; omega, HDR, by show World.ownsRow _ _ _ _ _ _ _; rw [List.length_append]; exact hown'.out, (hbl.alloc hbl.size _).grown hgrow.out (Nat.le_trans hbl.size (by simp)) (fun q hq => row_own hrow.out hq)⟩
          case measure => first | (simp [intOf]; omega) | simp [intOf]

set_option maxRecDepth 100000 in
set_option maxHeartbeats 1000000 in
theorem t62 (z : Int) (b : Bool) (va : Value) (w : World) (hb : b = decide (z < 0)) (hA : Dg w va z.natAbs) (hl : Ld z.natAbs ≤ 100000) :
    Calls Tryz.prog 62 #[.agg #[.bool b, va]] w (ToldR z w) := by
  have c := t118 z b va (w.alloc (.cells #[.bool b, va] 73)) hb (hA.below (bSelf0 w _)) hl
  obtain ⟨p, ca, rfl, -, -, -⟩ := hA.cells
  have C := Lib.hid c
  have HBW : Hid (Below w.heap.size w (w.alloc (.cells #[.bool b, .slice p (Ld z.natAbs) ca] 73))) := bSelf0 w _
  clear c hA hb
  by_cases hf : fits z
  · have hi : ¬ ((400 : Int) < Ld z.natAbs) := by have h1 : Ld z.natAbs ≤ 400 := hf; omega
    have HS : Hid (toldS z = ⟨(txtZ 10 z).toArray⟩) := if_pos hf
    have HE : Hid (toldE z = 0) := if_pos hf
    clear hf
    go_enter Tryz.func62, Tryz.ntmps62
    go_wp2_with fail
    refine C.out.mono ?_
    rintro e w1 ⟨rfl, hb1⟩
    go_wp2_with fail
    go_ret2
    exact ⟨by rw [HS.out, HE.out]; rfl, HBW.out.trans (hb1.mono HBW.out.size)⟩
  · have hi : (400 : Int) < Ld z.natAbs := by have h1 : ¬ (Ld z.natAbs ≤ 400) := hf; omega
    have HS : Hid (toldS z = ⟨#[]⟩) := if_neg hf
    have HE : Hid (toldE z = 2) := if_neg hf
    clear hf
    go_enter Tryz.func62, Tryz.ntmps62
    go_wp2_with fail
    go_ret2
    exact ⟨by rw [HS.out, HE.out]; rfl, HBW.out⟩
set_option maxRecDepth 100000 in
set_option maxHeartbeats 1000000 in
theorem t59 (g n cap : Nat) (ss : List ByteArray) (w : World) (hn : ss.length = n) (hc : n ≤ cap) (hm : cap ≤ maxLen) (hcell : ∀ k s, ss[k]? = some s → w.cell? ⟨g, k, none⟩ = some (.string s)) (hsz : ∀ s ∈ ss, s.size ≤ 9223372036854775807) :
    Calls Tryz.prog 59 #[.slice (some ⟨g, 0, none⟩) n cap] w fun e w' => e = .returned (.bool (ss.all fun s => vldL s.data.toList)) ∧ w = w' := by
  unfold maxLen at hm
  have HC := Lib.hid hcell
  have HSZ := Lib.hid hsz
  clear hcell hsz
  go_enter Tryz.func59, Tryz.ntmps59
  go_wp2
  go_loop [3] (fun i => ∃ k : Nat, k ≤ n ∧ i = .int .i64 k ∧ Hid ((ss.take k).all (fun s => vldL s.data.toList) = true)) (fun i => n - (intOf i).toNat)
  case atStart => exact ⟨0, Nat.zero_le _, rfl, rfl⟩
  case round =>
    obtain ⟨k, hk, rfl, hall⟩ := hrel
    by_cases hlt : k < n
    · have hks : k < ss.length := by omega
      have hce := HC.out k _ (List.getElem?_eq_getElem hks)
      have hin : (k : Int) < n := by omega
      have hk0 : (0 : Int) ≤ k := by omega
      have c := t49 ss[k] w (HSZ.out _ (List.getElem_mem hks))
      cases hv : vldL ss[k].data.toList with
      | true =>
        have hall2 : Hid ((ss.take (k + 1)).all (fun s => vldL s.data.toList) = true) := by
          show _ = _
          rw [List.take_succ_eq_append_getElem hks, List.all_append, hall.out]
          simp [hv]
        rw [hv] at c
        have C := Lib.hid c
        clear c hv hlt
        generalize ss[k] = x at *
        go_wp2_with (go_at_call 49; (with_reducible refine C.out.mono ?_); rintro e w' ⟨rfl, rfl⟩)
        go_round
        case rel => exact ⟨k + 1, by omega, by go_num, hall2⟩
        case measure => first | (simp [intOf]; omega) | simp [intOf]
      | false =>
        have hr : Hid ((ss.all fun s => vldL s.data.toList) = false) := by
          show _ = _
          cases hx : (ss.all fun s => vldL s.data.toList) with
          | false => rfl
          | true =>
            have := List.all_eq_true.1 hx _ (List.getElem_mem hks)
            rw [hv] at this; cases this
        rw [hv] at c
        have C := Lib.hid c
        clear c hv hlt
        generalize ss[k] = x at *
        go_wp2_with (go_at_call 49; (with_reducible refine C.out.mono ?_); rintro e w' ⟨rfl, rfl⟩)
        go_ret
        exact ⟨by rw [hr.out]; rfl, rfl⟩
    · obtain rfl : k = n := by omega
      have hr : Hid ((ss.all fun s => vldL s.data.toList) = true) := by
        show _ = _
        have := hall.out
        rw [List.take_of_length_le (by omega)] at this
        exact this
      have hin : ¬ ((k : Int) < k) := by omega
      go_wp2
      go_ret
      exact ⟨by rw [hr.out]; rfl, rfl⟩
def dig (c : UInt8) : Nat := c.toNat - 48
theorem dig_chr : ∀ d, d < 10 → dig (chr d) = d := by decide
/-- the digits of a number's text, from its end -/
theorem digs_txt (n : Nat) : val 10 ((txt 10 n).reverse.map dig) = n ∧ (∀ d ∈ (txt 10 n).reverse.map dig, d < 10) := by
  have hlt : ∀ d ∈ (txt 10 n).reverse.map dig, d < 10 := fun d hd => by
    obtain ⟨c, hc, rfl⟩ := List.mem_map.1 hd
    obtain ⟨e, he, rfl⟩ := txt_mem (by omega) (by omega) (List.mem_reverse.1 hc)
    rw [dig_chr e he]; exact he
  refine ⟨?_, hlt⟩
  unfold txt
  split
  · rename_i h; rw [h]; rfl
  · rw [← List.map_reverse, List.reverse_reverse, List.map_map]
    have : ∀ d ∈ dgs 10 n, (dig ∘ chr) d = d := fun d hd => dig_chr d (dgs10_lt n d hd)
    rw [List.map_congr_left this]
    simp [val_dgs]
theorem wrap_dig (c : UInt8) (h1 : 48 ≤ c.toNat) (h2 : c.toNat ≤ 57) : IntKind.i64.wrap (IntKind.u8.wrap ((c.toNat : Int) - 48)) = ((c.toNat - 48 : Nat) : Int) := by
  obtain ⟨n, hn⟩ : ∃ n : Nat, (c.toNat : Int) - 48 = n := ⟨c.toNat - 48, by omega⟩
  have h3 : n ≤ 9 := by omega
  have h4 : n = c.toNat - 48 := by omega
  rw [hn, ← h4]
  have key : ∀ d, d < 10 → IntKind.i64.wrap (IntKind.u8.wrap ((d : Nat) : Int)) = (d : Int) := by decide
  exact key n (by omega)
theorem txt_dig (n : Nat) : ∀ c ∈ txt 10 n, 48 ≤ c.toNat ∧ c.toNat ≤ 57 := fun c hc => by
  have := List.all_eq_true.1 (txt_all n) c hc
  unfold isD at this
  simpa using this
theorem read_at (pre t : List UInt8) (ds : List Nat) (hds : ds = t.reverse.map dig) (ht : ∀ c ∈ t, 48 ≤ c.toNat ∧ c.toNat ≤ 57) (m j : Nat) (h : m + j + 1 = pre.length + t.length) (hj : j < t.length) :
    ∃ c, (pre ++ t)[m]? = some c ∧ 48 ≤ c.toNat ∧ c.toNat ≤ 57 ∧ ds[j]? = some (c.toNat - 48) := by
  have hi : t.length - 1 - j < t.length := by omega
  refine ⟨t[t.length - 1 - j], ?_, (ht _ (List.getElem_mem hi)).1, (ht _ (List.getElem_mem hi)).2, ?_⟩
  · rw [List.getElem?_append_right (by omega), show m - pre.length = t.length - 1 - j by omega, List.getElem?_eq_getElem hi]
  · rw [hds, List.getElem?_map, List.getElem?_reverse hj, List.getElem?_eq_getElem hi]; rfl
set_option maxRecDepth 100000 in
set_option maxHeartbeats 2000000 in
theorem t60 (s : ByteArray) (z : Int) (w : World) (hz : IsNum s.data.toList z) :
    Calls Tryz.prog 60 #[.string s] w (NmR z w) := by
  obtain ⟨hs, hf⟩ := hz
  obtain ⟨L, hL⟩ : ∃ L, L = (txt 10 z.natAbs).length := ⟨_, rfl⟩
  have hL1 : 0 < L := by rw [hL]; exact List.length_pos_iff.2 (txt_ne 10 _ (by omega))
  have hL2 : L ≤ 400 := by rw [hL, txt_length 10 _ (by omega)]; have h1 : (dgs 10 z.natAbs).length ≤ 400 := hf; omega
  obtain ⟨ds, hds⟩ : ∃ ds, ds = (txt 10 z.natAbs).reverse.map dig := ⟨_, rfl⟩
  have hdt := digs_txt z.natAbs
  rw [← hds] at hdt
  have hdl : ds.length = L := by rw [hds, hL]; simp
  have HDT := Lib.hid hdt
  have HDL := Lib.hid hdl
  by_cases hn : z < 0
  · have hs' : s.data.toList = 45 :: txt 10 z.natAbs := by rw [hs]; unfold txtZ; rw [if_pos hn]
    have HSZ : Hid (s.size = L + 1) := by show s.data.toList.length = _; rw [hs', hL]; simp
    have hpos : 0 < s.size := by have := HSZ.out; omega
    have hs0 : s[0] = 45 := by
      have h1 : s.data.toList[0]? = some s[0] := List.getElem?_eq_getElem hpos
      rw [hs'] at h1
      exact (Option.some.inj h1).symm
    have hz0 : ((s[0].toNat : Int) == 45) = true := by rw [hs0]; rfl
    have HAT : Hid (∀ m j, m + j + 1 = s.size → j < L → ∃ c, s.data.toList[m]? = some c ∧ 48 ≤ c.toNat ∧ c.toNat ≤ 57 ∧ ds[j]? = some (c.toNat - 48)) := fun m j h1 h2 => by
      rw [hs', show 45 :: txt 10 z.natAbs = [45] ++ txt 10 z.natAbs from rfl]
      exact read_at _ _ _ hds (txt_dig _) m j (by rw [h1, HSZ.out, hL]; simp; omega) (by rw [← hL]; exact h2)
    have HSG : Hid (decide (z < 0) = true) := by show _ = _; simpa using hn
    clear hdt hdl hs hds hL
    have hsz : s.size = L + 1 := HSZ.out
    go_enter Tryz.func60, Tryz.ntmps60
    go_wp2_with fail
    have hW0 : Hid (Blk ((w.alloc (.cells #[.bool false, .slice none 0 0] 73)).alloc (.cells #[.bool true, .slice none 0 0] 73)) (w.heap.size + 1) 73 [.bool true, .slice none 0 0] ∧ Blk ((w.alloc (.cells #[.bool false, .slice none 0 0] 73)).alloc (.cells #[.bool true, .slice none 0 0] 73)) w.heap.size 73 [.bool false, .slice none 0 0] ∧ Below w.heap.size w ((w.alloc (.cells #[.bool false, .slice none 0 0] 73)).alloc (.cells #[.bool true, .slice none 0 0] 73)) ∧ w.heap.size + 2 ≤ ((w.alloc (.cells #[.bool false, .slice none 0 0] 73)).alloc (.cells #[.bool true, .slice none 0 0] 73)).heap.size) := by
      have k1 := Blk.new w #[.bool false, .slice none 0 0] 73
      have k2 := Blk.new (w.alloc (.cells #[.bool false, .slice none 0 0] 73)) #[.bool true, .slice none 0 0] 73
      refine ⟨by simpa using k2, k1.alloc _, ((Below.refl _ _).alloc (Nat.le_refl _) _).alloc (by simp) _, by simp⟩
    generalize (w.alloc (.cells #[.bool false, .slice none 0 0] 73)).alloc (.cells #[.bool true, .slice none 0 0] 73) = W at *
    go_loopw [4] (fun i wr => ∃ (k j : Nat) (v : Value), j ≤ L ∧ k + j = s.size ∧ i = .int .i64 ((k : Int) - 1) ∧ Hid (Blk wr (w.heap.size + 1) 73 [.bool true, v]) ∧ Hid (Blk wr w.heap.size 73 [.bool false, .slice none 0 0]) ∧ Hid (wr.ownsRow (w.heap.size + 2) 3 1 v j (c64 (ds.take j))) ∧ w.heap.size + 2 ≤ wr.heap.size ∧ Below w.heap.size w wr) (fun i _ => (intOf i + 1).toNat)
    case atStart => exact ⟨s.size, 0, .slice none 0 0, Nat.zero_le _, rfl, by go_num, hW0.out.1, hW0.out.2.1, World.ownsRow_nil _ _ _ _, hW0.out.2.2.2, hW0.out.2.2.1⟩
    case round =>
      obtain ⟨k, j, v, hj, hkj, rfl, hk, hr, hrow, hge, hbl⟩ := hrel
      obtain ⟨pv, cv, rfl⟩ := row_form hrow.out
      by_cases hjl : j < L
      · obtain ⟨m, rfl⟩ : ∃ m, k = m + 1 := ⟨k - 1, by omega⟩
        have hms : m < s.size := by omega
        obtain ⟨c, hc, hc1, hc2, hd⟩ := HAT.out m j (by omega) hjl
        have hsm : s[m] = c := by
          have h1 : s.data.toList[m]? = some s[m] := List.getElem?_eq_getElem hms
          rw [h1] at hc
          exact Option.some.inj hc
        have hm0 : (0 : Int) ≤ m := by omega
        have hm1 : (m : Int) < s.size := by omega
        have hm2 : (m : Int) + 1 - 1 = m := by omega
        have hs1 : (48 : Int) ≤ (s[m].toNat : Int) := by rw [hsm]; omega
        have hs2 : (s[m].toNat : Int) ≤ 57 := by rw [hsm]; omega
        have hs3 : ((s[m].toNat : Int) == 45) = false := by rw [beq_eq_false_iff_ne]; omega
        have hs4 : ((s[m].toNat : Int) != 45) = true := by rw [bne_iff_ne]; omega
        have HTK : Hid (ds.take (j + 1) = ds.take j ++ [c.toNat - 48]) := by
          show _ = _
          rw [List.take_add_one, hd]; rfl
        have HSM : Hid (IntKind.i64.wrap (IntKind.u8.wrap ((s[m].toNat : Int) - 48)) = ((c.toNat - 48 : Nat) : Int)) := by show _ = _; rw [hsm]; exact wrap_dig c hc1 hc2
        have f5 := (hk.out.alloc (.cells #[.int .i64 (IntKind.i64.wrap (IntKind.u8.wrap ((s[m].toNat : Int) - 48)))] 3)).cell 1 rfl
        have f1 := hk.out.cell 1 rfl
        have f2 := hk.out.free 1
        obtain ⟨i0, hi, hz0, hz1, hz2⟩ := info_parts info3
        clear hc hsm hd
        go_wp2_with fail
        go_region_law (refine step_append_lies _ rfl _ _ 22 rfl (w.heap.size + 2) 3 i0 (.int .i64 0) 1 8 Tryz.underlying22 hi hz0 hz1 hz2 rfl (by decide) (.slice pv j cv) j (c64 (ds.take j)) rfl (hrow.out.alloc _) ⟨wr.heap.size, 0, none⟩ 1 1 [_] rfl rfl (one_new wr _ 3) (by simp [Value.oneCell']) (by omega) (by unfold maxLen; omega) (by omega) (Nat.le_trans hge (by simp)) _ rfl ?_; intro g cap w1 hown1 hgrow1 hat1 hlt1; have hk1 : Blk w1 (w.heap.size + 1) 73 [.bool true, .slice pv j cv] := (hgrow1.block _ (by have := hk.out.lt; simp; omega) (fun h => by have := row_own hrow.out h.symm; omega)).trans (hk.out.alloc _); have f3 := hk1.cell 1 rfl; have f4 := hk1.free 1)
        all_goals (
          have hrow9 : w1.ownsRow (w.heap.size + 2) 3 1 (.slice (some ⟨g, 0, none⟩) (j + 1) cap) (j + 1) (c64 (ds.take (j + 1))) := by
            rw [HTK.out, c64, List.map_append]
            have h9 := hown1
            rw [HSM.out] at h9
            exact h9
          have hg2 : w.heap.size + 2 ≤ g := row_own hrow9 rfl
          have hr1 : Blk w1 w.heap.size 73 [.bool false, .slice none 0 0] := (hgrow1.block _ (by have := hr.out.lt; simp; omega) (fun h => by have := row_own hrow.out h.symm; omega)).trans (hr.out.alloc _)
          have hbl1 : Below w.heap.size w w1 := ((hbl.alloc hbl.size _).drew).grown hgrow1 (Nat.le_trans hbl.size (by simp)) (fun q hq => by have := row_own hrow.out hq; omega)
          have HROW9 := Lib.hid (ownsRow_setCell_other hrow9 (a := ⟨w.heap.size + 1, 1, none⟩) (fun h => by have h9 := Option.some.inj h; simp at h9; omega) (.slice (some ⟨g, 0, none⟩) (j + 1) cap))
          have HK9 := Lib.hid (hk1.set 1 (.slice (some ⟨g, 0, none⟩) (j + 1) cap))
          have HR9 := Lib.hid (hr1.setOther ⟨w.heap.size + 1, 1, none⟩ (.slice (some ⟨g, 0, none⟩) (j + 1) cap) (by simp))
          have HB9 := Lib.hid (hbl1.setCell (p := ⟨w.heap.size + 1, 1, none⟩) (by simp) (.slice (some ⟨g, 0, none⟩) (j + 1) cap))
          have HG9 : Hid (w.heap.size + 2 ≤ (w1.setCell ⟨w.heap.size + 1, 1, none⟩ (.slice (some ⟨g, 0, none⟩) (j + 1) cap)).heap.size) := by show _ ≤ _; simp; omega
          clear hrow9 hown1 hgrow1 hat1 hk1 hr1 hbl1 f1 f2 f5
          go_wp2_with fail
          go_roundw
          case rel => exact ⟨m, j + 1, _, by omega, by omega, by go_num, HK9.out, HR9.out, HROW9.out, HG9.out, HB9.out⟩
          case measure => first | (simp [intOf]; omega) | simp [intOf])
      · obtain rfl : j = L := by omega
        obtain rfl : k = 1 := by omega
        have hj0 : ((0 : Nat) : Int) = 0 := rfl
        have f1 := hk.out.cell 1 rfl
        have f2 := hk.out.free 1
        have c := t120 _ _ _ wr (ownsRow_mono hrow.out (Nat.zero_le _)) (fun d hd => HDT.out.2 d (List.mem_of_mem_take hd))
        rw [List.take_of_length_le (by rw [HDL.out]; exact Nat.le_refl _), HDT.out.1] at c
        have CC := Lib.hid c
        clear c
        go_wp2_with fail
        refine CC.out.mono ?_
        rintro e w2 ⟨u, rfl, hu, rfl, hfu⟩
        obtain ⟨pu, cu, rfl, -, -, -⟩ := hu.cells
        have hub : ∀ q, (Value.slice pu (Ld z.natAbs) cu).ownBlock = some q → w.heap.size + 2 ≤ q := fun q hq => row_own hrow.out (hfu q hq)
        have hk2 := hk.out.set 1 (.slice pu (Ld z.natAbs) cu)
        have hr2 := hr.out.setOther ⟨w.heap.size + 1, 1, none⟩ (.slice pu (Ld z.natAbs) cu) (by simp)
        have e0 := hk2.cell 0 rfl
        have e1 := hk2.cell 1 rfl
        have r0 := hr2.cell 0 rfl
        have r1 := hr2.cell 1 rfl
        have r2 := hr2.free 0
        have r3 := hr2.free 1
        have hu2 := hu.setCell (g := w.heap.size + 1) (j := 1) (u := .slice pu (Ld z.natAbs) cu) (fun h => by have := hub _ h; omega)
        have hb2 := hbl.setCell (p := ⟨w.heap.size + 1, 1, none⟩) (by simp) (.slice pu (Ld z.natAbs) cu)
        have HU2 := Lib.hid hu2
        have HB2 := Lib.hid hb2
        have HR2 := Lib.hid hr2
        have HK2 := Lib.hid hk2
        clear hu2 hb2 hr2 hk2
        go_wp2
        have g0 := (HR2.out.set 0 (.bool true)).cell 0 rfl
        have g1 := ((HR2.out.set 0 (.bool true)).set 1 (.slice pu (Ld z.natAbs) cu)).cell 1 rfl
        refine bodyPost_ret (v := .agg #[.bool true, .slice pu (Ld z.natAbs) cu]) (by simp [results, Tryz.results60, go_sem, g0, g1]) rfl ?_
        have hne : (Value.slice pu (Ld z.natAbs) cu).ownBlock ≠ some w.heap.size := fun h => by have := hub _ h; omega
        exact ⟨_, by rw [HSG.out], (HU2.out.setCell hne).setCell hne, (HB2.out.setCell (Nat.le_refl _) _).setCell (Nat.le_refl _) _⟩

  · have hs' : s.data.toList = txt 10 z.natAbs := by rw [hs]; unfold txtZ; rw [if_neg hn]
    have HSZ : Hid (s.size = L + 0) := by show s.data.toList.length = _; rw [hs', hL]; rfl
    have hpos : 0 < s.size := by have := HSZ.out; omega
    have HAT : Hid (∀ m j, m + j + 1 = s.size → j < L → ∃ c, s.data.toList[m]? = some c ∧ 48 ≤ c.toNat ∧ c.toNat ≤ 57 ∧ ds[j]? = some (c.toNat - 48)) := fun m j h1 h2 => by
      rw [hs', show txt 10 z.natAbs = [] ++ txt 10 z.natAbs from rfl]
      exact read_at _ _ _ hds (txt_dig _) m j (by rw [h1, HSZ.out, hL]; simp) (by rw [← hL]; exact h2)
    have hz0 : ((s[0].toNat : Int) == 45) = false := by
      obtain ⟨c, hc, hc1, hc2, -⟩ := HAT.out 0 (L - 1) (by have := HSZ.out; omega) (by omega)
      have h1 : s.data.toList[0]? = some s[0] := List.getElem?_eq_getElem hpos
      rw [h1] at hc
      rw [Option.some.inj hc, beq_eq_false_iff_ne]
      omega
    have HSG : Hid (decide (z < 0) = false) := by show _ = _; simpa using hn
    clear hdt hdl hs hds hL
    have hsz : s.size = L + 0 := HSZ.out
    go_enter Tryz.func60, Tryz.ntmps60
    go_wp2_with fail
    have hW0 : Hid (Blk ((w.alloc (.cells #[.bool false, .slice none 0 0] 73)).alloc (.cells #[.bool false, .slice none 0 0] 73)) (w.heap.size + 1) 73 [.bool false, .slice none 0 0] ∧ Blk ((w.alloc (.cells #[.bool false, .slice none 0 0] 73)).alloc (.cells #[.bool false, .slice none 0 0] 73)) w.heap.size 73 [.bool false, .slice none 0 0] ∧ Below w.heap.size w ((w.alloc (.cells #[.bool false, .slice none 0 0] 73)).alloc (.cells #[.bool false, .slice none 0 0] 73)) ∧ w.heap.size + 2 ≤ ((w.alloc (.cells #[.bool false, .slice none 0 0] 73)).alloc (.cells #[.bool false, .slice none 0 0] 73)).heap.size) := by
      have k1 := Blk.new w #[.bool false, .slice none 0 0] 73
      have k2 := Blk.new (w.alloc (.cells #[.bool false, .slice none 0 0] 73)) #[.bool false, .slice none 0 0] 73
      refine ⟨by simpa using k2, k1.alloc _, ((Below.refl _ _).alloc (Nat.le_refl _) _).alloc (by simp) _, by simp⟩
    generalize (w.alloc (.cells #[.bool false, .slice none 0 0] 73)).alloc (.cells #[.bool false, .slice none 0 0] 73) = W at *
    go_loopw [4] (fun i wr => ∃ (k j : Nat) (v : Value), j ≤ L ∧ k + j = s.size ∧ i = .int .i64 ((k : Int) - 1) ∧ Hid (Blk wr (w.heap.size + 1) 73 [.bool false, v]) ∧ Hid (Blk wr w.heap.size 73 [.bool false, .slice none 0 0]) ∧ Hid (wr.ownsRow (w.heap.size + 2) 3 1 v j (c64 (ds.take j))) ∧ w.heap.size + 2 ≤ wr.heap.size ∧ Below w.heap.size w wr) (fun i _ => (intOf i + 1).toNat)
    case atStart => exact ⟨s.size, 0, .slice none 0 0, Nat.zero_le _, rfl, by go_num, hW0.out.1, hW0.out.2.1, World.ownsRow_nil _ _ _ _, hW0.out.2.2.2, hW0.out.2.2.1⟩
    case round =>
      obtain ⟨k, j, v, hj, hkj, rfl, hk, hr, hrow, hge, hbl⟩ := hrel
      obtain ⟨pv, cv, rfl⟩ := row_form hrow.out
      by_cases hjl : j < L
      · obtain ⟨m, rfl⟩ : ∃ m, k = m + 1 := ⟨k - 1, by omega⟩
        have hms : m < s.size := by omega
        obtain ⟨c, hc, hc1, hc2, hd⟩ := HAT.out m j (by omega) hjl
        have hsm : s[m] = c := by
          have h1 : s.data.toList[m]? = some s[m] := List.getElem?_eq_getElem hms
          rw [h1] at hc
          exact Option.some.inj hc
        have hm0 : (0 : Int) ≤ m := by omega
        have hm1 : (m : Int) < s.size := by omega
        have hm2 : (m : Int) + 1 - 1 = m := by omega
        have hs1 : (48 : Int) ≤ (s[m].toNat : Int) := by rw [hsm]; omega
        have hs2 : (s[m].toNat : Int) ≤ 57 := by rw [hsm]; omega
        have hs3 : ((s[m].toNat : Int) == 45) = false := by rw [beq_eq_false_iff_ne]; omega
        have hs4 : ((s[m].toNat : Int) != 45) = true := by rw [bne_iff_ne]; omega
        have HTK : Hid (ds.take (j + 1) = ds.take j ++ [c.toNat - 48]) := by
          show _ = _
          rw [List.take_add_one, hd]; rfl
        have HSM : Hid (IntKind.i64.wrap (IntKind.u8.wrap ((s[m].toNat : Int) - 48)) = ((c.toNat - 48 : Nat) : Int)) := by show _ = _; rw [hsm]; exact wrap_dig c hc1 hc2
        have f5 := (hk.out.alloc (.cells #[.int .i64 (IntKind.i64.wrap (IntKind.u8.wrap ((s[m].toNat : Int) - 48)))] 3)).cell 1 rfl
        have f1 := hk.out.cell 1 rfl
        have f2 := hk.out.free 1
        obtain ⟨i0, hi, hz0, hz1, hz2⟩ := info_parts info3
        clear hc hsm hd
        go_wp2_with fail
        go_region_law (refine step_append_lies _ rfl _ _ 22 rfl (w.heap.size + 2) 3 i0 (.int .i64 0) 1 8 Tryz.underlying22 hi hz0 hz1 hz2 rfl (by decide) (.slice pv j cv) j (c64 (ds.take j)) rfl (hrow.out.alloc _) ⟨wr.heap.size, 0, none⟩ 1 1 [_] rfl rfl (one_new wr _ 3) (by simp [Value.oneCell']) (by omega) (by unfold maxLen; omega) (by omega) (Nat.le_trans hge (by simp)) _ rfl ?_; intro g cap w1 hown1 hgrow1 hat1 hlt1; have hk1 : Blk w1 (w.heap.size + 1) 73 [.bool false, .slice pv j cv] := (hgrow1.block _ (by have := hk.out.lt; simp; omega) (fun h => by have := row_own hrow.out h.symm; omega)).trans (hk.out.alloc _); have f3 := hk1.cell 1 rfl; have f4 := hk1.free 1)
        all_goals (
          have hrow9 : w1.ownsRow (w.heap.size + 2) 3 1 (.slice (some ⟨g, 0, none⟩) (j + 1) cap) (j + 1) (c64 (ds.take (j + 1))) := by
            rw [HTK.out, c64, List.map_append]
            have h9 := hown1
            rw [HSM.out] at h9
            exact h9
          have hg2 : w.heap.size + 2 ≤ g := row_own hrow9 rfl
          have hr1 : Blk w1 w.heap.size 73 [.bool false, .slice none 0 0] := (hgrow1.block _ (by have := hr.out.lt; simp; omega) (fun h => by have := row_own hrow.out h.symm; omega)).trans (hr.out.alloc _)
          have hbl1 : Below w.heap.size w w1 := ((hbl.alloc hbl.size _).drew).grown hgrow1 (Nat.le_trans hbl.size (by simp)) (fun q hq => by have := row_own hrow.out hq; omega)
          have HROW9 := Lib.hid (ownsRow_setCell_other hrow9 (a := ⟨w.heap.size + 1, 1, none⟩) (fun h => by have h9 := Option.some.inj h; simp at h9; omega) (.slice (some ⟨g, 0, none⟩) (j + 1) cap))
          have HK9 := Lib.hid (hk1.set 1 (.slice (some ⟨g, 0, none⟩) (j + 1) cap))
          have HR9 := Lib.hid (hr1.setOther ⟨w.heap.size + 1, 1, none⟩ (.slice (some ⟨g, 0, none⟩) (j + 1) cap) (by simp))
          have HB9 := Lib.hid (hbl1.setCell (p := ⟨w.heap.size + 1, 1, none⟩) (by simp) (.slice (some ⟨g, 0, none⟩) (j + 1) cap))
          have HG9 : Hid (w.heap.size + 2 ≤ (w1.setCell ⟨w.heap.size + 1, 1, none⟩ (.slice (some ⟨g, 0, none⟩) (j + 1) cap)).heap.size) := by show _ ≤ _; simp; omega
          clear hrow9 hown1 hgrow1 hat1 hk1 hr1 hbl1 f1 f2 f5
          go_wp2_with fail
          go_roundw
          case rel => exact ⟨m, j + 1, _, by omega, by omega, by go_num, HK9.out, HR9.out, HROW9.out, HG9.out, HB9.out⟩
          case measure => first | (simp [intOf]; omega) | simp [intOf])
      · obtain rfl : j = L := by omega
        obtain rfl : k = 0 := by omega
        have f1 := hk.out.cell 1 rfl
        have f2 := hk.out.free 1
        have c := t120 _ _ _ wr (ownsRow_mono hrow.out (Nat.zero_le _)) (fun d hd => HDT.out.2 d (List.mem_of_mem_take hd))
        rw [List.take_of_length_le (by rw [HDL.out]; exact Nat.le_refl _), HDT.out.1] at c
        have CC := Lib.hid c
        clear c
        go_wp2_with fail
        refine CC.out.mono ?_
        rintro e w2 ⟨u, rfl, hu, rfl, hfu⟩
        obtain ⟨pu, cu, rfl, -, -, -⟩ := hu.cells
        have hub : ∀ q, (Value.slice pu (Ld z.natAbs) cu).ownBlock = some q → w.heap.size + 2 ≤ q := fun q hq => row_own hrow.out (hfu q hq)
        have hk2 := hk.out.set 1 (.slice pu (Ld z.natAbs) cu)
        have hr2 := hr.out.setOther ⟨w.heap.size + 1, 1, none⟩ (.slice pu (Ld z.natAbs) cu) (by simp)
        have e0 := hk2.cell 0 rfl
        have e1 := hk2.cell 1 rfl
        have r0 := hr2.cell 0 rfl
        have r1 := hr2.cell 1 rfl
        have r2 := hr2.free 0
        have r3 := hr2.free 1
        have hu2 := hu.setCell (g := w.heap.size + 1) (j := 1) (u := .slice pu (Ld z.natAbs) cu) (fun h => by have := hub _ h; omega)
        have hb2 := hbl.setCell (p := ⟨w.heap.size + 1, 1, none⟩) (by simp) (.slice pu (Ld z.natAbs) cu)
        have HU2 := Lib.hid hu2
        have HB2 := Lib.hid hb2
        have HR2 := Lib.hid hr2
        have HK2 := Lib.hid hk2
        clear hu2 hb2 hr2 hk2
        go_wp2
        have g0 := (HR2.out.set 0 (.bool false)).cell 0 rfl
        have g1 := ((HR2.out.set 0 (.bool false)).set 1 (.slice pu (Ld z.natAbs) cu)).cell 1 rfl
        refine bodyPost_ret (v := .agg #[.bool false, .slice pu (Ld z.natAbs) cu]) (by simp [results, Tryz.results60, go_sem, g0, g1]) rfl ?_
        have hne : (Value.slice pu (Ld z.natAbs) cu).ownBlock ≠ some w.heap.size := fun h => by have := hub _ h; omega
        exact ⟨_, by rw [HSG.out], (HU2.out.setCell hne).setCell hne, (HB2.out.setCell (Nat.le_refl _) _).setCell (Nat.le_refl _) _⟩
theorem ldf {z : Int} (h : fits z) : Ld z.natAbs ≤ 100000 := Nat.le_trans h (by omega)
theorem ld_pow {z : Int} {n : Nat} : Ld z.natAbs ≤ n ↔ z.natAbs < 10 ^ n := dgs_length_le (by omega) _ _
theorem ld_two {m n k : Nat} {x y z : Int} (hx : Ld x.natAbs ≤ m) (hy : Ld y.natAbs ≤ n) (h : z.natAbs ≤ x.natAbs + y.natAbs) (hk : m + n + 1 ≤ k) : Ld z.natAbs ≤ k := by
  rw [ld_pow] at hx hy ⊢
  have h1 : 10 ^ m ≤ 10 ^ (m + n) := Nat.pow_le_pow_right (by omega) (by omega)
  have h2 : 10 ^ n ≤ 10 ^ (m + n) := Nat.pow_le_pow_right (by omega) (by omega)
  have h3 : 10 ^ (m + n + 1) ≤ 10 ^ k := Nat.pow_le_pow_right (by omega) hk
  rw [Nat.pow_succ] at h3
  omega
theorem ld_add {x y : Int} (hx : fits x) (hy : fits y) : Ld (x + y).natAbs ≤ 801 := ld_two (m := 400) (n := 400) hx hy (Int.natAbs_add_le x y) (by omega)
theorem ld_sub {x y : Int} (hx : fits x) (hy : fits y) : Ld (x - y).natAbs ≤ 801 := ld_two (m := 400) (n := 400) hx hy (Int.natAbs_sub_le x y) (by omega)
theorem ld_prod {m n : Nat} {x y : Int} (hx : Ld x.natAbs ≤ m) (hy : Ld y.natAbs ≤ n) : Ld (x * y).natAbs ≤ m + n := by
  rw [ld_pow] at hx hy ⊢
  rw [Int.natAbs_mul, Nat.pow_add]
  exact Nat.mul_lt_mul'' hx hy
theorem ld_mul {x y : Int} (hx : fits x) (hy : fits y) : Ld (x * y).natAbs ≤ 801 := Nat.le_trans (ld_prod (m := 400) (n := 400) hx hy) (by omega)
theorem neg_sign (y : Int) : (!(decide (y < 0)) && decide (0 < y.natAbs)) = decide (-y < 0) := by
  rw [Bool.eq_iff_iff]; simp; omega
theorem opp (y : Int) (v : Value) (w : World) (hv : Dg w v y.natAbs) :
    Calls Tryz.prog 116 #[.agg #[.bool (decide (y < 0)), v]] w fun e w' => ∃ b, e = .returned (.agg #[.bool b, v]) ∧ b = decide (-y < 0) ∧ Below w.heap.size w w' :=
  (t116 _ v y.natAbs w hv).mono fun _ _ ⟨h1, h2⟩ => ⟨_, h1, neg_sign y, h2⟩
theorem all2 (s t : ByteArray) (w : World) (hs : s.size ≤ 9223372036854775807) (ht : t.size ≤ 9223372036854775807) :
    Calls Tryz.prog 59 #[.slice (some ⟨w.heap.size, 0, none⟩) 2 2] (w.alloc (.cells #[.string s, .string t] 9)) fun e w' => e = .returned (.bool (vldL s.data.toList && vldL t.data.toList)) ∧ w.alloc (.cells #[.string s, .string t] 9) = w' := by
  have h := t59 w.heap.size 2 2 [s, t] (w.alloc (.cells #[.string s, .string t] 9)) rfl (Nat.le_refl _) (by unfold maxLen; omega) (fun k x hx => (Blk.new w #[.string s, .string t] 9).cell k (by
    match k, hx with
    | 0, hx => obtain rfl := Option.some.inj hx; rfl
    | 1, hx => obtain rfl := Option.some.inj hx; rfl)) (fun x hx => by
      rcases List.mem_cons.1 hx with rfl | hx
      · exact hs
      · rw [List.mem_singleton.1 hx]; exact ht)
  simpa using h
theorem all1 (s : ByteArray) (w : World) (hs : s.size ≤ 9223372036854775807) :
    Calls Tryz.prog 59 #[.slice (some ⟨w.heap.size, 0, none⟩) 1 1] (w.alloc (.cells #[.string s] 9)) fun e w' => e = .returned (.bool (vldL s.data.toList)) ∧ w.alloc (.cells #[.string s] 9) = w' := by
  have h := t59 w.heap.size 1 1 [s] (w.alloc (.cells #[.string s] 9)) rfl (Nat.le_refl _) (by unfold maxLen; omega) (fun k x hx => (Blk.new w #[.string s] 9).cell k (by
    match k, hx with
    | 0, hx => obtain rfl := Option.some.inj hx; rfl)) (fun x hx => by
      rw [List.mem_singleton.1 hx]; exact hs)
  simpa using h
set_option maxRecDepth 100000 in
set_option maxHeartbeats 2000000 in
theorem t44 (s t : ByteArray) (w : World) (hs : s.size ≤ 9223372036854775807) (ht : t.size ≤ 9223372036854775807) : Calls Tryz.prog 44 #[.string s, .string t] w (RkR s.data.toList t.data.toList (.tuple #[.string ⟨#[]⟩, .int .i64 1]) (fun x y => .tuple #[.string (toldS (x + y)), .int .i64 (toldE (x + y))]) w) := by
  have HC := Lib.hid (all2 s t w hs ht)
  have HB0 : Hid (Below w.heap.size w (w.alloc (.cells #[.string s, .string t] 9))) := bSelf0 w _
  clear hs ht
  cases hv : (vldL s.data.toList && vldL t.data.toList) with
  | false =>
    rw [hv] at HC
    have HV : Hid (vldL s.data.toList = false ∨ vldL t.data.toList = false) := by
      show _ ∨ _
      cases h1 : vldL s.data.toList with
      | false => exact .inl rfl
      | true => rw [h1] at hv; exact .inr hv
    clear hv
    go_enter Tryz.func44, Tryz.ntmps44
    go_wp2_with fail
    refine HC.out.mono ?_
    rintro e w1 ⟨rfl, rfl⟩
    go_wp2_with fail
    go_ret2
    exact .inl ⟨HV.out, rfl, HB0.out⟩
  | true =>
    rw [hv] at HC
    rw [Bool.and_eq_true] at hv
    obtain ⟨x, hx⟩ := vldL_num _ hv.1
    obtain ⟨y, hy⟩ := vldL_num _ hv.2
    have HX := Lib.hid hx
    have HY := Lib.hid hy
    clear hv hx hy
    go_enter Tryz.func44, Tryz.ntmps44
    go_wp2_with fail
    refine HC.out.mono ?_
    rintro e w1 ⟨rfl, rfl⟩
    go_wp2_with fail
    refine (t60 s x _ HX.out).mono ?_
    rintro e w2 ⟨v2, rfl, hv2, hb2⟩
    obtain ⟨p2, c2, rfl, -, -, -⟩ := hv2.cells
    have HV2 := Lib.hid hv2
    have HB2 := Lib.hid (HB0.out.trans (hb2.mono HB0.out.size))
    clear hv2 hb2
    go_wp2_with fail
    refine (t60 t y _ HY.out).mono ?_
    rintro e w3 ⟨v3, rfl, hv3, hb3⟩
    obtain ⟨p3, c3, rfl, -, -, -⟩ := hv3.cells
    have HV2b := Lib.hid (HV2.out.below hb3)
    have HV3 := Lib.hid hv3
    have HB3 := Lib.hid (HB2.out.trans (hb3.mono HB2.out.size))
    clear hv3 hb3 HV2 HB2
    go_wp2_with fail
    refine (t115 x y _ _ _ _ w3 rfl rfl HV2b.out HV3.out (ldf HX.out.2) (ldf HY.out.2)).mono ?_
    rintro e w4 ⟨v4, rfl, hv4, hb4⟩
    obtain ⟨p4, c4, rfl, -, -, -⟩ := hv4.cells
    have HV4 := Lib.hid hv4
    have HB4 := Lib.hid (HB3.out.trans (hb4.mono HB3.out.size))
    clear hv4 hb4
    go_wp2_with fail
    refine (t62 (x + y) _ _ w4 rfl HV4.out (Nat.le_trans (ld_add HX.out.2 HY.out.2) (by omega))).mono ?_
    rintro e w5 ⟨rfl, hb5⟩
    go_wp2_with fail
    go_ret2
    exact .inr ⟨x, y, HX.out, HY.out, rfl, HB4.out.trans (hb5.mono HB4.out.size)⟩
set_option maxRecDepth 100000 in
set_option maxHeartbeats 2000000 in
theorem t45 (s t : ByteArray) (w : World) (hs : s.size ≤ 9223372036854775807) (ht : t.size ≤ 9223372036854775807) : Calls Tryz.prog 45 #[.string s, .string t] w (RkR s.data.toList t.data.toList (.tuple #[.string ⟨#[]⟩, .int .i64 1]) (fun x y => .tuple #[.string (toldS (x - y)), .int .i64 (toldE (x - y))]) w) := by
  have HC := Lib.hid (all2 s t w hs ht)
  have HB0 : Hid (Below w.heap.size w (w.alloc (.cells #[.string s, .string t] 9))) := bSelf0 w _
  clear hs ht
  cases hv : (vldL s.data.toList && vldL t.data.toList) with
  | false =>
    rw [hv] at HC
    have HV : Hid (vldL s.data.toList = false ∨ vldL t.data.toList = false) := by
      show _ ∨ _
      cases h1 : vldL s.data.toList with
      | false => exact .inl rfl
      | true => rw [h1] at hv; exact .inr hv
    clear hv
    go_enter Tryz.func45, Tryz.ntmps45
    go_wp2_with fail
    refine HC.out.mono ?_
    rintro e w1 ⟨rfl, rfl⟩
    go_wp2_with fail
    go_ret2
    exact .inl ⟨HV.out, rfl, HB0.out⟩
  | true =>
    rw [hv] at HC
    rw [Bool.and_eq_true] at hv
    obtain ⟨x, hx⟩ := vldL_num _ hv.1
    obtain ⟨y, hy⟩ := vldL_num _ hv.2
    have HX := Lib.hid hx
    have HY := Lib.hid hy
    clear hv hx hy
    go_enter Tryz.func45, Tryz.ntmps45
    go_wp2_with fail
    refine HC.out.mono ?_
    rintro e w1 ⟨rfl, rfl⟩
    go_wp2_with fail
    refine (t60 s x _ HX.out).mono ?_
    rintro e w2 ⟨v2, rfl, hv2, hb2⟩
    obtain ⟨p2, c2, rfl, -, -, -⟩ := hv2.cells
    have HV2 := Lib.hid hv2
    have HB2 := Lib.hid (HB0.out.trans (hb2.mono HB0.out.size))
    clear hv2 hb2
    go_wp2_with fail
    refine (t60 t y _ HY.out).mono ?_
    rintro e w3 ⟨v3, rfl, hv3, hb3⟩
    obtain ⟨p3, c3, rfl, -, -, -⟩ := hv3.cells
    have HV2b := Lib.hid (HV2.out.below hb3)
    have HV3 := Lib.hid hv3
    have HB3 := Lib.hid (HB2.out.trans (hb3.mono HB2.out.size))
    clear hv3 hb3 HV2 HB2
    go_wp2_with fail
    refine (opp y _ w3 HV3.out).mono ?_
    rintro e w4 ⟨b4, rfl, he4, hb4⟩
    have HV2c := Lib.hid (HV2b.out.below hb4)
    have HV3c : Hid (Dg w4 (.slice p3 (Ld y.natAbs) c3) (-y).natAbs) := by show Dg _ _ _; rw [Int.natAbs_neg]; exact HV3.out.below hb4
    have HE4 := Lib.hid he4
    have HB4 := Lib.hid (HB3.out.trans (hb4.mono HB3.out.size))
    have C5 := Lib.hid (t115 x (-y) (decide (x < 0)) b4 _ _ w4 rfl HE4.out HV2c.out HV3c.out (ldf HX.out.2) (by rw [Int.natAbs_neg]; exact ldf HY.out.2))
    rw [← Int.sub_eq_add_neg] at C5
    clear hb4 he4
    go_wp2_with fail
    refine C5.out.mono ?_
    rintro e w5 ⟨v5, rfl, hv5, hb5⟩
    obtain ⟨p5, c5, rfl, -, -, -⟩ := hv5.cells
    have HV5 := Lib.hid hv5
    have HB5 := Lib.hid (HB4.out.trans (hb5.mono HB4.out.size))
    obtain ⟨b5, hb5e⟩ : ∃ b : Bool, b = decide (x - y < 0) := ⟨_, rfl⟩
    rw [← hb5e]
    have HE5 := Lib.hid hb5e
    clear hv5 hb5 hb5e
    go_wp2_with fail
    refine (t62 (x - y) b5 _ w5 HE5.out HV5.out (Nat.le_trans (ld_sub HX.out.2 HY.out.2) (by omega))).mono ?_
    rintro e w6 ⟨rfl, hb6⟩
    go_wp2_with fail
    go_ret2
    exact .inr ⟨x, y, HX.out, HY.out, rfl, HB5.out.trans (hb6.mono HB5.out.size)⟩
set_option maxRecDepth 100000 in
set_option maxHeartbeats 2000000 in
theorem t46 (s t : ByteArray) (w : World) (hs : s.size ≤ 9223372036854775807) (ht : t.size ≤ 9223372036854775807) : Calls Tryz.prog 46 #[.string s, .string t] w (RkR s.data.toList t.data.toList (.tuple #[.string ⟨#[]⟩, .int .i64 1]) (fun x y => .tuple #[.string (toldS (x * y)), .int .i64 (toldE (x * y))]) w) := by
  have HC := Lib.hid (all2 s t w hs ht)
  have HB0 : Hid (Below w.heap.size w (w.alloc (.cells #[.string s, .string t] 9))) := bSelf0 w _
  clear hs ht
  cases hv : (vldL s.data.toList && vldL t.data.toList) with
  | false =>
    rw [hv] at HC
    have HV : Hid (vldL s.data.toList = false ∨ vldL t.data.toList = false) := by
      show _ ∨ _
      cases h1 : vldL s.data.toList with
      | false => exact .inl rfl
      | true => rw [h1] at hv; exact .inr hv
    clear hv
    go_enter Tryz.func46, Tryz.ntmps46
    go_wp2_with fail
    refine HC.out.mono ?_
    rintro e w1 ⟨rfl, rfl⟩
    go_wp2_with fail
    go_ret2
    exact .inl ⟨HV.out, rfl, HB0.out⟩
  | true =>
    rw [hv] at HC
    rw [Bool.and_eq_true] at hv
    obtain ⟨x, hx⟩ := vldL_num _ hv.1
    obtain ⟨y, hy⟩ := vldL_num _ hv.2
    have HX := Lib.hid hx
    have HY := Lib.hid hy
    clear hv hx hy
    go_enter Tryz.func46, Tryz.ntmps46
    go_wp2_with fail
    refine HC.out.mono ?_
    rintro e w1 ⟨rfl, rfl⟩
    go_wp2_with fail
    refine (t60 s x _ HX.out).mono ?_
    rintro e w2 ⟨v2, rfl, hv2, hb2⟩
    obtain ⟨p2, c2, rfl, -, -, -⟩ := hv2.cells
    have HV2 := Lib.hid hv2
    have HB2 := Lib.hid (HB0.out.trans (hb2.mono HB0.out.size))
    clear hv2 hb2
    go_wp2_with fail
    refine (t60 t y _ HY.out).mono ?_
    rintro e w3 ⟨v3, rfl, hv3, hb3⟩
    obtain ⟨p3, c3, rfl, -, -, -⟩ := hv3.cells
    have HV2b := Lib.hid (HV2.out.below hb3)
    have HV3 := Lib.hid hv3
    have HB3 := Lib.hid (HB2.out.trans (hb3.mono HB2.out.size))
    clear hv3 hb3 HV2 HB2
    go_wp2_with fail
    refine (t61 x y _ _ _ _ w3 rfl rfl HV2b.out HV3.out (ldf HX.out.2) (ldf HY.out.2)).mono ?_
    rintro e w4 ⟨v4, rfl, hv4, hb4⟩
    obtain ⟨p4, c4, rfl, -, -, -⟩ := hv4.cells
    have HV4 := Lib.hid hv4
    have HB4 := Lib.hid (HB3.out.trans (hb4.mono HB3.out.size))
    clear hv4 hb4
    go_wp2_with fail
    refine (t62 (x * y) _ _ w4 rfl HV4.out (Nat.le_trans (ld_mul HX.out.2 HY.out.2) (by omega))).mono ?_
    rintro e w5 ⟨rfl, hb5⟩
    go_wp2_with fail
    go_ret2
    exact .inr ⟨x, y, HX.out, HY.out, rfl, HB4.out.trans (hb5.mono HB4.out.size)⟩
set_option maxRecDepth 100000 in
set_option maxHeartbeats 2000000 in
theorem t47 (s t : ByteArray) (w : World) (hs : s.size ≤ 9223372036854775807) (ht : t.size ≤ 9223372036854775807) : Calls Tryz.prog 47 #[.string s, .string t] w (RkR s.data.toList t.data.toList (.tuple #[.int .i64 0, .int .i64 1]) (fun x y => .tuple #[.int .i64 (cmpZ x y), .int .i64 0]) w) := by
  have HC := Lib.hid (all2 s t w hs ht)
  have HB0 : Hid (Below w.heap.size w (w.alloc (.cells #[.string s, .string t] 9))) := bSelf0 w _
  clear hs ht
  cases hv : (vldL s.data.toList && vldL t.data.toList) with
  | false =>
    rw [hv] at HC
    have HV : Hid (vldL s.data.toList = false ∨ vldL t.data.toList = false) := by
      show _ ∨ _
      cases h1 : vldL s.data.toList with
      | false => exact .inl rfl
      | true => rw [h1] at hv; exact .inr hv
    clear hv
    go_enter Tryz.func47, Tryz.ntmps47
    go_wp2_with fail
    refine HC.out.mono ?_
    rintro e w1 ⟨rfl, rfl⟩
    go_wp2_with fail
    go_ret2
    exact .inl ⟨HV.out, rfl, HB0.out⟩
  | true =>
    rw [hv] at HC
    rw [Bool.and_eq_true] at hv
    obtain ⟨x, hx⟩ := vldL_num _ hv.1
    obtain ⟨y, hy⟩ := vldL_num _ hv.2
    have HX := Lib.hid hx
    have HY := Lib.hid hy
    clear hv hx hy
    go_enter Tryz.func47, Tryz.ntmps47
    go_wp2_with fail
    refine HC.out.mono ?_
    rintro e w1 ⟨rfl, rfl⟩
    go_wp2_with fail
    refine (t60 s x _ HX.out).mono ?_
    rintro e w2 ⟨v2, rfl, hv2, hb2⟩
    obtain ⟨p2, c2, rfl, -, -, -⟩ := hv2.cells
    have HV2 := Lib.hid hv2
    have HB2 := Lib.hid (HB0.out.trans (hb2.mono HB0.out.size))
    clear hv2 hb2
    go_wp2_with fail
    refine (t60 t y _ HY.out).mono ?_
    rintro e w3 ⟨v3, rfl, hv3, hb3⟩
    obtain ⟨p3, c3, rfl, -, -, -⟩ := hv3.cells
    have HV2b := Lib.hid (HV2.out.below hb3)
    have HV3 := Lib.hid hv3
    have HB3 := Lib.hid (HB2.out.trans (hb3.mono HB2.out.size))
    clear hv3 hb3 HV2 HB2
    go_wp2_with fail
    refine (opp y _ w3 HV3.out).mono ?_
    rintro e w4 ⟨b4, rfl, he4, hb4⟩
    have HV2c := Lib.hid (HV2b.out.below hb4)
    have HV3c : Hid (Dg w4 (.slice p3 (Ld y.natAbs) c3) (-y).natAbs) := by show Dg _ _ _; rw [Int.natAbs_neg]; exact HV3.out.below hb4
    have HE4 := Lib.hid he4
    have HB4 := Lib.hid (HB3.out.trans (hb4.mono HB3.out.size))
    have C5 := Lib.hid (t115 x (-y) (decide (x < 0)) b4 _ _ w4 rfl HE4.out HV2c.out HV3c.out (ldf HX.out.2) (by rw [Int.natAbs_neg]; exact ldf HY.out.2))
    rw [← Int.sub_eq_add_neg] at C5
    clear hb4 he4
    go_wp2_with fail
    refine C5.out.mono ?_
    rintro e w5 ⟨v5, rfl, hv5, hb5⟩
    obtain ⟨p5, c5, rfl, -, -, -⟩ := hv5.cells
    have HV5 := Lib.hid hv5
    have HB5 := Lib.hid (HB4.out.trans (hb5.mono HB4.out.size))
    obtain ⟨b5, hb5e⟩ : ∃ b : Bool, b = decide (x - y < 0) := ⟨_, rfl⟩
    rw [← hb5e]
    have HE5 := Lib.hid hb5e
    clear hv5 hb5 hb5e
    have hk := Blk.new w5 #[.bool b5, .slice p5 (Ld (x - y).natAbs) c5] 73
    have k0 := hk.cell 0 rfl
    have k1 := hk.cell 1 rfl
    have HB6 := Lib.hid (HB5.out.trans ((bSelf0 w5 (.cells #[.bool b5, .slice p5 (Ld (x - y).natAbs) c5] 73)).mono HB5.out.size))
    clear hk
    cases b5 with
    | true =>
      have HC1 : Hid (cmpZ x y = -1) := by show _ = _; have h1 := HE5.out; simp at h1; unfold cmpZ; rw [if_pos (by omega)]
      go_wp2_with fail
      go_ret2
      exact .inr ⟨x, y, HX.out, HY.out, by show _ = Ending.returned (.tuple #[.int .i64 (cmpZ x y), .int .i64 0]); rw [HC1.out]; rfl, HB6.out⟩
    | false =>
      have hge : ¬ (x - y < 0) := fun h => by have h1 := HE5.out; rw [decide_eq_true h] at h1; cases h1
      by_cases h0 : x - y = 0
      · have HC1 : Hid (cmpZ x y = 0) := by show _ = _; unfold cmpZ; rw [if_neg (by omega), if_neg (by omega)]
        have hz : Ld (x - y).natAbs = 0 := by rw [h0]; rfl
        rw [hz] at k0 k1 HB6 ⊢
        clear hge h0 hz
        go_wp2_with fail
        go_ret2
        exact .inr ⟨x, y, HX.out, HY.out, by show _ = Ending.returned (.tuple #[.int .i64 (cmpZ x y), .int .i64 0]); rw [HC1.out]; rfl, HB6.out⟩
      · have HC1 : Hid (cmpZ x y = 1) := by show _ = _; unfold cmpZ; rw [if_neg (by omega), if_pos (by omega)]
        have hp : (1 : Int) ≤ Ld (x - y).natAbs := by have := Ld_pos (show 0 < (x - y).natAbs by omega); omega
        clear hge h0
        generalize Ld (x - y).natAbs = ln at *
        have HMIN : Hid (min (1 : Int) ln = 1) := by show _ = _; omega
        go_wp2_with fail
        go_ret2
        refine .inr ⟨x, y, HX.out, HY.out, ?_, HB6.out⟩
        show Ending.returned (.tuple #[.int .i64 (min (1 : Int) ln), .int .i64 0]) = Ending.returned (.tuple #[.int .i64 (cmpZ x y), .int .i64 0])
        rw [HC1.out, HMIN.out]
set_option maxRecDepth 100000 in
set_option maxHeartbeats 4000000 in
theorem t13 (g n cap : Nat) (ss : List ByteArray) (w : World) (hn : ss.length = n) (hc : n ≤ cap) (hm : cap ≤ maxLen) (hcell : ∀ k s, ss[k]? = some s → w.cell? ⟨g, k, none⟩ = some (.string s)) (hsz : ∀ s ∈ ss, s.size ≤ 9223372036854775807) :
    Calls Tryz.prog 13 #[.slice (some ⟨g, 0, none⟩) n cap] w fun e w' => e = .returned (.bool (ss.any fun s => decide (3000 < s.size))) ∧ w = w' := by
  unfold maxLen at hm
  have HC := Lib.hid hcell
  have HSZ := Lib.hid hsz
  clear hcell hsz
  go_enter Tryz.func13, Tryz.ntmps13
  go_wp2
  go_loop [3] (fun i => ∃ k : Nat, k ≤ n ∧ i = .int .i64 k ∧ Hid ((ss.take k).any (fun s => decide (3000 < s.size)) = false)) (fun i => n - (intOf i).toNat)
  case atStart => exact ⟨0, Nat.zero_le _, rfl, rfl⟩
  case round =>
    obtain ⟨k, hk, rfl, hall⟩ := hrel
    by_cases hlt : k < n
    · have hks : k < ss.length := by omega
      have hce := HC.out k _ (List.getElem?_eq_getElem hks)
      have hzz := HSZ.out _ (List.getElem_mem hks)
      have hin : (k : Int) < n := by omega
      have hk0 : (0 : Int) ≤ k := by omega
      by_cases hl : 3000 < ss[k].size
      · have hr : Hid ((ss.any fun s => decide (3000 < s.size)) = true) := by
          show _ = _
          rw [List.any_eq_true]
          exact ⟨_, List.getElem_mem hks, by simpa using hl⟩
        have hli : (3000 : Int) < ss[k].size := by omega
        clear hl hlt
        generalize ss[k] = x at *
        go_wp2
        go_ret
        exact ⟨by rw [hr.out]; rfl, rfl⟩
      · have hall2 : Hid ((ss.take (k + 1)).any (fun s => decide (3000 < s.size)) = false) := by
          show _ = _
          rw [List.take_succ_eq_append_getElem hks, List.any_append, hall.out]
          simp; omega
        have hli : ¬ ((3000 : Int) < ss[k].size) := by omega
        clear hl hlt
        generalize ss[k] = x at *
        go_wp2
        go_round
        case rel => exact ⟨k + 1, by omega, by go_num, hall2⟩
        case measure => first | (simp [intOf]; omega) | simp [intOf]
    · obtain rfl : k = n := by omega
      have hr : Hid ((ss.any fun s => decide (3000 < s.size)) = false) := by
        show _ = _
        have := hall.out
        rw [List.take_of_length_le (by omega)] at this
        exact this
      have hin : ¬ ((k : Int) < k) := by omega
      go_wp2
      go_ret
      exact ⟨by rw [hr.out]; rfl, rfl⟩
theorem long2 (s t : ByteArray) (w : World) (hs : s.size ≤ 9223372036854775807) (ht : t.size ≤ 9223372036854775807) :
    Calls Tryz.prog 13 #[.slice (some ⟨w.heap.size, 0, none⟩) 2 2] (w.alloc (.cells #[.string s, .string t] 9)) fun e w' => e = .returned (.bool (decide (3000 < s.size) || decide (3000 < t.size))) ∧ w.alloc (.cells #[.string s, .string t] 9) = w' := by
  have h := t13 w.heap.size 2 2 [s, t] (w.alloc (.cells #[.string s, .string t] 9)) rfl (Nat.le_refl _) (by unfold maxLen; omega) (fun k x hx => (Blk.new w #[.string s, .string t] 9).cell k (by
    match k, hx with
    | 0, hx => obtain rfl := Option.some.inj hx; rfl
    | 1, hx => obtain rfl := Option.some.inj hx; rfl)) (fun x hx => by
      rcases List.mem_cons.1 hx with rfl | hx
      · exact hs
      · rw [List.mem_singleton.1 hx]; exact ht)
  simpa using h
/-- two functions that reckon the same tell the same -/
theorem pairR {f g : FuncId} {s t : ByteArray} {none : Value} {R : Int → Int → Value} (hf : ∀ w, Calls Tryz.prog f #[.string s, .string t] w (RkR s.data.toList t.data.toList none R w)) (hg : ∀ w, Calls Tryz.prog g #[.string s, .string t] w (RkR s.data.toList t.data.toList none R w)) :
    ∃ V, (V = none ∨ ∃ x y, V = R x y) ∧ (∀ w, Calls Tryz.prog f #[.string s, .string t] w fun e w' => e = .returned V ∧ Below w.heap.size w w') ∧ (∀ w, Calls Tryz.prog g #[.string s, .string t] w fun e w' => e = .returned V ∧ Below w.heap.size w w') := by
  by_cases hv : ∃ x y, IsNum s.data.toList x ∧ IsNum t.data.toList y
  · obtain ⟨x, y, hx, hy⟩ := hv
    have key : ∀ w e w', RkR s.data.toList t.data.toList none R w e w' → e = .returned (R x y) ∧ Below w.heap.size w w' := by
      rintro w e w' (⟨h1 | h1, _⟩ | ⟨x', y', h1, h2, h3, h4⟩)
      · exact absurd hx (not_num h1 x)
      · exact absurd hy (not_num h1 y)
      · obtain rfl := num_one hx h1
        obtain rfl := num_one hy h2
        exact ⟨h3, h4⟩
    exact ⟨R x y, .inr ⟨x, y, rfl⟩, fun w => (hf w).mono fun _ _ h => key _ _ _ h, fun w => (hg w).mono fun _ _ h => key _ _ _ h⟩
  · have key : ∀ w e w', RkR s.data.toList t.data.toList none R w e w' → e = .returned none ∧ Below w.heap.size w w' := by
      rintro w e w' (⟨_, h3, h4⟩ | ⟨x', y', h1, h2, _⟩)
      · exact ⟨h3, h4⟩
      · exact absurd ⟨x', y', h1, h2⟩ hv
    exact ⟨none, .inl rfl, fun w => (hf w).mono fun _ _ h => key _ _ _ h, fun w => (hg w).mono fun _ _ h => key _ _ _ h⟩
def Both (f g : FuncId) (s t : ByteArray) : Prop := ∃ (u : ByteArray) (n : Int), (∀ w, Calls Tryz.prog f #[.string s, .string t] w fun e w' => e = .returned (.tuple #[.string u, .int .i64 n]) ∧ Below w.heap.size w w') ∧ (∀ w, Calls Tryz.prog g #[.string s, .string t] w fun e w' => e = .returned (.tuple #[.string u, .int .i64 n]) ∧ Below w.heap.size w w')
theorem both33 (s t : ByteArray) (hs : s.size ≤ 9223372036854775807) (ht : t.size ≤ 9223372036854775807) : Both 33 44 s t := by
  obtain ⟨V, rfl | ⟨x, y, rfl⟩, h1, h2⟩ := pairR (t33 s t) (fun w => t44 s t w hs ht)
  · exact ⟨_, _, h1, h2⟩
  · exact ⟨_, _, h1, h2⟩
theorem both34 (s t : ByteArray) (hs : s.size ≤ 9223372036854775807) (ht : t.size ≤ 9223372036854775807) : Both 34 45 s t := by
  obtain ⟨V, rfl | ⟨x, y, rfl⟩, h1, h2⟩ := pairR (t34 s t) (fun w => t45 s t w hs ht)
  · exact ⟨_, _, h1, h2⟩
  · exact ⟨_, _, h1, h2⟩
theorem both35 (s t : ByteArray) (hs : s.size ≤ 9223372036854775807) (ht : t.size ≤ 9223372036854775807) : Both 35 46 s t := by
  obtain ⟨V, rfl | ⟨x, y, rfl⟩, h1, h2⟩ := pairR (t35 s t) (fun w => t46 s t w hs ht)
  · exact ⟨_, _, h1, h2⟩
  · exact ⟨_, _, h1, h2⟩
theorem both37 (s t : ByteArray) (hs : s.size ≤ 9223372036854775807) (ht : t.size ≤ 9223372036854775807) : ∃ (c n : Int), (∀ w, Calls Tryz.prog 37 #[.string s, .string t] w fun e w' => e = .returned (.tuple #[.int .i64 c, .int .i64 n]) ∧ Below w.heap.size w w') ∧ (∀ w, Calls Tryz.prog 47 #[.string s, .string t] w fun e w' => e = .returned (.tuple #[.int .i64 c, .int .i64 n]) ∧ Below w.heap.size w w') := by
  obtain ⟨V, rfl | ⟨x, y, rfl⟩, h1, h2⟩ := pairR (t37 s t) (fun w => t47 s t w hs ht)
  · exact ⟨_, _, h1, h2⟩
  · exact ⟨_, _, h1, h2⟩
set_option maxRecDepth 100000 in
set_option maxHeartbeats 4000000 in
theorem t15 (s t : ByteArray) (w : World) (hs : s.size ≤ 9223372036854775807) (ht : t.size ≤ 9223372036854775807) :
    Calls Tryz.prog 15 #[.string s, .string t] w fun e w' => e = .returned (.bool true) ∧ Below w.heap.size w w' := by
  obtain ⟨u1, n1, p33, p44⟩ := both33 s t hs ht
  obtain ⟨u2, n2, p34, p45⟩ := both34 s t hs ht
  obtain ⟨u3, n3, p35, p46⟩ := both35 s t hs ht
  obtain ⟨c4, n4, p37, p47⟩ := both37 s t hs ht
  have P33 := Lib.hid p33
  have P44 := Lib.hid p44
  have P34 := Lib.hid p34
  have P45 := Lib.hid p45
  have P35 := Lib.hid p35
  have P46 := Lib.hid p46
  have P37 := Lib.hid p37
  have P47 := Lib.hid p47
  have P48 := Lib.hid (fun W => t48 s W)
  have P49 := Lib.hid (fun W => t49 s W hs)
  have hB0 : Below w.heap.size w w := Below.refl _ _
  clear p33 p44 p34 p45 p35 p46 p37 p47 hs ht
  go_enter Tryz.func15, Tryz.ntmps15
  go_wp2_with fail
  refine (P33.out _).mono ?_
  rintro e w1 ⟨rfl, hb1⟩
  have hB1 := bThen hB0 hb1
  clear hb1 hB0
  go_wp2_with fail
  refine (P44.out _).mono ?_
  rintro e w2 ⟨rfl, hb2⟩
  have hB2 := bThen hB1 hb2
  clear hb2 hB1
  go_wp2_with fail
  refine (P34.out _).mono ?_
  rintro e w3 ⟨rfl, hb3⟩
  have hB3 := bThen hB2 hb3
  clear hb3 hB2
  go_wp2_with fail
  refine (P45.out _).mono ?_
  rintro e w4 ⟨rfl, hb4⟩
  have hB4 := bThen hB3 hb4
  clear hb4 hB3
  go_wp2_with fail
  refine (P35.out _).mono ?_
  rintro e w5 ⟨rfl, hb5⟩
  have hB5 := bThen hB4 hb5
  clear hb5 hB4
  go_wp2_with fail
  refine (P46.out _).mono ?_
  rintro e w6 ⟨rfl, hb6⟩
  have hB6 := bThen hB5 hb6
  clear hb6 hB5
  go_wp2_with fail
  refine (P37.out _).mono ?_
  rintro e w7 ⟨rfl, hb7⟩
  have hB7 := bThen hB6 hb7
  clear hb7 hB6
  go_wp2_with fail
  refine (P47.out _).mono ?_
  rintro e w8 ⟨rfl, hb8⟩
  have hB8 := bThen hB7 hb8
  clear hb8 hB7
  go_wp2_with fail
  refine (P48.out _).mono ?_
  rintro e w9 ⟨rfl, rfl⟩
  go_wp2_with fail
  refine (P49.out _).mono ?_
  rintro e w9 ⟨rfl, rfl⟩
  go_wp2_with fail
  go_ret
  exact ⟨rfl, hB8⟩
end Go.Proofs.YtifhiefdhhmdeaaGreatDoor
