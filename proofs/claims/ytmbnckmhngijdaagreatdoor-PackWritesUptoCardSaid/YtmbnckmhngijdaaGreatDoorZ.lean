/- Contracts of the reader's takeText. -/
import Derived.Test.YtmbnckmhngijdaaGreatDoorY
import Derived.Deep.RegionLaw
import Derived.Deep.AppendLies
namespace Go.Proofs.YtmbnckmhngijdaaGreatDoor
open Go Go.RowKit

theorem t97 (s : ByteArray) (w : World) (hs : s.size ≤ 3000000) : Calls Tryz.prog 97 #[.string s] w fun e w' => e = .returned (.string s) ∧ Below w.heap.size w w' := by
  have C := fun w => Tryz.stringslite_Clone s w (by omega)
  go_enter Tryz.func97, Tryz.ntmps97
  go_wp2_with fail
  refine (C _).mono ?_
  rintro e w1 ⟨rfl, hb⟩
  go_wp2
  go_ret
  exact ⟨rfl, hb⟩
theorem three_new (w : World) (x y z : Value) (t : TypeId) : ∀ j u, [x, y, z][j]? = some u → (w.alloc (.cells #[x, y, z] t)).cell? ((⟨w.heap.size, 0, none⟩ : Addr).add j) = some u := by
  intro j u hj
  rw [add_addr, Nat.zero_add]
  exact (Blk.new w #[x, y, z] t).cell j hj
theorem digT_le (al : Bool) (n : Nat) (l : List UInt8) : (digT al n l).2 ≤ l.length ∧ (digT al n l).1.length ≤ 2 * l.length := by
  unfold digT
  split
  · exact ⟨Nat.le_refl _, by rw [hexL_length]; exact Nat.le_refl _⟩
  · refine ⟨Nat.min_le_right _ _, ?_⟩
    simp only [List.length_take, hexL_length]
    omega
theorem txtT_le (c : UInt8) (al : Bool) (n : Nat) (l : List UInt8) : (txtT c al n l).2 ≤ l.length ∧ (txtT c al n l).1.length ≤ l.length := by
  unfold txtT
  dsimp only
  have hz : (if al then l.length else min n l.length) ≤ l.length := by split <;> omega
  generalize (if al then l.length else min n l.length) = z at *
  have ht : (l.take z).length ≤ l.length := by rw [List.length_take]; omega
  have htw := (List.takeWhile_sublist (· != 0) (l := l.take z)).length_le
  split
  · refine ⟨hz, ?_⟩
    unfold trimRL
    have := (List.dropWhile_sublist (fun b => b == 32 || b == 0) (l := (l.take z).reverse)).length_le
    simp only [List.length_reverse] at this ⊢
    omega
  · split
    · split
      · rename_i hc
        refine ⟨?_, by simp only; omega⟩
        simp only
        split
        · have hlt : ((l.take z).takeWhile (· != 0)).length < (l.take z).length := by
            rcases Nat.lt_or_ge ((l.take z).takeWhile (· != 0)).length (l.take z).length with h | h
            · exact h
            · have e : (l.take z).takeWhile (· != 0) = l.take z := (List.takeWhile_sublist _).eq_of_length_le h
              have hm : (0 : UInt8) ∈ (l.take z).takeWhile (· != 0) := by rw [e]; simpa using hc
              have h2 := List.all_eq_true.1 (List.all_takeWhile (p := (· != (0 : UInt8))) (l := l.take z)) 0 hm
              simp at h2
          omega
        · exact hz
      · exact ⟨hz, ht⟩
    · exact ⟨hz, ht⟩
theorem textR_le (d : Dir) (l : List UInt8) : (textR d l).2 ≤ l.length ∧ (textR d l).1.length ≤ 2 * l.length := by
  rw [textR_T]
  split
  · exact digT_le _ _ _
  · have := txtT_le d.c d.all d.n l
    omega
def TkT (B gr : Nat) (s : ByteArray) (r : List UInt8 × Nat) (p : Nat) (xs : List Itm) (w : World) (e : Ending) (w' : World) : Prop :=
  e = .returned (.tuple #[]) ∧ Kp (RsS B gr w) w w' ∧ ∃ iv', Rs w' B gr s (p + r.2) iv' (xs ++ [⟨true, 0, r.1⟩])
set_option maxRecDepth 100000 in
set_option maxHeartbeats 4000000 in
theorem t72_hex (B gr p : Nat) (iv : Value) (xs : List Itm) (s : ByteArray) (d : Dir) (w : World) (hG : Gl w) (_h5 : 5 ≤ B) (h : Rs w B gr s p iv xs) (hB : B ≤ gr) (hs : s.size ≤ 1000000) (hd : d.n ≤ 1000) (hx : xs.length ≤ 60000000) (hc : d.c = 72) :
    Calls Tryz.prog 72 #[.pointer (some ⟨gr, 0, none⟩), .agg #[.int .u8 d.c.toNat, .bool false, .int .i64 (sizeC d.c), .bool d.great, .bool d.all, .int .i64 d.n]] w (TkT B gr s (textR d (s.data.toList.drop p)) p xs w) := by
  have hgw := h.blk.lt
  have hpl := h.place
  have hpi : (p : Int) ≤ s.size := by omega
  have hsi : (s.size : Int) ≤ 1000000 := by omega
  have hsl : s.data.toList.length = s.size := rfl
  have hb0 := bSelf w (.cells #[.int .u8 d.c.toNat, .bool false, .int .i64 (sizeC d.c), .bool d.great, .bool d.all, .int .i64 d.n] 81)
  have hk0 := Blk.new w #[.int .u8 d.c.toNat, .bool false, .int .i64 (sizeC d.c), .bool d.great, .bool d.all, .int .i64 d.n] 81
  obtain ⟨i0, hi, hz0, hz1, hz2⟩ := info_parts info50
  obtain ⟨t, ht⟩ : ∃ t : ByteArray, s.extract p s.size = t := ⟨_, rfl⟩
  have htl : t.data.toList = s.data.toList.drop p := by rw [← ht]; exact extract_drop s p
  have htz : t.size = s.size - p := by rw [← ht]; simp
  have htz2 : t.size ≤ 1000000 := by omega
  rw [← htl]
  obtain ⟨hr1, hr2⟩ := textR_le d t.data.toList
  have htq : t.data.toList.length = t.size := rfl
  have HRT : Hid (textR d t.data.toList = digT d.all d.n t.data.toList) := by show _ = _; rw [textR_T, if_pos hc]
  obtain ⟨T, z, hTz⟩ : ∃ (T : ByteArray) (z : Nat), textR d t.data.toList = (T.data.toList, z) := ⟨⟨(textR d t.data.toList).1.toArray⟩, (textR d t.data.toList).2, rfl⟩
  rw [hTz] at hr1 hr2 ⊢
  have hr1 : z ≤ t.size := hr1
  have hTs : T.size ≤ 2000000 := by have h1 : T.data.toList.length = T.size := rfl; simp only at hr2; omega
  have hpz : p + z ≤ s.size := by omega
  have hpzi : (p : Int) + z ≤ s.size := by omega
  have C97 := fun W => t97 T W (by omega)
  have C1 := fun W hW => t95 d.c false d.great d.all (sizeC d.c) d.n t W hW htz2 hd
  have C2 := fun W => t96 d.c false d.great d.all (sizeC d.c) d.n t W htz2 hd
  rw [← HRT.out, hTz] at C2
  obtain ⟨T0, z0, hTz0⟩ : ∃ (T0 : ByteArray) (z0 : Nat), txtT d.c d.all d.n t.data.toList = (T0.data.toList, z0) := ⟨⟨(txtT d.c d.all d.n t.data.toList).1.toArray⟩, (txtT d.c d.all d.n t.data.toList).2, rfl⟩
  rw [hTz0] at C1
  have d1 := u8_eq (n := 72) (k := 72) rfl hc
  have HW := Lib.hid h
  have HG := Lib.hid hG
  have HTT := Lib.hid ht
  have HC1 := Lib.hid C1
  have HC2 := Lib.hid C2
  clear h hG ht htl htz hTz hTz0 hc HRT htq hsl hr2 C1 C2
  have htt := HTT.out
  go_enter Tryz.func72, Tryz.ntmps72
  go_upto_region 1 with fail
  generalize w.alloc (.cells #[.int .u8 d.c.toNat, .bool false, .int .i64 (sizeC d.c), .bool d.great, .bool d.all, .int .i64 d.n] 81) = W at *
  have HB0 := Lib.hid hb0
  have HR0 := Lib.hid (HW.out.below hb0)
  obtain ⟨h0, h1, h2⟩ := HR0.out.cells
  obtain ⟨d0, d1', d2', d3', d4, d5⟩ := hk0.six
  have HK0 := Lib.hid hk0
  clear hk0 hb0
  go_quiet (fail)
  have HBQ := Lib.hid (below_drewN (Below.refl W.heap.size W) nq)
  have HGQ := Lib.hid (HG.out.below (bThen HB0.out HBQ.out))
  clear h0 h1 h2 htt
  go_wp2_with fail
  refine (HC1.out _ HGQ.out).mono ?_
  rintro e1 w1 ⟨rfl, hb1⟩
  have hB1 : Below W.heap.size W w1 := HBQ.out.trans hb1
  obtain ⟨d0, d1', d2', d3', d4, d5⟩ := (blkDown HK0.out hB1).six
  have HBW := Lib.hid hB1
  clear hB1 hb1 HC1
  go_wp2_with fail
  refine (HC2.out _).mono ?_
  rintro e2 w2 ⟨rfl, hb2⟩
  have HBW := Lib.hid (bThen HBW.out hb2)
  clear hb2 HC2
  clear d0 d1' d2' d3' d4 d5
  go_wp2_with fail
  have HRx : Hid (Rs w2.drew B gr s p iv xs) := HR0.out.below HBW.out.drew
  obtain ⟨ao, cap, rfl⟩ := row_slice HRx.out.row
  obtain ⟨_, x1, x2⟩ := HRx.out.cells
  have x1 : w2.cell? ⟨gr, 1, none⟩ = some (.int .i64 p) := x1
  have x2 : w2.cell? ⟨gr, 2, none⟩ = some (.slice ao xs.length cap) := x2
  have hBx : B ≤ w2.drew.heap.size := by have := HRx.out.blk.lt; omega
  have HC97 := Lib.hid C97
  clear C97
  go_region_law
    (first
      | (refine step_append_lies _ rfl _ _ 22 rfl B 50 i0 (.agg #[.bool false, .int .i64 0, .string ⟨#[]⟩]) 3 32 Tryz.underlying22 hi hz0 hz1 hz2 rfl (by decide) (.slice ao xs.length cap) xs.length (icells xs) rfl HIS.out ⟨wq.heap.size, 0, none⟩ 1 1 [.bool true, .int .i64 0, .string T] rfl rfl (three_new wq _ _ _ 50) ?_ (by omega) (by unfold maxLen; omega) (by omega) HBS.out _ rfl ?_
         · simp [Value.oneCell']
         intro g6 c6 w6 hown6 hgrow6 hat6 hlt6
         have HK6 := Lib.hid ((Kp.grown hgrow6).blk HBX.out HNE.out)
         have HGR := Lib.hid ((Kp.grown hgrow6).weaken (T := RsS B gr (wq.alloc (.cells #[.bool true, .int .i64 0, .string T] 50))) (fun g h => RsS.own HIS.out h))
         have HOW := Lib.hid hown6
         have g1 := HK6.out.cell 1 rfl
         have g2 := HK6.out.cell 2 rfl
         have f1 := HK6.out.free 1
         have f2 := HK6.out.free 2
         clear hgrow6 hat6 hlt6 hown6)
      | (go_simp; go_at_call 97; (with_reducible refine (HC97.out _).mono ?_); rintro e wq ⟨rfl, hbq⟩
         have HBq := Lib.hid hbq
         have HRq := Lib.hid (HRx.out.below hbq)
         have q1 := HRq.out.blk.cell 1 rfl
         have q2 := HRq.out.blk.cell 2 rfl
         have HIS := Lib.hid (HRq.out.row.below (bSelf wq (.cells #[.bool true, .int .i64 0, .string T] 50)))
         have HBX := Lib.hid (HRq.out.blk.alloc (.cells #[.bool true, .int .i64 0, .string T] 50))
         have HNE := Lib.hid (own_ne HIS.out HBX.out (by decide))
         have q3 := HBX.out.cell 2 rfl
         have hBs : B ≤ (wq.alloc (.cells #[.bool true, .int .i64 0, .string T] 50)).heap.size := by have := hbq.size; simp only [World.alloc, Array.size_push]; omega
         have HBS := Lib.hid hBs
         clear hBs hbq))
  all_goals (
    have h7 : Hid (w6.ownsRow B 50 3 (.slice (some ⟨g6, 0, none⟩) (xs.length + 1) c6) (xs.length + 1) (icells (xs ++ [⟨true, 0, T.data.toList⟩]))) := by
      show World.ownsRow _ _ _ _ _ _ _
      rw [icells_snoc]; exact HOW.out
    obtain ⟨v6, hv6⟩ : ∃ v6, Value.slice (some ⟨g6, 0, none⟩) (xs.length + 1) c6 = v6 := ⟨_, rfl⟩
    have HH7 := h7.out
    rw [hv6] at HH7
    have hkk := (HK6.out.set 2 v6).set 1 (.int .i64 ((p : Int) + z))
    have hne6 : ∀ g', Value.ownBlock v6 = some g' → ¬ g' = gr := fun g' hg' e => by subst e; exact own_ne HH7 HK6.out (by decide) hg'
    have k0 : Kp (RsS B gr W) W wq := Kp.of _ (HBW.out.drew.trans (HBq.out.mono (by have := HBW.out.size; exact this)))
    have k1 : Kp (RsS B gr wq) wq (wq.alloc (.cells #[.bool true, .int .i64 0, .string T] 50)) := Kp.of _ (bSelf wq _)
    have k2 : Kp (RsS B gr w6) w6 (w6.setCell ⟨gr, 2, none⟩ v6) := (Kp.set w6 gr 2 _).weaken (fun g h => .inl h)
    have k3 := ((Kp.set (w6.setCell ⟨gr, 2, none⟩ v6) gr 1 (.int .i64 ((p : Int) + z))).weaken (T := RsS B gr (w6.setCell ⟨gr, 2, none⟩ v6)) (fun g h => .inl h))
    have r6 := (Kp.set (w6.setCell ⟨gr, 2, none⟩ v6) gr 1 (.int .i64 ((p : Int) + z))).row ((Kp.set w6 gr 2 v6).row HH7 hne6) hne6
    have HK9 := Lib.hid (RsS.trans (Kp.of _ HB0.out) (RsS.trans k0 (RsS.trans k1 (RsS.trans HGR.out (RsS.trans k2 k3)))))
    have HR9 : Hid (Rs ((w6.setCell ⟨gr, 2, none⟩ v6).setCell ⟨gr, 1, none⟩ (.int .i64 ((p : Int) + z))) B gr s (p + z) v6 (xs ++ [⟨true, 0, T.data.toList⟩])) := by
      refine ⟨?_, is_of r6, hpz⟩
      have e : ((p + z : Nat) : Int) = (p : Int) + z := by omega
      rw [e]; exact hkk
    clear hkk k0 k1 k2 k3 hne6 r6 HH7 h7 HOW HGR HIS HBX HNE HBS x1 x2 q1 q2 q3
    subst hv6
    go_wp2
    go_end0
    exact ⟨rfl, HK9.out, _, HR9.out⟩)
set_option maxRecDepth 100000 in
set_option maxHeartbeats 4000000 in
theorem t72_txt (B gr p : Nat) (iv : Value) (xs : List Itm) (s : ByteArray) (d : Dir) (w : World) (hG : Gl w) (_h5 : 5 ≤ B) (h : Rs w B gr s p iv xs) (hB : B ≤ gr) (hs : s.size ≤ 1000000) (hd : d.n ≤ 1000) (hx : xs.length ≤ 60000000) (hc : d.c ≠ 72) :
    Calls Tryz.prog 72 #[.pointer (some ⟨gr, 0, none⟩), .agg #[.int .u8 d.c.toNat, .bool false, .int .i64 (sizeC d.c), .bool d.great, .bool d.all, .int .i64 d.n]] w (TkT B gr s (textR d (s.data.toList.drop p)) p xs w) := by
  have hgw := h.blk.lt
  have hpl := h.place
  have hpi : (p : Int) ≤ s.size := by omega
  have hsi : (s.size : Int) ≤ 1000000 := by omega
  have hsl : s.data.toList.length = s.size := rfl
  have hb0 := bSelf w (.cells #[.int .u8 d.c.toNat, .bool false, .int .i64 (sizeC d.c), .bool d.great, .bool d.all, .int .i64 d.n] 81)
  have hk0 := Blk.new w #[.int .u8 d.c.toNat, .bool false, .int .i64 (sizeC d.c), .bool d.great, .bool d.all, .int .i64 d.n] 81
  obtain ⟨i0, hi, hz0, hz1, hz2⟩ := info_parts info50
  obtain ⟨t, ht⟩ : ∃ t : ByteArray, s.extract p s.size = t := ⟨_, rfl⟩
  have htl : t.data.toList = s.data.toList.drop p := by rw [← ht]; exact extract_drop s p
  have htz : t.size = s.size - p := by rw [← ht]; simp
  have htz2 : t.size ≤ 1000000 := by omega
  rw [← htl]
  obtain ⟨hr1, hr2⟩ := textR_le d t.data.toList
  have htq : t.data.toList.length = t.size := rfl
  have HRT : Hid (textR d t.data.toList = txtT d.c d.all d.n t.data.toList) := by show _ = _; rw [textR_T, if_neg hc]
  obtain ⟨T, z, hTz⟩ : ∃ (T : ByteArray) (z : Nat), textR d t.data.toList = (T.data.toList, z) := ⟨⟨(textR d t.data.toList).1.toArray⟩, (textR d t.data.toList).2, rfl⟩
  rw [hTz] at hr1 hr2 ⊢
  have hr1 : z ≤ t.size := hr1
  have hTs : T.size ≤ 2000000 := by have h1 : T.data.toList.length = T.size := rfl; simp only at hr2; omega
  have hpz : p + z ≤ s.size := by omega
  have hpzi : (p : Int) + z ≤ s.size := by omega
  have C97 := fun W => t97 T W (by omega)
  have C1 := fun W hW => t95 d.c false d.great d.all (sizeC d.c) d.n t W hW htz2 hd
  rw [← HRT.out, hTz] at C1
  have d1 := u8_ne (n := 72) (k := 72) rfl hc
  have HW := Lib.hid h
  have HG := Lib.hid hG
  have HTT := Lib.hid ht
  have HC1 := Lib.hid C1

  clear h hG ht htl htz hTz  hc HRT htq hsl hr2 C1 
  have htt := HTT.out
  go_enter Tryz.func72, Tryz.ntmps72
  go_upto_region 1 with fail
  generalize w.alloc (.cells #[.int .u8 d.c.toNat, .bool false, .int .i64 (sizeC d.c), .bool d.great, .bool d.all, .int .i64 d.n] 81) = W at *
  have HB0 := Lib.hid hb0
  have HR0 := Lib.hid (HW.out.below hb0)
  obtain ⟨h0, h1, h2⟩ := HR0.out.cells
  obtain ⟨d0, d1', d2', d3', d4, d5⟩ := hk0.six
  have HK0 := Lib.hid hk0
  clear hk0 hb0
  go_quiet (fail)
  have HBQ := Lib.hid (below_drewN (Below.refl W.heap.size W) nq)
  have HGQ := Lib.hid (HG.out.below (bThen HB0.out HBQ.out))
  clear h0 h1 h2 htt
  go_wp2_with fail
  refine (HC1.out _ HGQ.out).mono ?_
  rintro e1 w1 ⟨rfl, hb1⟩
  have hB1 : Below W.heap.size W w1 := HBQ.out.trans hb1
  obtain ⟨d0, d1', d2', d3', d4, d5⟩ := (blkDown HK0.out hB1).six
  have HBW := Lib.hid hB1
  clear hB1 hb1 HC1
  clear d1' d2' d3' d4 d5
  go_wp2_with fail
  clear d0
  have HRx : Hid (Rs w1.drew B gr s p iv xs) := HR0.out.below HBW.out.drew
  obtain ⟨ao, cap, rfl⟩ := row_slice HRx.out.row
  obtain ⟨_, x1, x2⟩ := HRx.out.cells
  have x1 : w1.cell? ⟨gr, 1, none⟩ = some (.int .i64 p) := x1
  have x2 : w1.cell? ⟨gr, 2, none⟩ = some (.slice ao xs.length cap) := x2
  have hBx : B ≤ w1.drew.heap.size := by have := HRx.out.blk.lt; omega
  have HC97 := Lib.hid C97
  clear C97
  go_region_law
    (first
      | (refine step_append_lies _ rfl _ _ 22 rfl B 50 i0 (.agg #[.bool false, .int .i64 0, .string ⟨#[]⟩]) 3 32 Tryz.underlying22 hi hz0 hz1 hz2 rfl (by decide) (.slice ao xs.length cap) xs.length (icells xs) rfl HIS.out ⟨wq.heap.size, 0, none⟩ 1 1 [.bool true, .int .i64 0, .string T] rfl rfl (three_new wq _ _ _ 50) ?_ (by omega) (by unfold maxLen; omega) (by omega) HBS.out _ rfl ?_
         · simp [Value.oneCell']
         intro g6 c6 w6 hown6 hgrow6 hat6 hlt6
         have HK6 := Lib.hid ((Kp.grown hgrow6).blk HBX.out HNE.out)
         have HGR := Lib.hid ((Kp.grown hgrow6).weaken (T := RsS B gr (wq.alloc (.cells #[.bool true, .int .i64 0, .string T] 50))) (fun g h => RsS.own HIS.out h))
         have HOW := Lib.hid hown6
         have g1 := HK6.out.cell 1 rfl
         have g2 := HK6.out.cell 2 rfl
         have f1 := HK6.out.free 1
         have f2 := HK6.out.free 2
         clear hgrow6 hat6 hlt6 hown6)
      | (go_simp; go_at_call 97; (with_reducible refine (HC97.out _).mono ?_); rintro e wq ⟨rfl, hbq⟩
         have HBq := Lib.hid hbq
         have HRq := Lib.hid (HRx.out.below hbq)
         have q1 := HRq.out.blk.cell 1 rfl
         have q2 := HRq.out.blk.cell 2 rfl
         have HIS := Lib.hid (HRq.out.row.below (bSelf wq (.cells #[.bool true, .int .i64 0, .string T] 50)))
         have HBX := Lib.hid (HRq.out.blk.alloc (.cells #[.bool true, .int .i64 0, .string T] 50))
         have HNE := Lib.hid (own_ne HIS.out HBX.out (by decide))
         have q3 := HBX.out.cell 2 rfl
         have hBs : B ≤ (wq.alloc (.cells #[.bool true, .int .i64 0, .string T] 50)).heap.size := by have := hbq.size; simp only [World.alloc, Array.size_push]; omega
         have HBS := Lib.hid hBs
         clear hBs hbq))
  all_goals (
    have h7 : Hid (w6.ownsRow B 50 3 (.slice (some ⟨g6, 0, none⟩) (xs.length + 1) c6) (xs.length + 1) (icells (xs ++ [⟨true, 0, T.data.toList⟩]))) := by
      show World.ownsRow _ _ _ _ _ _ _
      rw [icells_snoc]; exact HOW.out
    obtain ⟨v6, hv6⟩ : ∃ v6, Value.slice (some ⟨g6, 0, none⟩) (xs.length + 1) c6 = v6 := ⟨_, rfl⟩
    have HH7 := h7.out
    rw [hv6] at HH7
    have hkk := (HK6.out.set 2 v6).set 1 (.int .i64 ((p : Int) + z))
    have hne6 : ∀ g', Value.ownBlock v6 = some g' → ¬ g' = gr := fun g' hg' e => by subst e; exact own_ne HH7 HK6.out (by decide) hg'
    have k0 : Kp (RsS B gr W) W wq := Kp.of _ (HBW.out.drew.trans (HBq.out.mono (by have := HBW.out.size; exact this)))
    have k1 : Kp (RsS B gr wq) wq (wq.alloc (.cells #[.bool true, .int .i64 0, .string T] 50)) := Kp.of _ (bSelf wq _)
    have k2 : Kp (RsS B gr w6) w6 (w6.setCell ⟨gr, 2, none⟩ v6) := (Kp.set w6 gr 2 _).weaken (fun g h => .inl h)
    have k3 := ((Kp.set (w6.setCell ⟨gr, 2, none⟩ v6) gr 1 (.int .i64 ((p : Int) + z))).weaken (T := RsS B gr (w6.setCell ⟨gr, 2, none⟩ v6)) (fun g h => .inl h))
    have r6 := (Kp.set (w6.setCell ⟨gr, 2, none⟩ v6) gr 1 (.int .i64 ((p : Int) + z))).row ((Kp.set w6 gr 2 v6).row HH7 hne6) hne6
    have HK9 := Lib.hid (RsS.trans (Kp.of _ HB0.out) (RsS.trans k0 (RsS.trans k1 (RsS.trans HGR.out (RsS.trans k2 k3)))))
    have HR9 : Hid (Rs ((w6.setCell ⟨gr, 2, none⟩ v6).setCell ⟨gr, 1, none⟩ (.int .i64 ((p : Int) + z))) B gr s (p + z) v6 (xs ++ [⟨true, 0, T.data.toList⟩])) := by
      refine ⟨?_, is_of r6, hpz⟩
      have e : ((p + z : Nat) : Int) = (p : Int) + z := by omega
      rw [e]; exact hkk
    clear hkk k0 k1 k2 k3 hne6 r6 HH7 h7 HOW HGR HIS HBX HNE HBS x1 x2 q1 q2 q3
    subst hv6
    go_wp2
    go_end0
    exact ⟨rfl, HK9.out, _, HR9.out⟩)
end Go.Proofs.YtmbnckmhngijdaaGreatDoor
