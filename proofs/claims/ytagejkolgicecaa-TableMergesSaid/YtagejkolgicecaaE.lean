/- putAll, Put. -/
import Derived.Test.YtagejkolgicecaaD
namespace Go.Proofs.Ytagejkolgicecaa
open Go Go.RowKit Go.Maps

def Tb.cnt (S : Tb) (rs : List (Int × Int)) : Nat := rs.countP (fun r => !S.has r.1)
def Tb.allE (S : Tb) (rs : List (Int × Int)) : Int := if S.fz then 13 else if decide (0 < S.cnt rs) && S.closed then 8 else if decide (500 < S.ks.length + S.cnt rs) then 9 else 0
def Tb.sets (S : Tb) (rs : List (Int × Int)) : Tb := rs.foldl (fun S r => S.set r.1 r.2) S
def Tb.all (S : Tb) (rs : List (Int × Int)) : Tb := if S.allE rs = 0 then S.sets rs else S

theorem has_set (S : Tb) (k v x : Int) : (S.set k v).has x = (decide (x = k) || S.has x) := by
  unfold Tb.set
  cases h : S.has k
  · simp only [Bool.false_eq_true, if_false]
    rw [has_upd]; split
    · rename_i e; simp [e]
    · rename_i e; simp [e]
  · simp only [if_true]
    have := has_upd S S.ks S.pt k (some (v, S.pl k)) x
    rw [this]; split
    · rename_i e; simp [e]
    · rename_i e; simp [e]
theorem len_set (S : Tb) (k v : Int) : (S.set k v).ks.length = S.ks.length + (if S.has k then 0 else 1) := by
  unfold Tb.set; cases S.has k <;> simp
theorem pt_set (S : Tb) (k v : Int) : (S.set k v).pt ≤ S.pt + 1 := by
  unfold Tb.set; cases S.has k <;> simp
theorem cnt_set (S : Tb) (k v : Int) (rs : List (Int × Int)) (h : ∀ r ∈ rs, r.1 ≠ k) : (S.set k v).cnt rs = S.cnt rs := by
  unfold Tb.cnt
  refine List.countP_congr (fun r hr => ?_)
  rw [has_set]; simp [h r hr]
theorem cnt_cons (S : Tb) (r : Int × Int) (rs : List (Int × Int)) : S.cnt (r :: rs) = (if S.has r.1 then 0 else 1) + S.cnt rs := by
  unfold Tb.cnt; rw [List.countP_cons]; cases S.has r.1 <;> simp <;> omega

def RowsAt (w : World) (ao : Option Addr) (rs : List (Int × Int)) : Prop :=
  ∀ (j : Nat) (k v : Int), rs[j]? = some (k, v) → ∃ rb, ao = some ⟨rb, 0, none⟩ ∧ w.cell? ⟨rb, j * 2, none⟩ = some (.int .i64 k) ∧ w.cell? ⟨rb, j * 2 + 1, none⟩ = some (.int .i64 v)
theorem RowsAt.below {w w' : World} {ao : Option Addr} {rs : List (Int × Int)} (h : RowsAt w ao rs) (hb : Below w.heap.size w w') : RowsAt w' ao rs := fun j k v hj => by
  obtain ⟨rb, h1, h2, h3⟩ := h j k v hj
  exact ⟨rb, h1, below_cell hb h2, below_cell hb h3⟩
theorem RowsAt.turn {F : Nat → Prop} {w w' : World} {ao : Option Addr} {rs : List (Int × Int)} (h : RowsAt w ao rs) (ht : Turn F w w') (hf : ∀ rb, ao = some ⟨rb, 0, none⟩ → ¬ F rb) : RowsAt w' ao rs := fun j k v hj => by
  obtain ⟨rb, h1, h2, h3⟩ := h j k v hj
  have hl : rb < w.heap.size := World.block_lt_of_cell? w _ h2
  have hb := ht.block rb hl (hf rb h1)
  exact ⟨rb, h1, (World.cell?_of_block (a := ⟨rb, j * 2, none⟩) hb).trans h2, (World.cell?_of_block (a := ⟨rb, j * 2 + 1, none⟩) hb).trans h3⟩
section
variable {F : Nat → Prop} {b : Nat} {S : Tb} {m0 m1 : Nat} {kv : Value}
def AllInv (F : Nat → Prop) (w0 : World) (b m0 m1 : Nat) (S : Tb) (rs : List (Int × Int)) (j : Nat) (wr : World) : Prop :=
  ∃ kv, Ok (S.sets (rs.take j)) ∧ Wit F wr b (S.sets (rs.take j)) m0 m1 kv ∧ Turn F w0 wr ∧ (S.sets (rs.take j)).ks.length + (S.sets (rs.take j)).cnt (rs.drop j) ≤ 500 ∧ (S.sets (rs.take j)).pt + (rs.length - j) < 4611686018427387904
theorem sets_succ {S : Tb} {rs : List (Int × Int)} {j : Nat} {r : Int × Int} (h : rs[j]? = some r) : S.sets (rs.take (j + 1)) = (S.sets (rs.take j)).set r.1 r.2 := by
  unfold Tb.sets
  rw [List.take_add_one, h]; simp
set_option maxRecDepth 100000 in
set_option maxHeartbeats 4000000 in
theorem t65 (w : World) (hO : Ok S) (h : Wit F w b S m0 m1 kv) (hn : ∀ i, w.heap.size ≤ i → F i) (rs : List (Int × Int)) (ao : Option Addr) (cap : Nat) (hr : RowsAt w ao rs) (hrf : ∀ rb, ao = some ⟨rb, 0, none⟩ → ¬ F rb)
    (hk : ∀ r ∈ rs, WF r.1) (hd : rs.Pairwise (fun x y => x.1 ≠ y.1)) (hrl : rs.length ≤ 500) (hp : S.pt < 4611686018427386904) :
    Calls Try.prog 65 #[.pointer (some ⟨b, 0, none⟩), .slice ao rs.length cap] w fun e w' => e = .returned (.int .i64 (S.allE rs)) ∧ (∃ kv', Wit F w' b (S.all rs) m0 m1 kv') ∧ Ok (S.all rs) ∧ Turn F w w' := by
  have q0 := h.blk.cell 0 rfl
  have q6 := h.blk.cell 6 rfl
  have C55 := Lib.hid (t55 b m0 w q0)
  have HH := Lib.hid h
  have HO := Lib.hid hO
  have HN := Lib.hid hn
  have HR := Lib.hid hr
  have HRF := Lib.hid hrf
  have HK := Lib.hid hk
  have HD := Lib.hid hd
  have HP := Lib.hid hp
  have hrl' : (rs.length : Int) ≤ 500 := by omega
  cases hfz : S.fz with
  | true =>
    have hE : S.allE rs = 13 := by unfold Tb.allE; rw [hfz]; rfl
    have hA : S.all rs = S := by unfold Tb.all; rw [hE]; rfl
    rw [hE, hA]
    rw [hfz] at q6
    clear h hO hn hr hrf hk hd hp
    go_enter Try.func65, Try.ntmps65
    go_wp2_with (go_at_call 55; refine C55.out.mono ?_; rintro e w' ⟨rfl, rfl⟩)
    go_ret
    exact ⟨rfl, ⟨kv, HH.out⟩, HO.out, Turn.refl _ _⟩
  | false =>
    rw [hfz] at q6
    have HFZ := Lib.hid hfz
    clear h hO hn hr hrf hk hd hp hfz
    go_enter Try.func65, Try.ntmps65
    go_wp2_with (go_at_call 55; refine C55.out.mono ?_; rintro e w' ⟨rfl, rfl⟩)
    go_loopw [18, 5] (fun i c wr => ∃ j : Nat, j ≤ rs.length ∧ i = .int .i64 j ∧ c = .int .i64 (S.cnt (rs.take j)) ∧ Below w'.heap.size w' wr) (fun i _ _ => rs.length - (intOf i).toNat)
    case atStart => exact ⟨0, Nat.zero_le _, rfl, rfl, Below.refl _ _⟩
    case round =>
      obtain ⟨j, hj, rfl, rfl, hb⟩ := hrel
      by_cases hlt : j < rs.length
      · obtain ⟨k, v, hg⟩ : ∃ k v, rs[j]? = some (k, v) := ⟨_, _, List.getElem?_eq_getElem hlt⟩
        obtain ⟨rb, rfl, c0, c1⟩ := HR.out.below hb j k v hg
        have hlt' : (j : Int) < rs.length := by omega
        have hcl : S.cnt (rs.take j) ≤ j := by
          have h1 := List.countP_le_length (p := fun r : Int × Int => !S.has r.1) (l := rs.take j)
          unfold Tb.cnt; simp at h1; omega
        have hcs : Hid (S.cnt (rs.take (j + 1)) = S.cnt (rs.take j) + if S.has k then 0 else 1) := by
          show _ = _
          unfold Tb.cnt
          rw [List.take_add_one, hg, List.countP_append]; cases hh : S.has k <;> simp [hh]
        have hj5 : j < 500 := by omega
        have C59 := Lib.hid (t59 (wr.alloc (.cells #[.int .i64 k, .int .i64 v] 42)) ((HH.out.below hb).below (bSelf _ _)) (HK.out (k, v) (List.mem_of_getElem? hg)))
        generalize S.cnt (rs.take j) = c at *
        clear hg
        cases hh : S.has k with
        | true =>
          rw [hh] at hcs C59
          have hcs2 : Hid (S.cnt (rs.take (j + 1)) = c) := hcs.out
          clear hcs hh
          go_wp2_with fail
          refine C59.out.mono ?_
          rintro e w1 ⟨rfl, hb1⟩
          have hB1 := Lib.hid (bThen (bAl hb (.cells #[.int .i64 k, .int .i64 v] 42)) hb1)
          clear hb hb1 c0 c1
          go_wp2_with fail
          go_roundw
          case rel => exact ⟨j + 1, by omega, by go_num, by rw [hcs2.out], hB1.out⟩
          case measure => simp [intOf]; omega
        | false =>
          rw [hh] at hcs C59
          have hcs2 : Hid (S.cnt (rs.take (j + 1)) = c + 1) := hcs.out
          clear hcs hh
          go_wp2_with fail
          refine C59.out.mono ?_
          rintro e w1 ⟨rfl, hb1⟩
          have hB1 := Lib.hid (bThen (bAl hb (.cells #[.int .i64 k, .int .i64 v] 42)) hb1)
          clear hb hb1 c0 c1
          go_wp2_with fail
          go_roundw
          case rel => exact ⟨j + 1, by omega, by go_num, by rw [hcs2.out]; go_num, hB1.out⟩
          case measure => simp [intOf]; omega
      · obtain rfl : j = rs.length := by omega
        have hlen := HO.out.len
        have q1 := (HH.out.below hb).blk.cell 1 rfl
        obtain ⟨ak, ck, rfl, _, _, _⟩ := keys_form HH.out.keys
        have hE0 : S.allE rs = if decide (0 < S.cnt rs) && S.closed then 8 else if decide (500 < S.ks.length + S.cnt rs) then 9 else 0 := by unfold Tb.allE; rw [HFZ.out]; rfl
        have HE0 := Lib.hid hE0
        have hcn : S.cnt rs ≤ rs.length := List.countP_le_length
        have HSm0 : S.ks.length + S.cnt rs ≤ 500 → Hid ((S.sets (rs.take 0)).ks.length + (S.sets (rs.take 0)).cnt (rs.drop 0) ≤ 500) := fun h => by show S.ks.length + S.cnt (rs.drop 0) ≤ 500; rw [List.drop_zero]; exact h
        rw [List.take_length]
        clear hE0
        obtain ⟨c, hc⟩ : ∃ c, c = S.cnt rs := ⟨_, rfl⟩
        rw [← hc] at HE0 HSm0 hcn ⊢
        clear hc
        by_cases h0 : c = 0
        · have hE : S.allE rs = 0 := by rw [HE0.out, h0]; simp; exact hlen
          have h0' : ¬ (0 < (c : Int)) := by omega
          have hbig' : (S.ks.length : Int) + c ≤ 500 := by omega
          have HEq := Lib.hid hE
          have HAq : Hid (S.all rs = S.sets rs) := by show _ = _; unfold Tb.all; rw [hE]; rfl
          have HSm := HSm0 (by omega)
          clear hE HSm0 HE0 h0
          have hI0 : Hid (AllInv F w' b m0 m1 S rs 0 wr) := ⟨_, HO.out, HH.out.below hb, Turn.of_below hb, HSm.out, by have h1 := HP.out; show S.pt + (rs.length - 0) < _; omega⟩
          go_wp2_with fail
          go_loopw [45] (fun i w2 => ∃ j : Nat, j ≤ rs.length ∧ i = .int .i64 j ∧ Hid (AllInv F w' b m0 m1 S rs j w2)) (fun i _ => rs.length - (intOf i).toNat)
          case atStart => exact ⟨0, Nat.zero_le _, rfl, hI0⟩
          case round =>
            clear hb
            obtain ⟨j, hj, rfl, HI⟩ := hrel
            obtain ⟨kv2, hO2, hW2, hT2, hI1, hI2⟩ := HI.out
            by_cases hlt : j < rs.length
            · obtain ⟨k, v, hg⟩ : ∃ k v, rs[j]? = some (k, v) := ⟨_, _, List.getElem?_eq_getElem hlt⟩
              have HG := Lib.hid hg
              obtain ⟨rb, rfl, c0, c1⟩ := HR.out.turn hT2 HRF.out j k v hg
              have hlt' : (j : Int) < rs.length := by omega
              have hj5 : j < 500 := by omega
              have hdr : rs.drop j = (k, v) :: rs.drop (j + 1) := by
                have h1 := List.drop_eq_getElem_cons hlt
                rw [List.getElem?_eq_getElem hlt] at hg
                rw [h1]; congr 1; simpa using hg
              have hkw : WF k := HK.out (k, v) (List.mem_of_getElem? hg)
              have hne : ∀ r ∈ rs.drop (j + 1), r.1 ≠ k := by
                have h1 := HD.out.sublist (List.drop_sublist j rs)
                rw [hdr] at h1
                exact fun r hr e => (List.pairwise_cons.1 h1).1 r hr e.symm
              rw [hdr, cnt_cons] at hI1
              have hl2 : (S.sets (rs.take j)).has k = false → (S.sets (rs.take j)).ks.length < 500 := fun h0 => by rw [h0] at hI1; simp at hI1; omega
              have C75 := Lib.hid (fun W => fun hb3 : Below _ _ W => t75 W hO2 (hW2.below hb3) (fun i hi => HN.out i (by have h1 := hT2.size; have h2 := hb3.size; omega)) hkw v hl2 (by omega))
              have HI1 := Lib.hid hI1
              have HI2 := Lib.hid hI2
              have HO2 := Lib.hid hO2
              have HT2 := Lib.hid hT2
              have HNE := Lib.hid hne
              have HKW := Lib.hid hkw
              have HL2 := Lib.hid hl2
              clear hg hI1 hI2 hO2 hT2 hne hkw hl2 hdr HI hW2
              go_wp2_with fail
              refine (C75.out _ (bSelf _ _)).mono ?_
              rintro e w3 ⟨rfl, ⟨kv3, hW3⟩, hT3⟩
              have hNew : Hid (AllInv F w' b m0 m1 S rs (j + 1) w3) := by
                refine ⟨kv3, ?_⟩
                rw [sets_succ HG.out]
                refine ⟨HO2.out.set HKW.out v HL2.out, hW3, HT2.out.trans ((Turn.of_below (bSelf _ _)).trans hT3), ?_, ?_⟩
                · rw [cnt_set _ _ _ _ HNE.out, len_set]; have h1 := HI1.out; show (S.sets (rs.take j)).ks.length + _ + _ ≤ 500; simp only at h1 ⊢; omega
                · have h1 := HI2.out; have h2 := pt_set (S.sets (rs.take j)) k v; simp only; omega
              clear hW3 hT3 c0 c1
              go_wp2_with fail
              go_roundw
              case rel => exact ⟨j + 1, by omega, by go_num, hNew⟩
              case measure => simp [intOf]; omega
            · obtain rfl : j = rs.length := by omega
              rw [List.take_length] at hO2 hW2
              have HO2 := Lib.hid hO2
              have HW2 := Lib.hid hW2
              have HT2 := Lib.hid hT2
              clear hO2 hW2 hT2 hI1 hI2 HI
              go_wp2
              go_ret
              rw [HEq.out, HAq.out]
              exact ⟨rfl, ⟨kv2, HW2.out⟩, HO2.out, HT2.out⟩
        · cases hcl : S.closed with
          | true =>
            have hE : S.allE rs = 8 := by rw [HE0.out, hcl]; simp; omega
            have HEq := Lib.hid hE
            have HAq : Hid (S.all rs = S) := by show _ = _; unfold Tb.all; rw [hE]; rfl
            have C57 := Lib.hid (t57 wr (HH.out.below hb))
            rw [hcl] at C57
            have HB := Lib.hid hb
            have h0' : 0 < (c : Int) := by omega
            clear hb hE hcl HE0 HSm0
            go_wp2_with (go_at_call 57; refine C57.out.mono ?_; rintro e wX ⟨rfl, rfl⟩)
            go_ret
            rw [HEq.out, HAq.out]
            exact ⟨rfl, ⟨_, HH.out.below HB.out⟩, HO.out, Turn.of_below HB.out⟩
          | false =>
            have C57 := Lib.hid (t57 wr (HH.out.below hb))
            rw [hcl] at C57
            have h0' : 0 < (c : Int) := by omega
            by_cases hbig : 500 < S.ks.length + c
            · have hE : S.allE rs = 9 := by rw [HE0.out, hcl]; simp [hbig]
              have HEq := Lib.hid hE
              have HAq : Hid (S.all rs = S) := by show _ = _; unfold Tb.all; rw [hE]; rfl
              have HB := Lib.hid hb
              have hbig' : 500 < (S.ks.length : Int) + c := by omega
              clear hb hE hcl HE0 HSm0
              go_wp2_with (go_at_call 57; refine C57.out.mono ?_; rintro e wX ⟨rfl, rfl⟩)
              go_ret
              rw [HEq.out, HAq.out]
              exact ⟨rfl, ⟨_, HH.out.below HB.out⟩, HO.out, Turn.of_below HB.out⟩
            · have hE : S.allE rs = 0 := by rw [HE0.out, hcl]; simp [hbig]
              have HEq := Lib.hid hE
              have HAq : Hid (S.all rs = S.sets rs) := by show _ = _; unfold Tb.all; rw [hE]; rfl
              have HSm := HSm0 (by omega)
              have hbig' : (S.ks.length : Int) + c ≤ 500 := by omega
              clear hE HSm0 hcl HE0
              have hI0 : Hid (AllInv F w' b m0 m1 S rs 0 wr) := ⟨_, HO.out, HH.out.below hb, Turn.of_below hb, HSm.out, by have h1 := HP.out; show S.pt + (rs.length - 0) < _; omega⟩
              go_wp2_with (go_at_call 57; refine C57.out.mono ?_; rintro e wX ⟨rfl, rfl⟩)
              go_loopw [45] (fun i w2 => ∃ j : Nat, j ≤ rs.length ∧ i = .int .i64 j ∧ Hid (AllInv F w' b m0 m1 S rs j w2)) (fun i _ => rs.length - (intOf i).toNat)
              case atStart => exact ⟨0, Nat.zero_le _, rfl, hI0⟩
              case round =>
                clear hb
                obtain ⟨j, hj, rfl, HI⟩ := hrel
                obtain ⟨kv2, hO2, hW2, hT2, hI1, hI2⟩ := HI.out
                by_cases hlt : j < rs.length
                · obtain ⟨k, v, hg⟩ : ∃ k v, rs[j]? = some (k, v) := ⟨_, _, List.getElem?_eq_getElem hlt⟩
                  have HG := Lib.hid hg
                  obtain ⟨rb, rfl, c0, c1⟩ := HR.out.turn hT2 HRF.out j k v hg
                  have hlt' : (j : Int) < rs.length := by omega
                  have hj5 : j < 500 := by omega
                  have hdr : rs.drop j = (k, v) :: rs.drop (j + 1) := by
                    have h1 := List.drop_eq_getElem_cons hlt
                    rw [List.getElem?_eq_getElem hlt] at hg
                    rw [h1]; congr 1; simpa using hg
                  have hkw : WF k := HK.out (k, v) (List.mem_of_getElem? hg)
                  have hne : ∀ r ∈ rs.drop (j + 1), r.1 ≠ k := by
                    have h1 := HD.out.sublist (List.drop_sublist j rs)
                    rw [hdr] at h1
                    exact fun r hr e => (List.pairwise_cons.1 h1).1 r hr e.symm
                  rw [hdr, cnt_cons] at hI1
                  have hl2 : (S.sets (rs.take j)).has k = false → (S.sets (rs.take j)).ks.length < 500 := fun h0 => by rw [h0] at hI1; simp at hI1; omega
                  have C75 := Lib.hid (fun W => fun hb3 : Below _ _ W => t75 W hO2 (hW2.below hb3) (fun i hi => HN.out i (by have h1 := hT2.size; have h2 := hb3.size; omega)) hkw v hl2 (by omega))
                  have HI1 := Lib.hid hI1
                  have HI2 := Lib.hid hI2
                  have HO2 := Lib.hid hO2
                  have HT2 := Lib.hid hT2
                  have HNE := Lib.hid hne
                  have HKW := Lib.hid hkw
                  have HL2 := Lib.hid hl2
                  clear hg hI1 hI2 hO2 hT2 hne hkw hl2 hdr HI hW2
                  go_wp2_with fail
                  refine (C75.out _ (bSelf _ _)).mono ?_
                  rintro e w3 ⟨rfl, ⟨kv3, hW3⟩, hT3⟩
                  have hNew : Hid (AllInv F w' b m0 m1 S rs (j + 1) w3) := by
                    refine ⟨kv3, ?_⟩
                    rw [sets_succ HG.out]
                    refine ⟨HO2.out.set HKW.out v HL2.out, hW3, HT2.out.trans ((Turn.of_below (bSelf _ _)).trans hT3), ?_, ?_⟩
                    · rw [cnt_set _ _ _ _ HNE.out, len_set]; have h1 := HI1.out; show (S.sets (rs.take j)).ks.length + _ + _ ≤ 500; simp only at h1 ⊢; omega
                    · have h1 := HI2.out; have h2 := pt_set (S.sets (rs.take j)) k v; simp only; omega
                  clear hW3 hT3 c0 c1
                  go_wp2_with fail
                  go_roundw
                  case rel => exact ⟨j + 1, by omega, by go_num, hNew⟩
                  case measure => simp [intOf]; omega
                · obtain rfl : j = rs.length := by omega
                  rw [List.take_length] at hO2 hW2
                  have HO2 := Lib.hid hO2
                  have HW2 := Lib.hid hW2
                  have HT2 := Lib.hid hT2
                  clear hO2 hW2 hT2 hI1 hI2 HI
                  go_wp2
                  go_ret
                  rw [HEq.out, HAq.out]
                  exact ⟨rfl, ⟨kv2, HW2.out⟩, HO2.out, HT2.out⟩
end
end Go.Proofs.Ytagejkolgicecaa
