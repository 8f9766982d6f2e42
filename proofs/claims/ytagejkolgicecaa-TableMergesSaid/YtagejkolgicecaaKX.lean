/- Rekey. -/
import Derived.Test.YtagejkolgicecaaKW
namespace Go.Proofs.Ytagejkolgicecaa
open Go Go.RowKit Go.Maps
theorem chN_wf (ps : List (Int × Int)) (hk : ∀ p ∈ ps, WF p.2) : ∀ s : Nat × (Int → Option Int), (∀ k v, s.2 k = some v → WF v) → ∀ k v, (ps.foldl chS s).2 k = some v → WF v := by
  induction ps with
  | nil => intro s hs; exact hs
  | cons p ps ih =>
    intro s hs
    rw [List.foldl_cons]
    refine ih (fun x hx => hk x (List.mem_cons_of_mem _ hx)) _ (fun k v h => ?_)
    unfold chS upd at h
    simp only at h
    split at h
    · cases h; exact hk p (List.mem_cons_self ..)
    · exact hs k v h
theorem rkN_wf (S : Tb) (f : Int → Option Int) (hf : ∀ k v, f k = some v → WF v) (l : List Int) (hl : ∀ k ∈ l, WF k) : ∀ s : RkS, (∀ x ∈ s.1, WF x) → ∀ x ∈ (l.foldl (rkS S f) s).1, WF x := by
  induction l with
  | nil => intro s hs; exact hs
  | cons k l ih =>
    intro s hs
    rw [List.foldl_cons]
    refine ih (fun x hx => hl x (List.mem_cons_of_mem _ hx)) _ (fun x hx => ?_)
    unfold rkS at hx
    split at hx
    · exact hs x hx
    · rcases List.mem_append.1 hx with h | h
      · exact hs x h
      · simp at h; subst h
        cases hfk : f k with
        | none => exact hl k (List.mem_cons_self ..)
        | some v => exact hf k v hfk
def Tb.rk (S : Tb) (ps : List (Int × Int)) : RkS := rkN S (chN ps).2 S.ks
def Tb.rekE (S : Tb) (ps : List (Int × Int)) : Int :=
  if (chN ps).1 ≠ ps.length then 1 else if S.fz then 13 else if S.closed && (S.rk ps).1.any (fun x => !S.has x) then 8 else if ps.any (fun x => !S.has x.1) then 3 else 0
def Tb.rekS (S : Tb) (ps : List (Int × Int)) : Tb := if S.rekE ps = 0 then { S with ks := (S.rk ps).1, rw := (S.rk ps).2 } else S
section
variable {F : Nat → Prop} {b m0 m1 : Nat} {kv : Value} {S : Tb}
def RekP (F : Nat → Prop) (b m1 : Nat) (S : Tb) (ps : List (Int × Int)) (w : World) (e : Ending) (w' : World) : Prop := e = .returned (.int .i64 (S.rekE ps)) ∧ (∃ q kv', Wit F w' b (S.rekS ps) q m1 kv') ∧ Turn F w w'
set_option maxRecDepth 100000 in
set_option maxHeartbeats 8000000 in
theorem t17 (w : World) (hO : Ok S) (h : Wit F w b S m0 m1 kv) (hn : ∀ i, w.heap.size ≤ i → F i) (ao : Option Addr) (cap : Nat) (ps : List (Int × Int)) (hr : RowsO w ao ps) (hk : ∀ p ∈ ps, WF p.1 ∧ WF p.2) (hl : ps.length ≤ 500) :
    Calls Try.prog 17 #[.pointer (some ⟨b, 0, none⟩), .slice ao ps.length cap] w (RekP F b m1 S ps w) := by
  have C54 := Lib.hid (t54 (w.alloc (.cells #[.pointer (some ⟨b, 0, none⟩)] 23)) ao cap ps (hr.below (bSelf _ _)) (fun p hp => (hk p hp).1) hl)
  have HH := Lib.hid h
  have HO := Lib.hid hO
  have HN := Lib.hid hn
  have HR := Lib.hid hr
  have HK := Lib.hid hk
  have HL := Lib.hid hl
  clear h hO hn hr hk hl
  go_enter Try.func17, Try.ntmps17
  go_wp2_with fail
  refine C54.out.mono ?_
  rintro e w1 ⟨m, rfl, hm, hb, hml⟩
  have c23 := (blkDown (Blk.new w #[.pointer (some ⟨b, 0, none⟩)] 23) hb).cell 0 rfl
  have C23 := Lib.hid (blkDown (Blk.new w #[.pointer (some ⟨b, 0, none⟩)] 23) hb)
  have HB := Lib.hid (bThen (bSelf w (.cells #[.pointer (some ⟨b, 0, none⟩)] 23)) hb)
  have HM := Lib.hid hm
  clear hm hml hb C54
  have W1 := Lib.hid (HH.out.below HB.out)
  have q0 := W1.out.blk.cell 0 rfl
  have q6 := W1.out.blk.cell 6 rfl
  have C55 := Lib.hid (t55 b m0 w1 q0)
  by_cases hd : (chN ps).1 = ps.length
  · have HD := Lib.hid hd
    have hdd : decide ((chN ps).1 = ps.length) = true := decide_eq_true hd
    rw [hdd]
    clear hd hdd
    cases hfz : S.fz with
    | true =>
      have HF : Hid (S.fz = true) := hfz
      rw [hfz] at q6
      clear hfz
      have HE : Hid (S.rekE ps = 13) := by
        show _ = _
        unfold Tb.rekE; rw [if_neg (by simp [HD.out]), HF.out]; rfl
      go_wp2_with (go_at_call 55; refine C55.out.mono ?_; rintro e w' ⟨rfl, rfl⟩)
      go_ret
      refine ⟨by rw [HE.out]; rfl, ⟨m0, kv, ?_⟩, Turn.of_below HB.out⟩
      unfold Tb.rekS; rw [HE.out, if_neg (by decide)]; exact W1.out
    | false =>
      have HF : Hid (S.fz = false) := hfz
      rw [hfz] at q6
      clear hfz
      have C56 := Lib.hid (t56 w1 HO.out W1.out m _ (chN ps).2 HM.out (fun k v h => chN_wf ps (fun p hp => (HK.out p hp).2) (0, fun _ => none) (fun _ _ h => by cases h) k v h))
      go_wp2_with (go_at_call 55; refine C55.out.mono ?_; rintro e w' ⟨rfl, rfl⟩)
      refine C56.out.mono ?_
      rintro e w2 ⟨q, v, rfl, hq, hv, hb2, hql⟩
      have HB2 := Lib.hid (bThen HB.out hb2)
      have HB2' := Lib.hid hb2
      have W2 := Lib.hid (W1.out.below hb2)
      have C2B := Lib.hid (blkDown C23.out hb2)
      have c232 := C2B.out.cell 0 rfl
      have C57 := Lib.hid (t57 w2 W2.out)
      have HQ := Lib.hid hq
      have HV := Lib.hid hv
      have HQL := Lib.hid hql
      obtain ⟨av, cv, rfl, _, _, hka⟩ := keys_form (own_down hv)
      have HKA : Hid (KsAt w2 av (rkN S (chN ps).2 S.ks).1) := fun j k hj => hka j k hj
      have hfw : ∀ k v, (chN ps).2 k = some v → WF v := fun k v h => chN_wf ps (fun p hp => (HK.out p hp).2) (0, fun _ => none) (fun _ _ h => by cases h) k v h
      have C58 := Lib.hid (t58 w2 W2.out av cv (rkN S (chN ps).2 S.ks).1 HKA.out (rkN_wf S _ hfw S.ks HO.out.wf ([], fun _ => none) (fun x hx => by cases hx)) (by
        have h1 := rkN_le S (chN ps).2 S.ks ([], fun _ => none)
        have h2 := HO.out.len
        simp only [List.length_nil] at h1
        unfold rkN; omega))
      have C60 := Lib.hid (fun W (hb : Below w2.heap.size w2 W) => t60 W (W2.out.below hb) w.heap.size (below_cell hb c232) ao cap ps ((HR.out.below HB2.out).below hb) (fun p hp => (HK.out p hp).1) HL.out)
      clear hq hv hb2 hql hka hfw C56 C55
      cases hcl : S.closed with
      | true =>
        rw [hcl] at C57
        cases ha1 : (rkN S (chN ps).2 S.ks).1.any (fun x => !S.has x) with
        | true =>
          rw [ha1] at C58
          have HE : Hid (S.rekE ps = 8) := by
            show _ = _
            unfold Tb.rekE; rw [if_neg (by simp [HD.out]), HF.out, hcl, show (S.rk ps).1.any (fun x => !S.has x) = true from ha1]; rfl
          clear hcl ha1
          go_wp2_with (go_at_call 57; refine C57.out.mono ?_; rintro e w' ⟨rfl, rfl⟩)
          refine C58.out.mono ?_
          rintro e w3 ⟨rfl, hb3⟩
          have HB3 := Lib.hid hb3
          clear hb3
          go_wp2
          go_ret
          refine ⟨by rw [HE.out]; rfl, ⟨m0, kv, ?_⟩, Turn.of_below (bThen HB2.out HB3.out)⟩
          unfold Tb.rekS; rw [HE.out, if_neg (by decide)]; exact W2.out.below HB3.out
        | false =>
          rw [ha1] at C58
          have HA1 : Hid ((S.closed && (S.rk ps).1.any (fun x => !S.has x)) = false) := by
            show _ = _
            rw [hcl, show (S.rk ps).1.any (fun x => !S.has x) = false from ha1]; rfl
          clear hcl ha1
          go_wp2_with (go_at_call 57; refine C57.out.mono ?_; rintro e w' ⟨rfl, rfl⟩)
          refine C58.out.mono ?_
          rintro e w3 ⟨rfl, hb3⟩
          have HB3 := Lib.hid hb3
          have c233 := below_cell hb3 c232
          clear hb3 C58 C57
          cases ha2 : ps.any (fun x => !S.has x.1) with
          | true =>
            have C := Lib.hid (C60.out w3 HB3.out)
            rw [ha2] at C
            have HE : Hid (S.rekE ps = 3) := by
              show _ = _
              have h1 := HA1.out
              unfold Tb.rekE; rw [if_neg (by simp [HD.out]), HF.out, h1, ha2]; rfl
            clear ha2
            go_wp2_with fail
            refine C.out.mono ?_
            rintro e w5 ⟨rfl, hb5⟩
            have HB5 := Lib.hid (bThen HB3.out hb5)
            clear hb5 C
            go_wp2
            go_ret
            refine ⟨by rw [HE.out]; rfl, ⟨m0, kv, ?_⟩, Turn.of_below (bThen HB2.out HB5.out)⟩
            unfold Tb.rekS; rw [HE.out, if_neg (by decide)]; exact W2.out.below HB5.out
          | false =>
            have C := Lib.hid (C60.out w3 HB3.out)
            rw [ha2] at C
            have HE : Hid (S.rekE ps = 0) := by
              show _ = _
              have h1 := HA1.out
              unfold Tb.rekE; rw [if_neg (by simp [HD.out]), HF.out, h1, ha2]; rfl
            clear ha2
            go_wp2_with fail
            refine C.out.mono ?_
            rintro e w5 ⟨rfl, hb5⟩
            have HB5 := Lib.hid (bThen HB3.out hb5)
            have W5 := Lib.hid (W2.out.below HB5.out)
            have C5 := Lib.hid (blkDown C2B.out HB5.out)
            clear hb5 C q0 q6 c23 c232 c233
            have p0 := W5.out.blk.cell 0 rfl
            have p1 := W5.out.blk.cell 1 rfl
            have e0 := W5.out.blk.free 0
            have e1 := W5.out.blk.free 1
            have c5 := C5.out.cell 0 rfl
            have hbn : b ≠ w.heap.size := by have := HH.out.blk.lt; omega
            go_wp2_with fail
            go_region
            all_goals go_wp2
            all_goals go_ret
            all_goals
              have HTT : Turn (fun i => i = b) w5 _ := ((turnSet w5 b 0 (.map (some q))).trans (turnSet _ b 1 (.slice av (rkN S (chN ps).2 S.ks).1.length cv))).trans (Turn.of_below (Below.refl _ _).drew)
              have hs1 := HB.out.size
              have hbl := HH.out.blk.lt
              have hm1 := HH.out.walks.lt
              have hq := HQL.out
              refine ⟨by rw [HE.out]; rfl, ⟨q, .slice av (rkN S (chN ps).2 S.ks).1.length cv, ?_⟩, (Turn.of_below (bThen HB2.out HB5.out)).trans (HTT.mono (fun i _ e => by rw [e]; exact HH.out.fb))⟩
              unfold Tb.rekS
              rw [HE.out, if_pos rfl]
              exact ⟨blkDown ((W5.out.blk.set 0 _).set 1 _) ((Below.refl _ _).drew), (HQ.out.below HB5.out).turn HTT (by omega), W5.out.walks.turn HTT (fun e => W5.out.ne1 e.symm), ownsRow_turn (own_down (ownsRow_below HV.out HB5.out)) HTT (fun g hg e => by have := own_lo HV.out g hg; omega), HH.out.fb, HN.out q (by omega), HH.out.f1, fun g hg => HN.out g (by have := own_lo HV.out g hg; omega), by omega⟩
      | false =>
        rw [hcl] at C57
        have HA1 : Hid ((S.closed && (S.rk ps).1.any (fun x => !S.has x)) = false) := by
          show _ = _
          rw [hcl]; rfl
        have HB3 : Hid (Below w2.heap.size w2 w2) := Below.refl _ _
        clear hcl C58
        cases ha2 : ps.any (fun x => !S.has x.1) with
        | true =>
          have C := Lib.hid (C60.out w2 HB3.out)
          rw [ha2] at C
          have HE : Hid (S.rekE ps = 3) := by
            show _ = _
            have h1 := HA1.out
            unfold Tb.rekE; rw [if_neg (by simp [HD.out]), HF.out, h1, ha2]; rfl
          clear ha2
          go_wp2_with (go_at_call 57; refine C57.out.mono ?_; rintro e w2 ⟨rfl, rfl⟩)
          refine C.out.mono ?_
          rintro e w5 ⟨rfl, hb5⟩
          have HB5 := Lib.hid (bThen HB3.out hb5)
          clear hb5 C
          go_wp2
          go_ret
          refine ⟨by rw [HE.out]; rfl, ⟨m0, kv, ?_⟩, Turn.of_below (bThen HB2.out HB5.out)⟩
          unfold Tb.rekS; rw [HE.out, if_neg (by decide)]; exact W2.out.below HB5.out
        | false =>
          have C := Lib.hid (C60.out w2 HB3.out)
          rw [ha2] at C
          have HE : Hid (S.rekE ps = 0) := by
            show _ = _
            have h1 := HA1.out
            unfold Tb.rekE; rw [if_neg (by simp [HD.out]), HF.out, h1, ha2]; rfl
          clear ha2
          go_wp2_with (go_at_call 57; refine C57.out.mono ?_; rintro e w2 ⟨rfl, rfl⟩)
          refine C.out.mono ?_
          rintro e w5 ⟨rfl, hb5⟩
          have HB5 := Lib.hid (bThen HB3.out hb5)
          have W5 := Lib.hid (W2.out.below HB5.out)
          have C5 := Lib.hid (blkDown C2B.out HB5.out)
          clear hb5 C q0 q6 c23 c232
          have p0 := W5.out.blk.cell 0 rfl
          have p1 := W5.out.blk.cell 1 rfl
          have e0 := W5.out.blk.free 0
          have e1 := W5.out.blk.free 1
          have c5 := C5.out.cell 0 rfl
          have hbn : b ≠ w.heap.size := by have := HH.out.blk.lt; omega
          go_wp2_with fail
          go_region
          all_goals go_wp2
          all_goals go_ret
          all_goals
            have HTT : Turn (fun i => i = b) w5 _ := ((turnSet w5 b 0 (.map (some q))).trans (turnSet _ b 1 (.slice av (rkN S (chN ps).2 S.ks).1.length cv))).trans (Turn.of_below (Below.refl _ _).drew)
            have hs1 := HB.out.size
            have hbl := HH.out.blk.lt
            have hm1 := HH.out.walks.lt
            have hq := HQL.out
            refine ⟨by rw [HE.out]; rfl, ⟨q, .slice av (rkN S (chN ps).2 S.ks).1.length cv, ?_⟩, (Turn.of_below (bThen HB2.out HB5.out)).trans (HTT.mono (fun i _ e => by rw [e]; exact HH.out.fb))⟩
            unfold Tb.rekS
            rw [HE.out, if_pos rfl]
            exact ⟨blkDown ((W5.out.blk.set 0 _).set 1 _) ((Below.refl _ _).drew), (HQ.out.below HB5.out).turn HTT (by omega), W5.out.walks.turn HTT (fun e => W5.out.ne1 e.symm), ownsRow_turn (own_down (ownsRow_below HV.out HB5.out)) HTT (fun g hg e => by have := own_lo HV.out g hg; omega), HH.out.fb, HN.out q (by omega), HH.out.f1, fun g hg => HN.out g (by have := own_lo HV.out g hg; omega), by omega⟩
  · have HD := Lib.hid hd
    have hdd : decide ((chN ps).1 = ps.length) = false := decide_eq_false hd
    rw [hdd]
    clear hd hdd
    have HE : Hid (S.rekE ps = 1) := by
      show _ = _
      unfold Tb.rekE; rw [if_pos HD.out]
    go_wp2_with fail
    go_ret
    refine ⟨by rw [HE.out]; rfl, ⟨m0, kv, ?_⟩, Turn.of_below HB.out⟩
    unfold Tb.rekS; rw [HE.out, if_neg (by decide)]; exact W1.out
end
end Go.Proofs.Ytagejkolgicecaa
namespace Go.Proofs.Ytagejkolgicecaa
open Go Go.RowKit Go.Maps
def plc (s : RkS) (x : Int) : Nat := ((s.2 x).getD (0, 0)).2
structure RkI (S : Tb) (l : List Int) (s : RkS) : Prop where
  nd : s.1.Nodup
  mem : ∀ x, (s.2 x).isSome = true ↔ x ∈ s.1
  inc : s.1.Pairwise (fun x y => plc s x < plc s y)
  src : ∀ x ∈ s.1, ∃ k ∈ l, plc s x = S.pl k
  len : s.1.length ≤ l.length
theorem RkI.step {S : Tb} {f : Int → Option Int} {l : List Int} {s : RkS} (h : RkI S l s) (k : Int) (hlt : ∀ k0 ∈ l, S.pl k0 < S.pl k) : RkI S (l ++ [k]) (rkS S f s k) := by
  unfold rkS
  generalize (f k).getD k = k'
  cases hg : s.2 k' with
  | some r =>
    obtain ⟨v2, p2⟩ := r
    have hm : k' ∈ s.1 := (h.mem k').1 (by rw [hg]; rfl)
    have hp : ∀ x, plc (s.1, upd s.2 k' (some (S.vl k, p2))) x = plc s x := fun x => by
      unfold plc upd; simp only
      split
      · rename_i e; rw [e, hg]; rfl
      · rfl
    refine ⟨h.nd, fun x => ?_, ?_, fun x hx => ?_, ?_⟩
    · show (upd s.2 k' _ x).isSome = true ↔ x ∈ s.1
      unfold upd
      split
      · rename_i e; subst e; simp [hm]
      · exact h.mem x
    · exact h.inc.imp (fun hxy => by rw [hp, hp]; exact hxy)
    · rw [hp]
      obtain ⟨k0, h1, h2⟩ := h.src x hx
      exact ⟨k0, List.mem_append_left _ h1, h2⟩
    · have := h.len; simp only [List.length_append, List.length_cons, List.length_nil]; omega
  | none =>
    have hm : k' ∉ s.1 := fun hx => by have := (h.mem k').2 hx; rw [hg] at this; cases this
    have hne : ∀ x ∈ s.1, x ≠ k' := fun x hx e => hm (e ▸ hx)
    have hp : ∀ x ∈ s.1, plc (s.1 ++ [k'], upd s.2 k' (some (S.vl k, S.pl k))) x = plc s x := fun x hx => by
      unfold plc upd; simp only; rw [if_neg (hne x hx)]
    have hq : plc (s.1 ++ [k'], upd s.2 k' (some (S.vl k, S.pl k))) k' = S.pl k := by
      unfold plc upd; simp
    refine ⟨?_, fun x => ?_, ?_, fun x hx => ?_, ?_⟩
    · exact List.nodup_append.2 ⟨h.nd, by simp, fun a ha b hb => by simp at hb; subst hb; exact hne a ha⟩
    · show (upd s.2 k' _ x).isSome = true ↔ x ∈ s.1 ++ [k']
      unfold upd
      split
      · rename_i e; subst e; simp
      · rename_i e; rw [h.mem x]; simp [e]
    · refine List.pairwise_append.2 ⟨?_, by simp, fun a ha b hb => ?_⟩
      · exact h.inc.imp_of_mem (fun ha hb hab => by rw [hp _ ha, hp _ hb]; exact hab)
      · simp at hb; subst hb
        rw [hp a ha, hq]
        obtain ⟨k0, h1, h2⟩ := h.src a ha
        rw [h2]; exact hlt k0 h1
    · rcases List.mem_append.1 hx with hx | hx
      · rw [hp x hx]
        obtain ⟨k0, h1, h2⟩ := h.src x hx
        exact ⟨k0, List.mem_append_left _ h1, h2⟩
      · simp at hx; subst hx
        exact ⟨k, by simp, hq⟩
    · have := h.len; simp only [List.length_append, List.length_cons, List.length_nil]; omega
theorem rkI_all {S : Tb} {f : Int → Option Int} : ∀ (r l : List Int) (s : RkS), RkI S l s → (l ++ r).Pairwise (fun x y => S.pl x < S.pl y) → RkI S (l ++ r) (r.foldl (rkS S f) s)
  | [], l, s, h, _ => by simpa using h
  | k :: r, l, s, h, hp => by
    have h1 : RkI S (l ++ [k]) (rkS S f s k) := h.step k (fun k0 hk0 => (List.pairwise_append.1 hp).2.2 k0 hk0 k (List.mem_cons_self ..))
    have h2 := rkI_all (f := f) r (l ++ [k]) (rkS S f s k) h1 (by simpa using hp)
    simpa using h2
theorem rkI {S : Tb} (h : Ok S) (f : Int → Option Int) : RkI S S.ks (rkN S f S.ks) := by
  have h1 := rkI_all (S := S) (f := f) S.ks [] ([], fun _ => none) ⟨List.nodup_nil, by simp, List.Pairwise.nil, by simp, Nat.le_refl _⟩ (by simpa using h.inc)
  simpa [rkN] using h1
theorem Ok.rekS {S : Tb} (h : Ok S) (ps : List (Int × Int)) (hk : ∀ p ∈ ps, WF p.2) : Ok (S.rekS ps) := by
  unfold Tb.rekS
  split
  · have hI := rkI h (chN ps).2
    have hw := rkN_wf S (chN ps).2 (fun k v h => chN_wf ps hk (0, fun _ => none) (fun _ _ h => by cases h) k v h) S.ks h.wf ([], fun _ => none) (fun x hx => by cases hx)
    refine ⟨hI.nd, hw, fun x _ => hI.mem x, hI.inc, fun x hx => ?_, ?_, h.wlen, h.won⟩
    · obtain ⟨k, h1, h2⟩ := hI.src x hx
      have h3 := h.lo k h1
      show 1 ≤ plc (S.rk ps) x ∧ plc (S.rk ps) x ≤ S.pt
      have h4 : plc (S.rk ps) x = S.pl k := h2
      rw [h4]; exact h3
    · have := hI.len; have := h.len; show (rkN S (chN ps).2 S.ks).1.length ≤ 500; omega
  · exact h
end Go.Proofs.Ytagejkolgicecaa
namespace Go.Proofs.Ytagejkolgicecaa
open Go Go.RowKit Go.Maps
theorem t54b (w : World) (ao : Option Addr) (n cap : Nat) (hl : 500 < n) : Calls Try.prog 54 #[.slice ao n cap] w fun e w' => e = .returned (.tuple #[.map none, .bool false]) ∧ w' = w := by
  have hl' : (500 : Int) < n := by omega
  go_enter Try.func54, Try.ntmps54
  go_wp2
  go_ret2
  exact ⟨rfl, rfl⟩
theorem t17b (w : World) (ap : Option Addr) (ao : Option Addr) (n cap : Nat) (hl : 500 < n) : Calls Try.prog 17 #[.pointer ap, .slice ao n cap] w fun e w' => e = .returned (.int .i64 1) ∧ Below w.heap.size w w' := by
  have C54 := Lib.hid (t54b (w.alloc (.cells #[.pointer ap] 23)) ao n cap hl)
  clear hl
  go_enter Try.func17, Try.ntmps17
  go_wp2_with fail
  refine C54.out.mono ?_
  rintro e w1 ⟨rfl, rfl⟩
  go_wp2
  go_ret
  exact ⟨rfl, bSelf w _⟩
theorem t17z (w : World) (ap : Option Addr) (h : NoneT w (.pointer ap)) (ao : Option Addr) (cap : Nat) (ps : List (Int × Int)) (hr : RowsO w ao ps) (hk : ∀ p ∈ ps, WF p.1) (hl : ps.length ≤ 500) :
    Calls Try.prog 17 #[.pointer ap, .slice ao ps.length cap] w fun e w' => e = .returned (.int .i64 1) ∧ Below w.heap.size w w' := by
  have C54 := Lib.hid (t54 (w.alloc (.cells #[.pointer ap] 23)) ao cap ps (hr.below (bSelf _ _)) hk hl)
  have H := Lib.hid h
  clear h hr hk hl
  go_enter Try.func17, Try.ntmps17
  go_wp2_with fail
  refine C54.out.mono ?_
  rintro e w1 ⟨m, rfl, _, hb1, _⟩
  have hc := (blkDown (Blk.new w #[.pointer ap] 23) hb1).cell 0 rfl
  have HB := Lib.hid (bThen (bSelf w (.cells #[.pointer ap] 23)) hb1)
  clear hb1 C54
  cases hd : decide ((chN ps).1 = ps.length) with
  | true =>
    clear hd
    go_wp2_with (go_at_call 55; refine (H.out _ HB.out).mono ?_; rintro e w' ⟨rfl, rfl⟩)
    go_ret
    exact ⟨rfl, HB.out⟩
  | false =>
    clear hd
    go_wp2_with fail
    go_ret
    exact ⟨rfl, HB.out⟩
end Go.Proofs.Ytagejkolgicecaa
