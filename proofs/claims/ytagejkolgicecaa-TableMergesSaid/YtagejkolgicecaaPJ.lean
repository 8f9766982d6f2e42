/- TableWalks. -/
import Derived.Test.YtagejkolgicecaaPG
namespace Go.Proofs.Ytagejkolgicecaa
open Go Go.RowKit Go.Maps
/-- a walk that is under way over rows that stay -/
structure Wg (S : Tb) (x : Int) (l : List (Int × Int)) (j : Nat) : Prop where
  ok : Ok S
  keys : S.ks = l.map Prod.fst
  vals : ∀ q k v, j ≤ q → l[q]? = some (k, v) → S.vl k = v
  wk : ∃ p, S.wk x = some p ∧ ∀ q k v, l[q]? = some (k, v) → (p < S.pl k ↔ j ≤ q)
theorem Ok.mono_pl {S : Tb} (h : Ok S) {i q : Nat} {a b : Int} (hi : S.ks[i]? = some a) (hq : S.ks[q]? = some b) (hlt : i < q) : S.pl a < S.pl b := by
  have h1 := List.pairwise_iff_getElem.1 h.inc
  obtain ⟨l1, e1⟩ := List.getElem?_eq_some_iff.1 hi
  obtain ⟨l2, e2⟩ := List.getElem?_eq_some_iff.1 hq
  have := h1 i q l1 l2 hlt
  rw [e1, e2] at this; exact this
theorem Wg.first {S : Tb} (h : Ok S) (hb : S.bg < 4611686018427387904) (hn : S.nw ≠ 20) : Wg S.walk S.bg S.rows 0 := by
  have e : S.walk = { S with bg := S.bg + 1, nw := S.nw + 1, wk := upd S.wk S.bg (some 0) } := by unfold Tb.walk; rw [if_neg hn]
  refine ⟨h.walk hb, ?_, fun q k v _ hq => ?_, 0, ?_, fun q k v hq => ?_⟩
  · rw [e]; exact (rows_keys S).symm
  · rw [e]
    show S.vl k = v
    unfold Tb.rows at hq
    rw [List.getElem?_map] at hq
    cases hk : S.ks[q]? with
    | none => rw [hk] at hq; cases hq
    | some k' => rw [hk] at hq; simp at hq; obtain ⟨rfl, rfl⟩ := hq; rfl
  · rw [e]; simp [upd]
  · rw [e]
    show 0 < S.pl k ↔ _
    have hm : k ∈ S.ks := by
      have := List.mem_of_getElem? hq
      rw [← rows_keys]; exact List.mem_map_of_mem this
    have := h.lo k hm
    omega
theorem Wg.keyAt {S : Tb} {x : Int} {l : List (Int × Int)} {j q : Nat} {k v : Int} (h : Wg S x l j) (hq : l[q]? = some (k, v)) : S.ks[q]? = some k := by
  rw [h.keys, List.getElem?_map, hq]; rfl
theorem find_first {α : Type} (p : α → Bool) : ∀ (l : List α) (j : Nat) (a : α), l[j]? = some a → p a = true → (∀ i b, i < j → l[i]? = some b → p b = false) → l.find? p = some a
  | [], j, a, h, _, _ => by simp at h
  | x :: l, 0, a, h, hp, _ => by simp at h; subst h; rw [List.find?_cons, hp]
  | x :: l, j + 1, a, h, hp, hb => by
    rw [List.find?_cons, hb 0 x (by omega) rfl]
    exact find_first p l j a (by simpa using h) hp (fun i b hi hl => hb (i + 1) b (by omega) (by simpa using hl))
/-- the next row is told -/
theorem Wg.next {S : Tb} {x : Int} {l : List (Int × Int)} {j : Nat} {k v : Int} (h : Wg S x l j) (hj : l[j]? = some (k, v)) : S.nextE x = tup3 k v 0 ∧ Wg (S.next x) x l (j + 1) ∧ (S.next x).fz = S.fz ∧ (S.next x).pt = S.pt := by
  obtain ⟨p, hw, hp⟩ := h.wk
  have hf : S.front p = some k := by
    unfold Tb.front
    refine find_first _ S.ks j k (h.keyAt hj) (by simpa using (hp j k v hj).2 (Nat.le_refl _)) (fun i b hi hb => ?_)
    obtain ⟨⟨k2, v2⟩, h2⟩ : ∃ y, l[i]? = some y := by
      rw [h.keys, List.getElem?_map] at hb
      cases hl : l[i]? with
      | none => rw [hl] at hb; cases hb
      | some y => exact ⟨y, rfl⟩
    have hk2 := h.keyAt h2
    rw [hb] at hk2
    cases hk2
    simp only [decide_eq_false_iff_not]
    rw [hp i _ v2 h2]; omega
  have hv := h.vals j k v (Nat.le_refl _) hj
  have e : S.next x = { S with wk := upd S.wk x (some (S.pl k)) } := by unfold Tb.next; rw [hw]; simp only; rw [hf]
  refine ⟨by unfold Tb.nextE; rw [hw]; simp only; rw [hf]; simp only; rw [hv], ⟨?_, ?_, fun q k' v' hq hl => ?_, S.pl k, ?_, fun q k' v' hl => ?_⟩, by rw [e], by rw [e]⟩
  · rw [e]; exact h.ok.step (by rw [hw]; rfl) _
  · rw [e]; exact h.keys
  · rw [e]; exact h.vals q k' v' (by omega) hl
  · rw [e]; simp [upd]
  · rw [e]
    show S.pl k < S.pl k' ↔ _
    rcases Nat.lt_trichotomy j q with h1 | h1 | h1
    · have := h.ok.mono_pl (h.keyAt hj) (h.keyAt hl) h1; omega
    · subst h1; rw [hj] at hl; cases hl; omega
    · have := h.ok.mono_pl (h.keyAt hl) (h.keyAt hj) h1; omega
theorem Wg.last {S : Tb} {x : Int} {l : List (Int × Int)} (h : Wg S x l l.length) : S.nextE x = tup3 0 0 14 ∧ (S.next x).wk x = none := by
  obtain ⟨p, hw, hp⟩ := h.wk
  have hf : S.front p = none := by
    unfold Tb.front
    rw [List.find?_eq_none]
    intro k hk
    obtain ⟨q, hq, rfl⟩ := List.getElem_of_mem hk
    have hq2 : q < l.length := by rw [h.keys, List.length_map] at hq; exact hq
    obtain ⟨⟨ka, va⟩, h2⟩ : ∃ y, l[q]? = some y := ⟨_, List.getElem?_eq_getElem hq2⟩
    have h3 := h.keyAt h2
    rw [List.getElem?_eq_getElem hq] at h3
    have h4 : S.ks[q] = ka := by simpa using h3
    rw [h4]
    have := hp q _ _ h2
    simp only [decide_eq_true_eq]; omega
  have e : S.next x = S.over x := by unfold Tb.next; rw [hw]; simp only; rw [hf]
  refine ⟨by unfold Tb.nextE; rw [hw]; simp only; rw [hf], by rw [e]; unfold Tb.over; simp [upd]⟩
/-- the row that was told is put anew -/
theorem Wg.put {S : Tb} {x : Int} {l : List (Int × Int)} {j : Nat} {k v0 : Int} (h : Wg S x l (j + 1)) (hj : l[j]? = some (k, v0)) (hk : WF k) (v : Int) (hfz : S.fz = false) : S.allE [(k, v)] = 0 ∧ Wg (S.all [(k, v)]) x l (j + 1) ∧ (S.all [(k, v)]).fz = false ∧ (S.all [(k, v)]).pt = S.pt := by
  have hm : k ∈ S.ks := List.mem_of_getElem? (h.keyAt hj)
  have hh : S.has k = true := (h.ok.mem k hk).2 hm
  have hE : S.allE [(k, v)] = 0 := by
    have := h.ok.len
    rw [allE_put, hfz, hh]; simp; omega
  have e : S.all [(k, v)] = { S with rw := upd S.rw k (some (v, S.pl k)) } := by rw [all_ok hE]; exact set_has v hh
  have hpl : ∀ y, (S.all [(k, v)]).pl y = S.pl y := fun y => by
    rw [e]
    have := pl_upd S S.ks S.pt k (some (v, S.pl k)) y
    rw [this]
    by_cases e2 : y = k
    · rw [if_pos e2, e2]; rfl
    · rw [if_neg e2]
  obtain ⟨p, hw, hp⟩ := h.wk
  refine ⟨hE, ⟨?_, ?_, fun q k' v' hq hl => ?_, p, ?_, fun q k' v' hl => ?_⟩, by rw [e]; exact hfz, by rw [e]⟩
  · rw [all_ok hE]; exact h.ok.set hk v (fun h2 => by rw [hh] at h2; cases h2)
  · rw [e]; exact h.keys
  · rw [e]
    have h3 := vl_upd S S.ks S.pt k (some (v, S.pl k)) k'
    rw [h3, if_neg]
    · exact h.vals q k' v' hq hl
    · rintro rfl
      obtain ⟨l1, e1⟩ := List.getElem?_eq_some_iff.1 (h.keyAt hj)
      obtain ⟨l2, e2⟩ := List.getElem?_eq_some_iff.1 (h.keyAt hl)
      have := (List.getElem_inj h.ok.nd).1 (e1.trans e2.symm)
      omega
  · rw [e]; exact hw
  · rw [hpl]; exact hp q k' v' hl
theorem zrows {P : Nat → Prop} {w0 w : World} {f : Nat → Option Th} {c b : Nat} {S : Tb} (hz : Zoo P w0 w f) (hc : f c = some (.t b S)) :
    Calls Try.prog 23 #[.pointer (some ⟨b, 0, none⟩)] w fun e w' => ∃ ao cap, e = .returned (.slice ao S.rows.length cap) ∧ RowsAt w' ao S.rows ∧ Below w.heap.size w w' ∧ (∀ rb, ao = some ⟨rb, 0, none⟩ → w.heap.size ≤ rb) := by
  obtain ⟨G, hO, m0, m1, kv, hW⟩ := hz.get hc
  refine (t23 w hO hW).mono ?_
  rintro e w' ⟨v, rfl, h1, h2, h3⟩
  obtain ⟨ao, cap, rfl, h4, h5, _⟩ := h1.read
  exact ⟨ao, cap, rfl, h4, h2, fun rb e => h3 rb (h5 rb e)⟩
set_option maxRecDepth 100000 in
set_option maxHeartbeats 16000000 in
theorem t6 (w : World) (ao : Option Addr) (cap : Nat) (ds : List Dd) (hD : DsP w ao ds) (hl : ds.length ≤ 9223372036854775807) (value : Int) :
    Calls Try.prog 6 #[.slice ao ds.length cap, .int .i64 value] w fun e w' => e = .returned (.bool true) ∧ Below w.heap.size w w' := by
  have C16 := Lib.hid (t16 (Zoo.start w) 0 ao cap ds hD hl)
  clear hD
  go_enter Try.func6, Try.ntmps6
  go_wp2_with fail
  refine C16.out.mono ?_
  clear C16
  rintro e w2 ⟨t, o, r, p, S, O, R, Q, f, N, rfl, hz2, hg, hN, -⟩
  have HG := Lib.hid hg
  have HN := Lib.hid hN
  have hb4 := bSelf w2 (.cells #[.pointer (some ⟨t, 0, none⟩), .pointer (some ⟨o, 0, none⟩), .pointer (some ⟨r, 0, none⟩), .pointer (some ⟨p, 0, none⟩)] 26)
  obtain ⟨P2, hzb, hQ, hQ2, -⟩ := hz2.base hb4
  have HZX := Lib.hid (hz2.below hb4)
  have HQ2 : Hid (∀ k, k < w.heap.size → P2 k) := fun k hk => hQ2 k hk trivial
  have HP4 : Hid (P2 w2.heap.size) := hQ _ (Nat.le_refl _)
  have hk4 := Blk.new w2 #[.pointer (some ⟨t, 0, none⟩), .pointer (some ⟨o, 0, none⟩), .pointer (some ⟨r, 0, none⟩), .pointer (some ⟨p, 0, none⟩)] 26
  have HKP := Lib.hid hk4
  have HZ0 := Lib.hid hzb
  clear hz2 hg hN hk4 hb4 hzb hQ hQ2
  have hbg : S.bg < 4611686018427387904 := by have := HG.out.b5; have := HN.out; omega
  have C24 := Lib.hid (zwalk HZ0.out HG.out.ft hbg)
  go_wp2_with fail
  generalize w2.alloc (.cells #[.pointer (some ⟨t, 0, none⟩), .pointer (some ⟨o, 0, none⟩), .pointer (some ⟨r, 0, none⟩), .pointer (some ⟨p, 0, none⟩)] 26) = W3 at *
  have c0 := HKP.out.cell 0 rfl
  by_cases h20 : S.nw = 20
  · have hwe : S.walkE = .returned (.tuple #[.int .i64 0, .int .i64 9]) := by unfold Tb.walkE; rw [if_pos h20]
    rw [hwe] at C24
    clear hwe h20
    (try go_wp2_with fail)
    refine C24.out.mono ?_
    rintro e w3 ⟨rfl, hz3, -⟩
    have HBE := Lib.hid (HZX.out.back hz3 (fun k hk _ => HQ2.out k hk)).end_
    clear hz3
    go_wp2_with (go_at_call 15; refine (t15 _).mono ?_; rintro e w4 ⟨rfl, hb4⟩)
    (try go_wp2)
    go_ret
    exact ⟨rfl, HBE.out.trans (hb4.mono HBE.out.size)⟩
  · have hwe : S.walkE = .returned (.tuple #[.int .i64 S.bg, .int .i64 0]) := by unfold Tb.walkE; rw [if_neg h20]
    rw [hwe] at C24
    have HW0 := Lib.hid (Wg.first HG.out.okS hbg h20)
    have hrs : S.walk.rows = S.rows := by unfold Tb.walk; rw [if_neg h20]; rfl
    have HFZ0 : Hid (S.walk.fz = S.walk.fz ∧ S.walk.pt ≤ 1000 * N) := ⟨rfl, by have := (pt_walk S).1; have := HG.out.b1; omega⟩
    clear hwe h20
    (try go_wp2_with fail)
    refine C24.out.mono ?_
    rintro e w3 ⟨rfl, hz3, -⟩
    have C23 := Lib.hid (zrows hz3 (c := 0) (fset_same _ _ _))
    rw [hrs] at C23
    have d0 := hz3.cell HP4.out c0
    have HZ3 := Lib.hid hz3
    clear hz3 C24
    go_wp2_with fail
    refine C23.out.mono ?_
    clear C23
    rintro e w4 ⟨al, cl, rfl, hR4, hb4, hal⟩
    obtain ⟨P4, hz4, hQ4, hQ5, -⟩ := HZ3.out.base hb4
    have HZX4 := Lib.hid (HZX.out.back (HZ3.out.below hb4) (fun k hk _ => HQ2.out k hk))
    have HQ4 : Hid (∀ k, k < w.heap.size → P4 k) := fun k hk => hQ5 k (by have := HZX.out.tn.size; omega) (HQ2.out k hk)
    have HPP : Hid (P4 w2.heap.size) := hQ5 _ HKP.out.lt HP4.out
    have HPL : Hid (∀ rb, al = some ⟨rb, 0, none⟩ → P4 rb) := fun rb e => hQ4 rb (hal rb e)
    have e0 := below_cell hb4 d0
    have HR4 := Lib.hid hR4
    have HZ4 := Lib.hid hz4
    obtain ⟨l, hle⟩ : ∃ l, l = S.rows := ⟨_, rfl⟩
    have HLE := Lib.hid hle
    have HWF : Hid (∀ y ∈ S.rows, WF y.1) := (rows_ok HG.out.okS).1
    rw [← hle] at HR4 HW0 HWF ⊢
    obtain ⟨bg, hbge⟩ : ∃ x, x = S.bg := ⟨_, rfl⟩
    rw [← hbge] at HW0 ⊢
    have hll : l.length ≤ 500 := by rw [hle]; exact (rows_ok HG.out.okS).2.2
    have hbw : WF (bg : Int) := wf_nat (by omega)
    have HBW := Lib.hid hbw
    have hll' : (l.length : Int) ≤ 500 := by omega
    obtain ⟨S0, hS0⟩ : ∃ x, x = S.walk := ⟨_, rfl⟩
    have HF0 : Hid (fset f 0 (.t t S.walk) 0 = some (.t t S0)) := by rw [hS0]; exact fset_same _ _ _
    obtain ⟨f0, hf0⟩ : ∃ x, x = fset f 0 (.t t S.walk) := ⟨_, rfl⟩
    rw [← hf0] at HZ4 HF0
    rw [← hS0] at HW0 HFZ0
    clear hR4 hb4 hal hz4 hQ4 hQ5 d0 hrs hbge hle hbw hS0 hf0 HZ3 c0
    obtain ⟨fz, hfz⟩ : ∃ x, x = S0.fz := ⟨_, rfl⟩
    have HFZ1 : Hid (S0.fz = fz ∧ S0.pt ≤ 1000 * N) := ⟨hfz.symm, HFZ0.out.2⟩
    clear hfz HFZ0
    go_wp2_with fail
    go_loopw [10, 11, 12, 13] (fun i a b c wr => ∃ (j : Nat) (S' : Tb) (f' : Nat → Option Th), j ≤ l.length ∧ i = .int .i64 j ∧ Hid (Zoo P4 w4 wr f') ∧ Hid (f' 0 = some (.t t S')) ∧ Hid (Wg S' bg l j) ∧ Hid (S'.fz = fz ∧ S'.pt ≤ 1000 * N)) (fun i _ _ _ _ => l.length - (intOf i).toNat)
    case atStart => exact ⟨0, S0, f0, Nat.zero_le _, rfl, HZ4, HF0, HW0, HFZ1⟩
    case round =>
      obtain ⟨j, S1, f1, hj, rfl, HZ, HF, HW, HFZ⟩ := hrel
      clear HZ4 HF0 HW0 HFZ1
      have x0 := HZ.out.cell HPP.out e0
      have C25 := Lib.hid (znext HZ.out HF.out HBW.out)
      by_cases hlt : j < l.length
      · obtain ⟨k, v, hg⟩ : ∃ k v, l[j]? = some (k, v) := ⟨_, _, List.getElem?_eq_getElem hlt⟩
        obtain ⟨rb, hae, r0, r1⟩ := HR4.out j k v hg
        subst hae
        have hlt' : (j : Int) < l.length := by omega
        have HWK : Hid (WF k) := HWF.out (k, v) (List.mem_of_getElem? hg)
        obtain ⟨hn1, hn2, hn3, hn4⟩ := HW.out.next hg
        have HGj := Lib.hid hg
        have HW2 := Lib.hid hn2
        have HFZ2 : Hid ((S1.next bg).fz = fz ∧ (S1.next bg).pt ≤ 1000 * N) := ⟨hn3.trans HFZ.out.1, by rw [hn4]; exact HFZ.out.2⟩
        rw [hn1] at C25
        unfold tup3 at C25
        obtain ⟨S2, hS2⟩ : ∃ x, x = S1.next bg := ⟨_, rfl⟩
        rw [← hS2] at C25 HW2 HFZ2
        clear hg hn1 hn2 hn3 hn4 hS2
        go_wp2_with fail
        refine C25.out.mono ?_
        rintro e w5 ⟨rfl, hz5, -⟩
        have y0 := hz5.cell HPP.out e0
        have s0 := hz5.cell (HPL.out rb rfl) r0
        have s1 := hz5.cell (HPL.out rb rfl) r1
        have HZ5 := Lib.hid hz5
        have HF5 : Hid (fset f1 0 (.t t S2) 0 = some (.t t S2)) := fset_same _ _ _
        have C26 := Lib.hid (by
          obtain ⟨G, hG⟩ := hz5.get (fset_same f1 0 (.t t S2))
          exact t26 w5 hG)
        rw [HFZ2.out.1] at C26
        clear hz5 C25 x0 HF HZ HW HFZ r0 r1
        cases hfz : fz with
        | true =>
          rw [hfz] at C26
          go_wp2_with (go_at_call 26; refine C26.out.mono ?_; rintro e w6 ⟨rfl, rfl⟩)
          go_roundw
          case rel => exact ⟨j + 1, S2, _, by omega, by go_num, HZ5, HF5, HW2, HFZ2⟩
          case measure => simp [intOf]; omega
        | false =>
          rw [hfz] at C26
          obtain ⟨hp1, hp2, hp3, hp4⟩ := HW2.out.put HGj.out HWK.out value (HFZ2.out.1.trans hfz)
          have C21 := Lib.hid (zput HZ5.out HF5.out HWK.out value (by have := HFZ2.out.2; have := HN.out; omega))
          rw [hp1] at C21
          have HW3 := Lib.hid hp2
          have HFZ3 : Hid ((S2.all [(k, value)]).fz = fz ∧ (S2.all [(k, value)]).pt ≤ 1000 * N) := ⟨hp3.trans hfz.symm, by rw [hp4]; exact HFZ2.out.2⟩
          clear hp1 hp2 hp3 hp4 hfz
          go_wp2_with (first | (go_at_call 26; refine C26.out.mono ?_; rintro e w6 ⟨rfl, rfl⟩) | (go_at_call 21; refine C21.out.mono ?_; rintro e w7 ⟨rfl, hz7, -⟩))
          have HZ7 := Lib.hid hz7
          have HF7 : Hid (fset (fset f1 0 (.t t S2)) 0 (.t t (S2.all [(k, value)])) 0 = some (.t t (S2.all [(k, value)]))) := fset_same _ _ _
          clear hz7
          (try go_wp2_with fail)
          go_roundw
          case rel => exact ⟨j + 1, _, _, by omega, by go_num, HZ7, HF7, HW3, HFZ3⟩
          case measure => simp [intOf]; omega
      · have hlt' : ¬ ((j : Int) < l.length) := by omega
        obtain rfl : j = l.length := by omega
        obtain ⟨hn1, hn2⟩ := HW.out.last
        rw [hn1] at C25
        unfold tup3 at C25
        obtain ⟨S2, hS2⟩ : ∃ x, x = S1.next bg := ⟨_, rfl⟩
        rw [← hS2] at C25 hn2
        have hn3 : S2.nextE bg = tup3 0 0 1 := by unfold Tb.nextE; rw [hn2]
        have hn4 : S2.next bg = S2 := by unfold Tb.next; rw [hn2]
        have hn5 : S2.stopE bg = 1 := by unfold Tb.stopE; rw [hn2]; rfl
        clear hS2 hn1 hn2
        go_wp2_with fail
        refine C25.out.mono ?_
        rintro e w5 ⟨rfl, hz5, -⟩
        have y0 := hz5.cell HPP.out e0
        have C252 := Lib.hid (znext hz5 (fset_same f1 0 (.t t S2)) HBW.out)
        rw [hn3, hn4] at C252
        unfold tup3 at C252
        clear hz5 hn3 hn4 C25 x0
        go_wp2_with fail
        refine C252.out.mono ?_
        rintro e w6 ⟨rfl, hz6, -⟩
        have z0 := hz6.cell HPP.out e0
        have C27 := Lib.hid (zstop hz6 (fset_same _ 0 (.t t S2)) HBW.out)
        rw [hn5] at C27
        clear hz6 hn5 C252 y0
        go_wp2_with (first | (go_at_call 27; refine C27.out.mono ?_; rintro e w7 ⟨rfl, hz7, -⟩) | (go_at_call 15; refine (t15 _).mono ?_; rintro e w8 ⟨rfl, hb8⟩))
        have HBE := Lib.hid (HZX4.out.back hz7 (fun k hk _ => HQ4.out k hk)).end_
        (try go_wp2)
        go_ret
        exact ⟨rfl, HBE.out.trans (hb8.mono HBE.out.size)⟩
end Go.Proofs.Ytagejkolgicecaa
