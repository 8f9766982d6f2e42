/- TableFull: 500 rows, 20 walks. -/
import Derived.Test.YtagejkolgicecaaL
namespace Go.Proofs.Ytagejkolgicecaa
open Go Go.RowKit Go.Maps
structure FullI (i : Nat) (S : Tb) : Prop where
  len : S.ks.length = i
  yes : ∀ x : Nat, x < i → S.has x = true
  no : ∀ x : Nat, i ≤ x → S.has x = false
  fz : S.fz = false
  st : S.st = false
  nw : S.nw = 0
  bg : S.bg = 0
  pt : S.pt ≤ i
theorem nw_set (S : Tb) (k v : Int) : (S.set k v).nw = S.nw := by unfold Tb.set; split <;> rfl
theorem bg_set (S : Tb) (k v : Int) : (S.set k v).bg = S.bg := by unfold Tb.set; split <;> rfl
theorem FullI.put {i : Nat} {S : Tb} (h : FullI i S) (n : Int) : FullI (i + 1) (S.set i n) := by
  have h0 := h.no i (Nat.le_refl _)
  refine ⟨by rw [len_set, h0, h.len]; rfl, fun x hx => ?_, fun x hx => ?_, by rw [fz_set]; exact h.fz, by rw [st_set]; exact h.st, by rw [nw_set]; exact h.nw, by rw [bg_set]; exact h.bg, by have := pt_set S i n; have := h.pt; omega⟩
  · rw [has_set]
    by_cases e : x = i
    · subst e; simp
    · rw [h.yes x (by omega)]; simp
  · rw [has_set, h.no x (by omega)]; simp; omega
theorem FullI.first : FullI 0 Tb.new := ⟨rfl, fun x hx => by omega, fun _ _ => rfl, rfl, rfl, rfl, rfl, Nat.le_refl _⟩
structure FullW (i : Nat) (S : Tb) : Prop where
  len : S.ks.length = 500
  yes : ∀ x : Nat, x < 500 → S.has x = true
  no : ∀ x : Nat, 500 ≤ x → S.has x = false
  fz : S.fz = false
  st : S.st = false
  nw : S.nw = i
  bg : S.bg = i
  pt : S.pt ≤ 500
  on : ∀ x : Nat, x < i → (S.wk x).isSome = true
theorem FullI.done {S : Tb} (h : FullI 500 S) : FullW 0 S := ⟨h.len, h.yes, h.no, h.fz, h.st, h.nw, h.bg, h.pt, fun x hx => by omega⟩
theorem FullW.walkE {i : Nat} {S : Tb} (h : FullW i S) (hi : i < 20) : S.walkE = .returned (.tuple #[.int .i64 i, .int .i64 0]) := by
  unfold Tb.walkE; rw [if_neg (by rw [h.nw]; omega), h.bg]
theorem FullW.walk {i : Nat} {S : Tb} (h : FullW i S) (hi : i < 20) : FullW (i + 1) S.walk := by
  unfold Tb.walk; rw [if_neg (by rw [h.nw]; omega)]
  refine ⟨h.len, h.yes, h.no, h.fz, h.st, by show S.nw + 1 = _; rw [h.nw], by show S.bg + 1 = _; rw [h.bg], h.pt, fun x hx => ?_⟩
  show (upd S.wk S.bg (some 0) x).isSome = true
  unfold upd
  split
  · rfl
  · rename_i hne; exact h.on x (by rw [h.bg] at hne; omega)
theorem FullW.last {S : Tb} (h : FullW 20 S) : S.walkE = .returned (.tuple #[.int .i64 0, .int .i64 9]) ∧ S.walk = S := by
  unfold Tb.walkE Tb.walk; rw [if_pos h.nw, if_pos h.nw]; exact ⟨rfl, rfl⟩
theorem FullW.full {S : Tb} (h : FullW 20 S) (v : Int) : S.allE [(500, v)] = 9 ∧ S.all [(500, v)] = S := by
  have h0 := h.no 500 (by omega)
  change S.has 500 = false at h0
  have hE : S.allE [(500, v)] = 9 := by
    unfold Tb.allE Tb.closed
    rw [h.fz, h.st, cnt_cons, h.len]
    simp [h0, Tb.cnt]
  exact ⟨hE, by unfold Tb.all; rw [hE]; rfl⟩
theorem FullW.again {S : Tb} (h : FullW 20 S) {k : Nat} (hk : k < 500) (v : Int) : S.allE [((k : Int), v)] = 0 ∧ S.all [((k : Int), v)] = S.set k v := by
  have h0 := h.yes k hk
  have hE : S.allE [((k : Int), v)] = 0 := by
    unfold Tb.allE Tb.closed
    rw [h.fz, h.st, cnt_cons, h.len, h0]
    simp [Tb.cnt]
  exact ⟨hE, by unfold Tb.all; rw [hE]; rfl⟩
theorem FullW.out {S : Tb} (h : FullW 20 S) {k : Nat} (hk : k < 500) : (S.set k 7).delE k = .returned (.tuple #[.int .i64 7, .int .i64 0]) := by
  unfold Tb.delE
  rw [if_neg (by rw [fz_set, h.fz]; simp), has_set]
  have h1 : (S.set k 7).vl k = 7 := by
    rw [set_has 7 (h.yes k hk)]
    unfold Tb.vl upd; simp
  rw [h1]; simp
theorem filter_len {k : Int} (l : List Int) (hn : l.Nodup) (hm : k ∈ l) : (l.filter (fun x => !decide (x = k))).length + 1 = l.length := by
  obtain ⟨j, hj, e⟩ := List.getElem_of_mem hm
  rw [← erase_filter l j hn (by rw [List.getElem?_eq_getElem hj, e]), List.length_eraseIdx_of_lt hj]; omega
theorem FullW.then {S : Tb} (h : FullW 20 S) (hO : Ok S) {k : Nat} (hk : k < 500) : ((S.set k 7).del k).allE [(500, 1)] = 0 ∧ ((S.set k 7).del k).all [(500, 1)] = ((S.set k 7).del k).set 500 1 ∧ (((S.set k 7).del k).set 500 1).nw = 20 ∧ (((S.set k 7).del k).set 500 1).bg = 20 ∧ (((S.set k 7).del k).set 500 1).wk = S.wk ∧ ((S.set k 7).del k).pt ≤ 500 := by
  have hd : (S.set k 7).del k = { (S.set k 7) with ks := (S.set k 7).ks.filter (fun x => !decide (x = (k : Int))), rw := upd (S.set k 7).rw k none } := by
    unfold Tb.del; rw [if_neg (by rw [fz_set, h.fz]; simp), if_pos (by rw [has_set]; simp)]
  have hks : (S.set k 7).ks = S.ks := by rw [set_has 7 (h.yes k hk)]
  have hl : ((S.set k 7).del k).ks.length = 499 := by
    rw [hd]; show ((S.set k 7).ks.filter _).length = 499
    rw [hks]
    have := filter_len (k := (k : Int)) S.ks hO.nd ((hO.mem k (wf_small (by omega))).1 (h.yes k hk))
    rw [h.len] at this; omega
  have hf : ((S.set k 7).del k).fz = false := by rw [hd]; show (S.set k 7).fz = false; rw [fz_set, h.fz]
  have hs : ((S.set k 7).del k).st = false := by rw [hd]; show (S.set k 7).st = false; rw [st_set, h.st]
  refine ⟨allE_one hf hs (by omega), all_one hf hs (by omega), ?_, ?_, ?_, ?_⟩
  · rw [nw_set, hd]; show (S.set k 7).nw = 20; rw [nw_set, h.nw]
  · rw [bg_set, hd]; show (S.set k 7).bg = 20; rw [bg_set, h.bg]
  · rw [wk_set, hd]; show (S.set k 7).wk = S.wk; rw [wk_set]
  · rw [hd]; show (S.set k 7).pt ≤ 500; rw [set_has 7 (h.yes k hk)]; exact h.pt
theorem umod (m : Int) (q : Nat) (hq : 0 < q) (hq2 : q < 1000) : ∃ k : Nat, k < q ∧ wrap64 ((IntKind.u64.wrap m).tmod (q : Int)) = (k : Int) := by
  have h1 : IntKind.u64.wrap m = m % 18446744073709551616 := by rw [IntKind.wrap_u64]
  have h0 : 0 ≤ m % 18446744073709551616 := Int.emod_nonneg _ (by omega)
  rw [h1]
  generalize m % 18446744073709551616 = x at h0
  obtain ⟨y, rfl⟩ : ∃ y : Nat, x = y := ⟨x.toNat, by omega⟩
  have h2 : ((y : Int).tmod (q : Int)) = ((y % q : Nat) : Int) := rfl
  have h3 := Nat.mod_lt y hq
  refine ⟨y % q, h3, ?_⟩
  rw [h2]
  generalize y % q = z at h3
  exact IntWalk.wrap64_in _ (by omega)
def FullAt1 (w : World) (b i : Nat) (wr : World) : Prop := ∃ S, FullI i S ∧ Tab (fun i => w.heap.size ≤ i) wr b S ∧ Below w.heap.size w wr
def FullAt2 (w : World) (b i : Nat) (wr : World) : Prop := ∃ S, FullW i S ∧ Tab (fun i => w.heap.size ≤ i) wr b S ∧ Below w.heap.size w wr
set_option maxRecDepth 100000 in
set_option maxHeartbeats 4000000 in
theorem t10 (n m : Int) (w : World) : Calls Try.prog 10 #[.int .i64 n, .int .i64 m] w fun e w' => e = .returned (.bool true) ∧ Below w.heap.size w w' := by
  have hF : Hid (∀ W : World, Below w.heap.size w W → ∀ i, W.heap.size ≤ i → (fun i => w.heap.size ≤ i) i) := fun W h i hi => Nat.le_trans h.size hi
  have hD : Hid (∀ W W' : World, Below w.heap.size w W → Turn (fun i => w.heap.size ≤ i) W W' → Below w.heap.size w W') := fun W W' h t => h.trans (t.below h.size (fun _ h => h))
  have C20 := Lib.hid (t20 (fun i => w.heap.size ≤ i) w (fun i h => h))
  go_enter Try.func10, Try.ntmps10
  go_wp2_with fail
  refine C20.out.mono ?_
  rintro e w1 ⟨b, rfl, h1, hb1, _⟩
  have h0 : Hid (FullAt1 w b 0 w1) := ⟨_, FullI.first, h1, hb1⟩
  clear h1 hb1 C20
  go_wp2_with fail
  go_loopw [6] (fun i wr => ∃ j : Nat, j ≤ 500 ∧ i = .int .i64 j ∧ Hid (FullAt1 w b j wr)) (fun i _ => 500 - (intOf i).toNat)
  case atStart => exact ⟨0, Nat.zero_le _, rfl, h0⟩
  case round =>
    obtain ⟨j, hj, rfl, HI⟩ := hrel
    clear h0
    by_cases hlt : j < 500
    · obtain ⟨S, hI, hT, hB⟩ := HI.out
      have hlt' : (j : Int) < 500 := by omega
      have C21 := Lib.hid (t21 _ b S wr hT (hF.out wr hB) (wf_small (k := j) (by omega)) n (by have := hI.pt; omega))
      rw [allE_one hI.fz hI.st (by rw [hI.len]; omega), all_one hI.fz hI.st (by rw [hI.len]; omega)] at C21
      have hNx := Lib.hid (hI.put n)
      have HB := Lib.hid hB
      clear hI hT hB HI
      go_wp2_with fail
      refine C21.out.mono ?_
      rintro e w2 ⟨rfl, hT2, hU2⟩
      have hNew : Hid (FullAt1 w b (j + 1) w2) := ⟨_, hNx.out, hT2, hD.out _ _ HB.out hU2⟩
      clear hT2 hU2
      go_wp2_with fail
      go_roundw
      case rel => exact ⟨j + 1, by omega, by go_num, hNew⟩
      case measure => simp [intOf]; omega
    · have h2 : Hid (FullAt2 w b 0 wr) := by
        obtain ⟨S, hI, hT, hB⟩ := HI.out
        have e : j = 500 := by omega
        rw [e] at hI
        exact ⟨S, hI.done, hT, hB⟩
      have hlt' : ¬ ((j : Int) < 500) := by omega
      clear HI hlt hj
      go_wp2_with fail
      go_loopw [7] (fun i w2 => ∃ j : Nat, j ≤ 20 ∧ i = .int .i64 j ∧ Hid (FullAt2 w b j w2)) (fun i _ => 20 - (intOf i).toNat)
      case atStart => exact ⟨0, Nat.zero_le _, rfl, h2⟩
      case round =>
        obtain ⟨i, hi, rfl, HI⟩ := hrel
        clear h2
        by_cases hlt2 : i < 20
        · obtain ⟨S, hI, hT, hB⟩ := HI.out
          have hlt' : (i : Int) < 20 := by omega
          have C24 := Lib.hid (t24 (S := S) _ hT (by rw [hI.bg]; omega))
          rw [hI.walkE hlt2] at C24
          have hNx := Lib.hid (hI.walk hlt2)
          have HB := Lib.hid hB
          clear hI hT hB HI
          go_wp2_with fail
          refine C24.out.mono ?_
          rintro e w3 ⟨rfl, hT3, hU3⟩
          have hNew : Hid (FullAt2 w b (i + 1) w3) := ⟨_, hNx.out, hT3, hD.out _ _ HB.out hU3⟩
          clear hT3 hU3
          go_wp2_with fail
          go_roundw
          case rel => exact ⟨i + 1, by omega, by go_num, hNew⟩
          case measure => simp [intOf]; omega
        · obtain rfl : i = 20 := by omega
          obtain ⟨S, hI, hT, hB⟩ := HI.out
          have HW := Lib.hid hI
          obtain ⟨x1, x2⟩ := hI.last
          have C24 := Lib.hid (t24 (S := S) _ hT (by rw [hI.bg]; omega))
          rw [x1, x2] at C24
          have HO := Lib.hid hT.1
          have HB := Lib.hid hB
          have hpt := hI.pt
          clear hI hT hB HI x1 x2
          go_wp2_with fail
          refine C24.out.mono ?_
          rintro e w3 ⟨rfl, hT3, hU3⟩
          have HB3 := Lib.hid (hD.out _ _ HB.out hU3)
          have C21 := Lib.hid (t21 _ b S w3 hT3 (hF.out w3 HB3.out) (k := 500) (by decide) 1 (by omega))
          rw [(HW.out.full 1).1, (HW.out.full 1).2] at C21
          obtain ⟨k, hk, ek⟩ := umod m 500 (by omega) (by omega)
          obtain ⟨q, hq, eq⟩ := umod m 20 (by omega) (by omega)
          change wrap64 ((IntKind.u64.wrap m).tmod 500) = _ at ek
          change wrap64 ((IntKind.u64.wrap m).tmod 20) = _ at eq
          obtain ⟨z1, z2, z3, z4, z5, z6⟩ := HW.out.then HO.out hk
          clear hT3 hU3 C24
          go_wp2_with fail
          refine C21.out.mono ?_
          rintro e w4 ⟨rfl, hT4, hU4⟩
          have HB4 := Lib.hid (hD.out _ _ HB3.out hU4)
          have C2 := Lib.hid (t21 _ b S w4 hT4 (hF.out w4 HB4.out) (wf_small (k := k) (by omega)) 7 (by omega))
          rw [(HW.out.again hk 7).1, (HW.out.again hk 7).2] at C2
          clear hT4 hU4 C21
          go_wp2_with fail
          refine C2.out.mono ?_
          rintro e w5 ⟨rfl, hT5, hU5⟩
          have HB5 := Lib.hid (hD.out _ _ HB4.out hU5)
          have C3 := Lib.hid (t22 w5 hT5 (k := k) (wf_small (k := k) (by omega)))
          rw [HW.out.out hk] at C3
          clear hT5 hU5 C2
          go_wp2_with fail
          refine C3.out.mono ?_
          rintro e w6 ⟨rfl, hT6, hU6⟩
          have HB6 := Lib.hid (hD.out _ _ HB5.out hU6)
          have C4 := Lib.hid (t21 _ b _ w6 hT6 (hF.out w6 HB6.out) (k := 500) (by decide) 1 (by omega))
          rw [z1, z2] at C4
          clear hT6 hU6 C3
          go_wp2_with fail
          refine C4.out.mono ?_
          rintro e w7 ⟨rfl, hT7, hU7⟩
          have HB7 := Lib.hid (hD.out _ _ HB6.out hU7)
          have C5 := Lib.hid (t27 w7 hT7 (x := q) (wf_small (k := q) (by omega)))
          have hon : (S.wk q).isSome = true := HW.out.on q hq
          generalize ((S.set k 7).del k).set 500 1 = S7 at *
          have y1 : S7.stopE q = 0 := by unfold Tb.stopE; rw [z5, if_pos hon]
          have y2 : S7.stop q = S7.over q := by unfold Tb.stop; rw [z5, if_pos hon]
          have y3 : (S7.over q).walkE = .returned (.tuple #[.int .i64 20, .int .i64 0]) := by
            unfold Tb.walkE Tb.over; simp only [z3, z4]; rfl
          have y4 : (S7.over q).bg = 20 := z4
          rw [y1, y2] at C5
          clear hT7 hU7 C4
          go_wp2_with fail
          refine C5.out.mono ?_
          rintro e w8 ⟨rfl, hT8, hU8⟩
          have HB8 := Lib.hid (hD.out _ _ HB7.out hU8)
          have C6 := Lib.hid (t24 (S := S7.over q) w8 hT8 (by rw [y4]; omega))
          rw [y3] at C6
          clear hT8 hU8 C5
          go_wp2_with fail
          refine C6.out.mono ?_
          rintro e w9 ⟨rfl, _, hU9⟩
          have HB9 := Lib.hid (hD.out _ _ HB8.out hU9)
          clear hU9
          go_wp2_with (go_at_call 15; refine (t15 _).mono ?_; rintro e w10 ⟨rfl, hb10⟩; have H10 := Lib.hid hb10; clear hb10)
          go_ret
          exact ⟨rfl, bThen HB9.out H10.out⟩
end Go.Proofs.Ytagejkolgicecaa
