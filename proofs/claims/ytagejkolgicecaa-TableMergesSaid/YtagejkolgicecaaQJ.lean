/- The reference: Merge. -/
import Derived.Test.YtagejkolgicecaaQD
import Derived.Test.YtagejkolgicecaaQH
namespace Go.Proofs.Ytagejkolgicecaa
open Go Go.RowKit Go.Maps
inductive PutsR : List (Int × Int) → Rt → Rt → Prop
  | nil (R : Rt) : PutsR [] R R
  | snoc {ps : List (Int × Int)} {R R1 R2 : Rt} {k v c : Int} : PutsR ps R R1 → R1.PutR k v c R2 → PutsR (ps ++ [(k, v)]) R R2
def Rt.fresh (R : Rt) (ps : List (Int × Int)) : Nat := (ps.filter (fun p => R.rows.all (fun x => x.1 != p.1))).length
def Rt.MergeR (R : Rt) (ps : List (Int × Int)) (e : Int) (R' : Rt) : Prop :=
  (R.fz = true ∧ e = 13 ∧ R' = R) ∨
  (R.fz = false ∧ 0 < R.fresh ps ∧ (R.st && R.walking) = true ∧ e = 8 ∧ R' = R) ∨
  (R.fz = false ∧ (0 < R.fresh ps → (R.st && R.walking) = false) ∧ 500 < R.rows.length + R.fresh ps ∧ e = 9 ∧ R' = R) ∨
  (R.fz = false ∧ (0 < R.fresh ps → (R.st && R.walking) = false) ∧ R.rows.length + R.fresh ps ≤ 500 ∧ e = 0 ∧ PutsR ps R R')
def MJ (ps : List (Int × Int)) (R : Rt) (j : Nat) (Rj : Rt) : Prop := PutsR (ps.take j) R Rj ∧ Rj.rows.length ≤ 500 ∧ Rj.walks = R.walks ∧ Rj.now ≤ R.now + j
theorem Rt.PutR.bounds {R R' : Rt} {k v e : Int} (h : R.PutR k v e R') (hl : R.rows.length ≤ 500) : R'.rows.length ≤ 500 ∧ R'.walks = R.walks ∧ R'.now ≤ R.now + 1 ∧ R'.fz = R.fz ∧ R'.st = R.st := by
  rcases h with ⟨_, _, rfl⟩ | ⟨_, j, v0, t, _, _, _, rfl⟩ | ⟨_, _, _, _, rfl⟩ | ⟨_, _, _, _, _, rfl⟩ | ⟨_, _, _, h5, _, rfl⟩
  · exact ⟨hl, rfl, by omega, rfl, rfl⟩
  · exact ⟨by simpa using hl, rfl, by show R.now ≤ _; omega, rfl, rfl⟩
  · exact ⟨hl, rfl, by omega, rfl, rfl⟩
  · exact ⟨hl, rfl, by omega, rfl, rfl⟩
  · exact ⟨by simp; omega, rfl, Nat.le_refl _, rfl, rfl⟩
theorem fresh_take (R : Rt) (ps : List (Int × Int)) (j : Nat) (k v : Int) (h : ps[j]? = some (k, v)) :
    R.fresh (ps.take (j + 1)) = R.fresh (ps.take j) + (if R.rows.all (fun x => x.1 != k) then 1 else 0) := by
  unfold Rt.fresh
  rw [List.take_add_one, h]
  simp only [Option.toList, List.filter_append, List.length_append, List.filter_cons, List.filter_nil]
  split <;> simp
theorem fresh_le (R : Rt) (ps : List (Int × Int)) : R.fresh ps ≤ ps.length := List.length_filter_le _ _
section
variable {F G : Nat → Prop} {r s : Nat} {R R2 : Rt}
set_option maxRecDepth 100000 in
set_option maxHeartbeats 8000000 in
theorem t30 (w : World) (h : RTab F w r R) (h2 : RTab G w s R2) (hn : ∀ i, w.heap.size ≤ i → F i) (hl : R.rows.length ≤ 500) (hl2 : R2.rows.length ≤ 500) (hw : R.walks.length ≤ 1000) (hp : R.now < 4611686018427380000) :
    Calls Try.prog 30 #[.pointer (some ⟨r, 0, none⟩), .pointer (some ⟨s, 0, none⟩)] w fun e w' => ∃ (c : Int) (R' : Rt), e = .returned (.int .i64 c) ∧ R.MergeR R2.prs c R' ∧ RTab F w' r R' ∧ Turn F w w' := by
  have C31 := Lib.hid (t31 w h2 hl2)
  obtain ⟨rv, wv, hW⟩ := h
  have HPL : Hid (R2.prs.length ≤ 500) := by show _ ≤ _; simpa [Rt.prs] using hl2
  obtain ⟨ps, hps⟩ : ∃ l, l = R2.prs := ⟨_, rfl⟩
  rw [← hps] at C31 HPL ⊢
  clear h2 hps hl2
  have q0 := hW.blk.cell 0 rfl
  have q2 := hW.blk.cell 2 rfl
  have C62 := Lib.hid (t62 r w q0)
  have HW := Lib.hid hW
  have HN := Lib.hid hn
  have HP := Lib.hid hp
  have HL := Lib.hid hl
  have HWL := Lib.hid hw
  clear hW hn hp hw
  cases hfz : R.fz with
  | true =>
    have HF : Hid (R.fz = true) := hfz
    rw [hfz] at q2
    clear hfz
    go_enter Try.func30, Try.ntmps30
    go_wp2_with (go_at_call 62; refine C62.out.mono ?_; rintro e w' ⟨rfl, rfl⟩)
    go_ret
    exact ⟨13, R, rfl, .inl ⟨HF.out, rfl, rfl⟩, ⟨_, _, HW.out⟩, Turn.refl _ _⟩
  | false =>
    have HF : Hid (R.fz = false) := hfz
    rw [hfz] at q2
    clear hfz
    go_enter Try.func30, Try.ntmps30
    go_wp2_with (go_at_call 62; refine C62.out.mono ?_; rintro e w' ⟨rfl, rfl⟩)
    refine C31.out.mono ?_
    rintro e w1 ⟨v, rfl, hP, hb, hv⟩
    obtain ⟨ao, cap, rfl, hR, ho, hlt0⟩ := hP.read
    have HR := Lib.hid hR
    have HV := Lib.hid hv
    have HO := Lib.hid ho
    have HB := Lib.hid hb
    have HW1 := Lib.hid (HW.out.below hb)
    have HX : Hid (RTab (fun i => F i ∧ (Value.slice ao ps.length cap).ownBlock ≠ some i) w1 r R) := ⟨_, _, (HW.out.mono (G := fun i => F i ∧ (Value.slice ao ps.length cap).ownBlock ≠ some i) (fun k hk hf => ⟨hf, fun e => by have := hv k e; omega⟩)).below hb⟩
    have HNX : Hid (∀ i, w1.heap.size ≤ i → F i ∧ (Value.slice ao ps.length cap).ownBlock ≠ some i) := fun i hi => ⟨HN.out i (by have := hb.size; omega), fun e => by have := hlt0 i e; omega⟩
    have HRF : Hid (∀ rb, ao = some ⟨rb, 0, none⟩ → ¬ (F rb ∧ (Value.slice ao ps.length cap).ownBlock ≠ some rb)) := fun rb e hf => hf.2 (ho rb e)
    have HS0 : Hid (MJ ps R 0 R) := ⟨.nil R, hl, rfl, Nat.le_refl _⟩
    have q0 := HW1.out.blk.cell 0 rfl
    have q1 := HW1.out.blk.cell 1 rfl
    have q3 := HW1.out.blk.cell 3 rfl
    have C63 := Lib.hid (fun k => t63 w1 HW1.out (by have := HL.out; omega) k)
    have C64 := Lib.hid (t64 w1 HW1.out HWL.out)
    obtain ⟨av, cv, rfl, _, _, _⟩ := HW1.out.rows.form
    have H0 : Hid (R.fresh (ps.take 0) = 0) := rfl
    clear q2 hP hR ho hlt0 hv hb C31 C62 HW
    have hpl : (ps.length : Int) ≤ 500 := by have := HPL.out; omega
    have hrl : (R.rows.length : Int) ≤ 500 := by omega
    go_wp2_with fail
    go_loopw [7, 6] (fun i n wr => ∃ j : Nat, j ≤ ps.length ∧ i = .int .i64 j ∧ n = .int .i64 (R.fresh (ps.take j) : Nat) ∧ wr = w1) (fun i _ _ => ps.length - (intOf i).toNat)
    case atStart => exact ⟨0, Nat.zero_le _, rfl, rfl, rfl⟩
    case round =>
      obtain ⟨j, hj, rfl, rfl, rfl⟩ := hrel
      clear H0
      have HFL : Hid (R.fresh (ps.take j) ≤ j) := by
        have h1 := fresh_le R (ps.take j)
        show _ ≤ _
        rw [List.length_take] at h1; omega
      by_cases hlt : j < ps.length
      · obtain ⟨k, v, hg⟩ : ∃ k v, ps[j]? = some (k, v) := ⟨_, _, List.getElem?_eq_getElem hlt⟩
        obtain ⟨rb, rfl, c0, c1⟩ := HR.out j k v hg
        have hlt' : (j : Int) < ps.length := by omega
        have HS := Lib.hid (fresh_take R ps j k v hg)
        have C := Lib.hid (C63.out k)
        obtain ⟨c, hc⟩ : ∃ c, c = R.fresh (ps.take j) := ⟨_, rfl⟩
        rw [← hc] at HS HFL ⊢
        have hc5 : (c : Int) ≤ 500 := by have := HFL.out; omega
        clear hg hc C63 C64
        go_wp2_with fail
        refine C.out.mono ?_
        rintro e w' ⟨⟨h1, rfl⟩ | ⟨j', v', t', h1, h2, rfl⟩, rfl⟩
        · have HS2 : Hid (R.fresh (ps.take (j + 1)) = c + 1) := by
            show _ = _
            rw [HS.out, if_pos]
            rw [List.all_eq_true]; intro x hx; simpa using h1 x hx
          clear h1 HS C
          go_wp2_with fail
          go_roundw
          case rel => exact ⟨j + 1, by omega, by go_num, by rw [HS2.out]; go_num, trivial⟩
          case measure => simp [intOf]; omega
        · have HS2 : Hid (R.fresh (ps.take (j + 1)) = c) := by
            show _ = _
            rw [HS.out, if_neg, Nat.add_zero]
            intro e
            have h3 := List.all_eq_true.1 e _ (List.mem_of_getElem? h1)
            simp at h3
          clear h1 h2 HS C
          have hj0 : ¬ ((j' : Int) < 0) := by omega
          go_wp2_with fail
          go_roundw
          case rel => exact ⟨j + 1, by omega, by go_num, by rw [HS2.out], trivial⟩
          case measure => simp [intOf]; omega
      · obtain rfl : j = ps.length := by omega
        rw [List.take_length] at HFL ⊢
        obtain ⟨c, hc⟩ : ∃ c, c = R.fresh ps := ⟨_, rfl⟩
        have HC := Lib.hid hc
        rw [← hc] at HFL ⊢
        have hc5 : (c : Int) ≤ 500 := by have := HFL.out; omega
        clear hc C63 hlt
        by_cases h0 : 0 < c ∧ (R.st && R.walking) = true
        · have hc0 : (0 : Int) < c := by omega
          have hs1 : R.st = true := (Bool.and_eq_true_iff.1 h0.2).1
          have hs2 : R.walking = true := (Bool.and_eq_true_iff.1 h0.2).2
          have H0 := Lib.hid h0
          rw [hs1] at q1
          rw [hs2] at C64
          clear h0 hs1 hs2
          go_wp2_with (go_at_call 64; refine C64.out.mono ?_; rintro e w' ⟨rfl, rfl⟩)
          go_ret
          exact ⟨8, R, rfl, .inr (.inl ⟨HF.out, by rw [← HC.out]; exact H0.out.1, H0.out.2, rfl, rfl⟩), ⟨_, _, HW1.out⟩, Turn.of_below HB.out⟩
        · have HZ : Hid (0 < R.fresh ps → (R.st && R.walking) = false) := by
            show _ → _
            rw [← HC.out]
            intro h1
            cases h2 : (R.st && R.walking) with
            | true => exact absurd ⟨h1, h2⟩ h0
            | false => rfl
          obtain ⟨s0, hs0⟩ : ∃ s, s = R.st := ⟨_, rfl⟩
          obtain ⟨k0, hk0⟩ : ∃ s, s = R.walking := ⟨_, rfl⟩
          rw [← hs0] at q1
          rw [← hk0] at C64
          have H3 : (((0 : Int) < c) ∧ s0 = true ∧ k0 = false) ∨ (((0 : Int) < c) ∧ s0 = false) ∨ ¬ ((0 : Int) < c) := by
            by_cases h1 : 0 < c
            · cases h2 : s0 with
              | false => exact .inr (.inl ⟨by omega, rfl⟩)
              | true => 
                refine .inl ⟨by omega, rfl, ?_⟩
                cases h3 : k0 with
                | false => rfl
                | true => exact absurd ⟨h1, by rw [← hs0, ← hk0, h2, h3]; rfl⟩ h0
            · exact .inr (.inr (by omega))
          clear hs0 hk0 h0
          by_cases hbig : 500 < R.rows.length + c
          · have hbig' : (500 : Int) < (R.rows.length : Int) + c := by omega
            have HBIG := Lib.hid hbig
            clear hbig
            rcases H3 with ⟨g1, rfl, rfl⟩ | ⟨g1, rfl⟩ | g1
            all_goals
              go_wp2_with (go_at_call 64; refine C64.out.mono ?_; rintro e wr ⟨rfl, rfl⟩)
              (try (go_ret; exact ⟨9, R, rfl, .inr (.inr (.inl ⟨HF.out, HZ.out, by rw [← HC.out]; exact HBIG.out, rfl, rfl⟩)), ⟨_, _, HW1.out⟩, Turn.of_below HB.out⟩))
          · have hbig' : ¬ ((500 : Int) < (R.rows.length : Int) + c) := by omega
            have HBIG : Hid (R.rows.length + R.fresh ps ≤ 500) := by show _ ≤ _; rw [← HC.out]; omega
            clear hbig
            rcases H3 with ⟨g1, rfl, rfl⟩ | ⟨g1, rfl⟩ | g1
            all_goals
              go_wp2_with (go_at_call 64; refine C64.out.mono ?_; rintro e wr ⟨rfl, rfl⟩)
              clear q0 q1 q3 C64
              go_loopw [8] (fun i wx => ∃ (j : Nat) (Rj : Rt), j ≤ ps.length ∧ i = .int .i64 j ∧ Hid (MJ ps R j Rj) ∧ Hid (RTab (fun i => F i ∧ (Value.slice ao ps.length cap).ownBlock ≠ some i) wx r Rj) ∧ Hid (Turn (fun i => F i ∧ (Value.slice ao ps.length cap).ownBlock ≠ some i) wr wx)) (fun i _ => ps.length - (intOf i).toNat)
              case atStart => exact ⟨0, R, Nat.zero_le _, rfl, HS0, HX, Turn.refl _ _⟩
              case round =>
                obtain ⟨j, Rj, hj, rfl, HJ, HT, HTU⟩ := hrel
                clear HX HS0
                by_cases hlt : j < ps.length
                · obtain ⟨k, v, hg⟩ : ∃ k v, ps[j]? = some (k, v) := ⟨_, _, List.getElem?_eq_getElem hlt⟩
                  obtain ⟨rb, rfl, c0, c1⟩ := (HR.out.turn HTU.out HRF.out) j k v hg
                  have hlt' : (j : Int) < ps.length := by omega
                  have HS : Hid (ps.take (j + 1) = ps.take j ++ [(k, v)]) := by
                    show _ = _
                    rw [List.take_add_one, hg]; rfl
                  obtain ⟨rv2, wv2, hT2⟩ := HT.out
                  have C44 := Lib.hid (fun W (hb : Below wr.heap.size wr W) => t44 W ⟨rv2, wv2, hT2.below hb⟩ (fun i hi => HNX.out i (by have := hb.size; have := HTU.out.size; omega)) HJ.out.2.1 (by rw [HJ.out.2.2.1]; exact HWL.out) (by have := HJ.out.2.2.2; have := HP.out; have := HPL.out; omega) k v)
                  clear hg hT2 HT
                  go_wp2_with fail
                  go_region_law (go_simp; go_at_call 44; refine (C44.out _ ((Below.refl _ _).drew)).mono ?_; rintro e w3 ⟨c', R3, rfl, h3, h4, h5⟩)
                  all_goals
                    obtain ⟨b1, b2, b3, _, _⟩ := h3.bounds HJ.out.2.1
                    have HJ2 : Hid (MJ ps R (j + 1) R3) := by
                      refine ⟨?_, b1, b2.trans HJ.out.2.2.1, by have := HJ.out.2.2.2; omega⟩
                      rw [HS.out]
                      exact .snoc HJ.out.1 h3
                    have HT3 := Lib.hid h4
                    have HTU3 := Lib.hid ((HTU.out.trans (Turn.of_below (Below.refl _ _).drew)).trans h5)
                    clear b1 b2 b3 h3 h4 h5 c0 c1 HTU HJ HS C44
                    go_wp2_with fail
                    go_roundw
                    case rel => exact ⟨j + 1, R3, by omega, by go_num, HJ2, HT3, HTU3⟩
                    case measure => simp [intOf]; omega
                · obtain rfl : j = ps.length := by omega
                  have HJ2 : Hid (PutsR ps R Rj) := by
                    have h1 := HJ.out.1
                    rw [List.take_length] at h1
                    exact h1
                  go_wp2
                  go_ret
                  obtain ⟨rv3, wv3, h3⟩ := HT.out
                  exact ⟨0, Rj, rfl, .inr (.inr (.inr ⟨HF.out, HZ.out, HBIG.out, rfl, HJ2.out⟩)), ⟨rv3, wv3, h3.mono (fun _ _ hf => hf.1)⟩, (Turn.of_below HB.out).trans (HTU.out.mono (fun _ _ hf => hf.1))⟩
end
end Go.Proofs.Ytagejkolgicecaa
