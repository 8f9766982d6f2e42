/- rekeyed. -/
import Derived.Deep.Cut
import Derived.Test.YtagejkolgicecaaKV
namespace Go.Proofs.Ytagejkolgicecaa
open Go Go.RowKit Go.Maps
abbrev RkS := List Int × (Int → Option (Int × Nat))
def rkS (S : Tb) (f : Int → Option Int) (s : RkS) (k : Int) : RkS :=
  match s.2 ((f k).getD k) with
  | some (_, p) => (s.1, upd s.2 ((f k).getD k) (some (S.vl k, p)))
  | none => (s.1 ++ [(f k).getD k], upd s.2 ((f k).getD k) (some (S.vl k, S.pl k)))
def rkN (S : Tb) (f : Int → Option Int) (l : List Int) : RkS := l.foldl (rkS S f) ([], fun _ => none)
theorem rkN_take (S : Tb) (f : Int → Option Int) (l : List Int) (j : Nat) (k : Int) (h : l[j]? = some k) : rkN S f (l.take (j + 1)) = rkS S f (rkN S f (l.take j)) k := by
  unfold rkN
  rw [List.take_add_one, h, List.foldl_append]; rfl
theorem rkN_le (S : Tb) (f : Int → Option Int) (l : List Int) : ∀ s, (l.foldl (rkS S f) s).1.length ≤ s.1.length + l.length := by
  induction l with
  | nil => intro s; simp
  | cons p l ih =>
    intro s
    rw [List.foldl_cons]
    have h1 := ih (rkS S f s p)
    have h2 : (rkS S f s p).1.length ≤ s.1.length + 1 := by unfold rkS; split <;> simp
    rw [List.length_cons]; omega
theorem zero3i (w : World) : (zeroValue 3).run Try.prog w = .ok (intK.en 0) w := by kernel_rfl
theorem own_down {w : World} {B : Nat} {v : Value} {n : Nat} {xs : List Value} (h : w.ownsRow B 3 1 v n xs) : w.ownsRow 0 3 1 v n xs := by
  refine ⟨h.1, ?_⟩
  rcases h.2 with hn | ⟨g, cap, cur, rfl, hb, rest⟩
  · exact .inl hn
  · exact .inr ⟨g, cap, cur, rfl, Nat.zero_le _, rest⟩
theorem ownB_turn {B : Nat} {F : Nat → Prop} {w w' : World} {e : TypeId} {v : Value} {n : Nat} {xs : List Value} (h : w.ownsRow B e 1 v n xs) (ht : Turn F w w') (hg : ∀ g, v.ownBlock = some g → ¬ F g) : w'.ownsRow B e 1 v n xs := by
  refine ⟨h.1, ?_⟩
  rcases h.2 with hn | ⟨g, cap, cur, rfl, hb, hgg, rest⟩
  · exact .inl hn
  · exact .inr ⟨g, cap, cur, rfl, hb, (ht.block g (lt_of_block hgg) (hg g rfl)).trans hgg, rest⟩
theorem own_lo {w : World} {B : Nat} {v : Value} {n : Nat} {xs : List Value} (h : w.ownsRow B 3 1 v n xs) (g : Nat) (hg : v.ownBlock = some g) : B ≤ g := by
  rcases h.2 with ⟨rfl, _⟩ | ⟨g', cap, cur, rfl, hb, rest⟩
  · cases hg
  · cases hg; exact hb
def rkNum (f : Int → Option Int) (k : Int) : Int := (f k).getD k
section
variable {F : Nat → Prop} {b m0 m1 : Nat} {kv : Value} {S : Tb}
set_option maxRecDepth 100000 in
set_option maxHeartbeats 8000000 in
theorem t56 (w : World) (hO : Ok S) (h : Wit F w b S m0 m1 kv) (m n : Nat) (f : Int → Option Int) (hm : IMap intK w m n f) (hf : ∀ k v, f k = some v → WF v) :
    Calls Try.prog 56 #[.pointer (some ⟨b, 0, none⟩), .map (some m)] w fun e w' => ∃ q v, e = .returned (.tuple #[.map (some q), v]) ∧ IMap rowK w' q (rkN S f S.ks).1.length (rkN S f S.ks).2 ∧ w'.ownsRow w.heap.size 3 1 v (rkN S f S.ks).1.length ((rkN S f S.ks).1.map (Value.int .i64)) ∧ Below w.heap.size w w' ∧ w.heap.size ≤ q := by
  have q0 := h.blk.cell 0 rfl
  have q1 := h.blk.cell 1 rfl
  have Q0 := Lib.hid q0
  have hbl : b < w.heap.size := h.blk.lt
  have HW := Lib.hid h
  have HOk := Lib.hid hO
  have HMm := Lib.hid hm
  have HF := Lib.hid hf
  obtain ⟨ao, cap, rfl, _, _, hc⟩ := keys_form h.keys
  have HC := Lib.hid hc
  have hl := hO.len
  obtain ⟨kn, hkn⟩ : ∃ n, n = S.ks.length := ⟨_, rfl⟩
  have HKN := Lib.hid hkn
  rw [← hkn] at q1 hl
  have hl' : (kn : Int) ≤ 500 := by omega
  have H0 : Hid (IMap rowK (w.alloc (.map #[] 0)) w.heap.size (rkN S f (S.ks.take 0)).1.length (rkN S f (S.ks.take 0)).2) := IMap.made w rowK
  have HO0 : Hid ((w.alloc (.map #[] 0)).ownsRow w.heap.size 3 1 (.slice none 0 0) (rkN S f (S.ks.take 0)).1.length ((rkN S f (S.ks.take 0)).1.map (Value.int .i64))) := ⟨rfl, .inl ⟨rfl, rfl⟩⟩
  have HB0 := Lib.hid (bSelf w (.map #[] 0))
  have hmm := @run_makeMap Try.prog
  obtain ⟨i0, hi, hz0, hz1, hz2⟩ := info_parts info3
  clear h hO hm hf hc hkn
  go_enter Try.func56, Try.ntmps56
  go_wp2_with fail
  go_loopw [21, 7] (fun i t wr => ∃ (j : Nat) (av : Option Addr) (cv : Nat), j ≤ kn ∧ i = .int .i64 j ∧ t = .slice av (rkN S f (S.ks.take j)).1.length cv ∧ Hid (wr.ownsRow w.heap.size 3 1 (.slice av (rkN S f (S.ks.take j)).1.length cv) (rkN S f (S.ks.take j)).1.length ((rkN S f (S.ks.take j)).1.map (Value.int .i64))) ∧ Hid (IMap rowK wr w.heap.size (rkN S f (S.ks.take j)).1.length (rkN S f (S.ks.take j)).2) ∧ Hid (Below w.heap.size w wr)) (fun i _ _ => kn - (intOf i).toNat)
  case atStart => exact ⟨0, none, 0, Nat.zero_le _, rfl, rfl, HO0, H0, HB0⟩
  case round =>
    obtain ⟨j, av, cv, hj, rfl, rfl, HO, HM, HB⟩ := hrel
    clear H0 HO0 HB0 hmm q0 q1
    by_cases hlt : j < kn
    · obtain ⟨k, hg⟩ : ∃ k, S.ks[j]? = some k := ⟨_, List.getElem?_eq_getElem (by rw [← HKN.out]; exact hlt)⟩
      obtain ⟨g, rfl, hck⟩ := HC.out j k hg
      have c0 := below_cell HB.out hck
      have q0 := below_cell HB.out Q0.out
      have hlt' : (j : Int) < kn := by omega
      have HS := Lib.hid (rkN_take S f S.ks j k hg)
      have HLE : Hid ((rkN S f (S.ks.take j)).1.length ≤ j) := by
        have h1 := rkN_le S f (S.ks.take j) ([], fun _ => none)
        rw [List.length_take] at h1
        show (rkN S f (S.ks.take j)).1.length ≤ j
        unfold rkN
        simp only [List.length_nil] at h1
        omega
      generalize rkN S f (S.ks.take j) = s at *
      obtain ⟨l, gm⟩ := s
      simp only at HO HM HLE ⊢
      have hk : WF k := HOk.out.wf k (List.mem_of_getElem? hg)
      have HK := Lib.hid hk
      have hl67 := (HMm.out.below HB.out).look_ok Try.underlying67 0 (zero3i wr) hk
      have hl65 := ((HW.out.rows).below HB.out).look Try.underlying65 (0, 0) (zero85 wr) hk
      change _ = Result.ok (Value.agg #[.int .i64 (S.vl k), .int .i64 (S.pl k : Int)]) wr at hl65
      change _ = Result.ok (Value.tuple #[.int .i64 ((f k).getD 0), .bool (f k).isSome]) wr at hl67
      have HVL : Hid (S.vl k = S.vl k) := rfl
      obtain ⟨k', hk'⟩ : ∃ x, x = (f k).getD k := ⟨_, rfl⟩
      have HK' := Lib.hid hk'
      have hkk : (f k = none ∧ k' = k) ∨ f k = some k' := by
        cases hfk : f k with
        | none => exact .inl ⟨rfl, by rw [hk', hfk]; rfl⟩
        | some x => exact .inr (by rw [hk', hfk]; rfl)
      have hwk : WF k' := by
        rcases hkk with ⟨_, rfl⟩ | h1
        · exact hk
        · exact HF.out k k' h1
      have HWK := Lib.hid hwk
      have hlb := (HM.out.alloc (.cells #[.int .i64 (S.vl k), .int .i64 (S.pl k : Int)] 85)).look_ok Try.underlying65 (0, 0) (zero85 _) hwk
      obtain ⟨v, hv⟩ : ∃ v, v = S.vl k := ⟨_, rfl⟩
      obtain ⟨p, hp⟩ : ∃ p, p = S.pl k := ⟨_, rfl⟩
      have HV := Lib.hid hv
      have HP := Lib.hid hp
      rw [← hv, ← hp] at hl65 hlb
      have HLO := Lib.hid (fun g h => own_lo HO.out g h)
      have HN1 : Hid ((Value.slice av l.length cv).ownBlock ≠ some wr.heap.size) := fun e => by
        obtain ⟨cs, hcs⟩ := row_block (own_down HO.out) e
        have := hcs.lt; omega
      have HN2 : Hid (∀ g, (Value.slice av l.length cv).ownBlock = some g → g ≠ w.heap.size) := fun g e e2 => by
        obtain ⟨cs, hcs⟩ := row_block (own_down HO.out) e
        exact HM.out.ne hcs e2.symm
      have HBA := Lib.hid (bAl (bSelf wr (.cells #[.int .i64 (S.vl k), .int .i64 (S.pl k : Int)] 85)) (.cells #[.int .i64 0, .int .i64 0] 85))
      have hwl : w.heap.size < wr.heap.size := HM.out.lt
      clear hk hk' hwk hg hck HVL hv hp
      rcases hkk with ⟨h1, rfl⟩ | h1
      all_goals rw [h1] at hl67
      all_goals have H1 := Lib.hid h1
      all_goals clear h1
      all_goals
        cases hgk : gm k' with
        | none =>
          rw [hgk] at hlb
          change _ = Result.ok (Value.tuple #[.agg #[.int .i64 0, .int .i64 0], .bool false]) _ at hlb
          have HG := Lib.hid hgk
          clear hgk
          go_upto_region 13 with fail
          have hBl0 : Blk ((wr.alloc (.cells #[.int .i64 v, .int .i64 (p : Int)] 85)).alloc (.cells #[.int .i64 0, .int .i64 0] 85)) wr.heap.size 85 [.int .i64 v, .int .i64 (p : Int)] := (Blk.new wr _ _).alloc _
          have hBW : Below wr.heap.size wr ((wr.alloc (.cells #[.int .i64 v, .int .i64 (p : Int)] 85)).alloc (.cells #[.int .i64 0, .int .i64 0] 85)) := bAl (bSelf wr _) _
          have HBl0 := Lib.hid hBl0
          have HBW := Lib.hid hBW
          clear hBl0 hBW hl65 hl67 hlb
          generalize (wr.alloc (.cells #[.int .i64 v, .int .i64 (p : Int)] 85)).alloc (.cells #[.int .i64 0, .int .i64 0] 85) = w2 at *
          have hz2l : wr.heap.size < w2.heap.size := HBl0.out.lt
          go_wp2_with (first | (at_builtin; refine wpList_append_lies _ rfl _ _ 66 rfl w.heap.size 3 i0 (.int .i64 0) 1 8 Try.underlying66 hi hz0 hz1 hz2 rfl (by decide) (.slice av l.length cv) l.length _ rfl (ownsRow_below HO.out (bAl HBW.out _)) ⟨w2.heap.size, 0, none⟩ 1 1 [.int .i64 k'] rfl rfl (one_new w2 _ 3) (by simp [Value.oneCell']) (by omega) (by have := HLE.out; unfold maxLen; omega) (by have := HLE.out; omega) (by simp; omega) _ rfl ?_; intro g2 cap2 w3 hown3 hgrow3 hat3 hlt3; have B3 : Blk w3 wr.heap.size 85 _ := (hgrow3.block wr.heap.size (by simp; omega) (Ne.symm HN1.out)).trans (HBl0.out.alloc _); have r0 := B3.cell 0 rfl; have r1 := B3.cell 1 rfl; have M3 := Lib.hid (((HM.out.below HBW.out).alloc (.cells #[.int .i64 k'] 3)).grown hgrow3 (fun e => HN2.out _ e rfl)); have K3 := Lib.hid hown3; have G3 := Lib.hid hgrow3; clear B3 hown3 hgrow3) | (at_mapUpdate; refine wpList_put _ rfl _ _ _ 65 rfl 85 Try.underlying65 w.heap.size _ _ rfl M3.out (by have := HLE.out; unfold maxLen; omega) k' (v, p) rfl rfl HWK.out ?_; intro w4 hm4 ht4) | fail)
          have HS2 : Hid (rkN S f (S.ks.take (j + 1)) = (l ++ [k'], upd gm k' (some (v, p)))) := by
            show _ = _
            rw [HS.out]
            simp only [rkS, ← HK'.out, HG.out, HV.out, HP.out]
          have hs : (gm k').isSome = false := by rw [HG.out]; rfl
          rw [hs] at hm4
          have T4 : Turn (fun i => i = w.heap.size) w3 w4 := mturn ht4 rfl
          have TT : Turn (fun i => w.heap.size ≤ i) wr w4 := ((Turn.of_below (bAl HBW.out _)).trans (Turn.of_grown G3.out (fun i e => HLO.out i e))).trans (T4.mono (fun i _ e => by rw [e]; exact Nat.le_refl _))
          have HB4 : Hid (Below w.heap.size w w4) := HB.out.trans (TT.below HB.out.size (fun k hk => hk))
          have HM4 : Hid (IMap rowK w4 w.heap.size (rkN S f (S.ks.take (j + 1))).1.length (rkN S f (S.ks.take (j + 1))).2) := by
            show IMap _ _ _ _ _
            rw [HS2.out]
            simpa using hm4
          have HO4 : Hid (w4.ownsRow w.heap.size 3 1 (.slice (some ⟨g2, 0, none⟩) (rkN S f (S.ks.take (j + 1))).1.length cap2) (rkN S f (S.ks.take (j + 1))).1.length ((rkN S f (S.ks.take (j + 1))).1.map (Value.int .i64))) := by
            show World.ownsRow _ _ _ _ _ _ _
            rw [HS2.out]
            have h1 := ownB_turn K3.out T4 (fun g hg e => by
              obtain ⟨cs, hcs⟩ := row_block (own_down K3.out) hg
              exact M3.out.ne hcs e.symm)
            simpa using h1
          have HSL : Hid ((rkN S f (S.ks.take (j + 1))).1.length = l.length + 1) := by
            show _ = _
            rw [HS2.out]; simp
          clear hm4 ht4 T4 TT hs r0 r1 hat3 hlt3
          go_roundw
          case rel => exact ⟨j + 1, _, _, by omega, by go_num, by rw [HSL.out], HO4, HM4, HB4⟩
          case measure => simp [intOf]; omega
        | some r =>
          obtain ⟨v2, p2⟩ := r
          rw [hgk] at hlb
          change _ = Result.ok (Value.tuple #[.agg #[.int .i64 v2, .int .i64 (p2 : Int)], .bool true]) _ at hlb
          have HG := Lib.hid hgk
          clear hgk
          go_upto_region 14 with fail
          have hBl0 : Blk ((wr.alloc (.cells #[.int .i64 v, .int .i64 (p2 : Int)] 85)).alloc (.cells #[.int .i64 v2, .int .i64 (p2 : Int)] 85)) wr.heap.size 85 [.int .i64 v, .int .i64 (p2 : Int)] := (Blk.new wr _ _).alloc _
          have hBW : Below wr.heap.size wr ((wr.alloc (.cells #[.int .i64 v, .int .i64 (p2 : Int)] 85)).alloc (.cells #[.int .i64 v2, .int .i64 (p2 : Int)] 85)) := bAl (bSelf wr _) _
          have HBl0 := Lib.hid hBl0
          have HBW := Lib.hid hBW
          clear hBl0 hBW hl65 hl67 hlb
          generalize (wr.alloc (.cells #[.int .i64 v, .int .i64 (p2 : Int)] 85)).alloc (.cells #[.int .i64 v2, .int .i64 (p2 : Int)] 85) = w2 at *
          have r0 := HBl0.out.cell 0 rfl
          have r1 := HBl0.out.cell 1 rfl
          have M3 := Lib.hid (HM.out.below HBW.out)
          have HLX : Hid (l.length < maxLen) := by
            have h5 : l.length ≤ j := HLE.out
            show l.length < maxLen
            unfold maxLen; omega
          go_wp2_with (first | (at_mapUpdate; refine wpList_put _ rfl _ _ _ 65 rfl 85 Try.underlying65 w.heap.size l.length _ rfl M3.out HLX.out k' (v, p2) rfl rfl HWK.out ?_; intro w4 hm4 ht4) | fail)
          have HS2 : Hid (rkN S f (S.ks.take (j + 1)) = (l, upd gm k' (some (v, p2)))) := by
            show _ = _
            rw [HS.out]
            simp only [rkS, ← HK'.out, HG.out, HV.out]
          have hs : (gm k').isSome = true := by rw [HG.out]; rfl
          rw [hs] at hm4
          have T4 : Turn (fun i => i = w.heap.size) _ w4 := mturn ht4 rfl
          have TT : Turn (fun i => w.heap.size ≤ i) wr w4 := (Turn.of_below HBW.out).trans (T4.mono (fun i _ e => by rw [e]; exact Nat.le_refl _))
          have HB4 : Hid (Below w.heap.size w w4) := HB.out.trans (TT.below HB.out.size (fun k hk => hk))
          have HM4 : Hid (IMap rowK w4 w.heap.size (rkN S f (S.ks.take (j + 1))).1.length (rkN S f (S.ks.take (j + 1))).2) := by
            show IMap _ _ _ _ _
            rw [HS2.out]
            simpa using hm4
          have HO4 : Hid (w4.ownsRow w.heap.size 3 1 (.slice av (rkN S f (S.ks.take (j + 1))).1.length cv) (rkN S f (S.ks.take (j + 1))).1.length ((rkN S f (S.ks.take (j + 1))).1.map (Value.int .i64))) := by
            show World.ownsRow _ _ _ _ _ _ _
            rw [HS2.out]
            exact ownB_turn (ownsRow_below HO.out HBW.out) T4 (fun g hg e => HN2.out g hg e)
          have HSL : Hid ((rkN S f (S.ks.take (j + 1))).1.length = l.length) := by
            show _ = _
            rw [HS2.out]
          clear hm4 ht4 T4 TT hs r0 r1
          go_roundw
          case rel => exact ⟨j + 1, _, _, by omega, by go_num, by rw [HSL.out], HO4, HM4, HB4⟩
          case measure => simp [intOf]; omega
    · obtain rfl : j = kn := by omega
      have hT : Hid (rkN S f (S.ks.take j) = rkN S f S.ks) := by
        show _ = _
        rw [HKN.out, List.take_length]
      have HB' := Lib.hid HB.out
      have HO' : Hid (wr.ownsRow w.heap.size 3 1 (.slice av (rkN S f (S.ks.take j)).1.length cv) (rkN S f S.ks).1.length ((rkN S f S.ks).1.map (Value.int .i64))) := by
        have h1 := HO.out
        have h2 := hT.out
        show World.ownsRow _ _ _ _ _ _ _
        rw [← h2]; exact h1
      have HM' : Hid (IMap rowK wr w.heap.size (rkN S f S.ks).1.length (rkN S f S.ks).2) := by
        have h1 := HM.out
        have h2 := hT.out
        show IMap _ _ _ _ _
        rw [← h2]; exact h1
      have hlt' : ¬ ((j : Int) < j) := by omega
      go_wp2_with fail
      go_ret2
      exact ⟨_, _, rfl, HM'.out, HO'.out, HB'.out, Nat.le_refl _⟩
end
end Go.Proofs.Ytagejkolgicecaa
