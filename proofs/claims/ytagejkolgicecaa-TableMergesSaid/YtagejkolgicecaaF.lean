/- takeOut, Delete. -/
import Derived.Test.YtagejkolgicecaaB
import Derived.Test.YtagejkolgicecaaShelf
namespace Go.Proofs.Ytagejkolgicecaa
open Go Go.RowKit Go.Maps
theorem turnSets (b : Nat) : ∀ (vs : List Value) (o : Nat) (w : World), Turn (fun i => i = b) w (w.setCells b o vs)
  | [], _, w => Turn.refl _ w
  | v :: r, o, w => (turnSet w b o v).trans (turnSets b r (o + 1) _)
theorem Blk.sets {g : Nat} {e : TypeId} : ∀ (vs : List Value) (o : Nat) (w : World) (cs : List Value), Blk w g e cs → o + vs.length ≤ cs.length → Blk (w.setCells g o vs) g e (cs.take o ++ vs ++ cs.drop (o + vs.length))
  | [], o, w, cs, h, _ => by simpa [World.setCells] using h
  | v :: r, o, w, cs, h, hl => by
    have h1 := Blk.sets r (o + 1) _ (cs.set o v) (h.set o v) (by simp at hl ⊢; omega)
    have h2 : (cs.set o v).take (o + 1) ++ r ++ (cs.set o v).drop (o + 1 + r.length) = cs.take o ++ v :: r ++ cs.drop (o + (v :: r).length) := by
      have ho : o < cs.length := by simp at hl; omega
      rw [List.drop_set_of_lt (by omega), List.take_add_one]
      simp [List.getElem?_set_self ho, List.take_set_of_le, Nat.add_assoc, Nat.add_comm 1]
    rw [h2] at h1
    exact h1
section
variable {F : Nat → Prop} {b : Nat} {S : Tb} {m0 m1 : Nat} {kv : Value}
set_option maxRecDepth 100000 in
set_option maxHeartbeats 2000000 in
theorem t66 (w : World) (hO : Ok S) (h : Wit F w b S m0 m1 kv) (i : Nat) (k : Int) (hi : S.ks[i]? = some k) :
    Calls Try.prog 66 #[.pointer (some ⟨b, 0, none⟩), .int .i64 i] w fun e w' => e = .returned (.int .i64 (S.vl k)) ∧ (∃ kv', Wit F w' b (S.out i k) m0 m1 kv') ∧ Turn F w w' := by
  have q0 := h.blk.cell 0 rfl
  have q1 := h.blk.cell 1 rfl
  have hlen := hO.len
  have hkm := List.mem_of_getElem? hi
  have hlt : i < S.ks.length := (List.getElem?_eq_some_iff.1 hi).1
  have hkw := hO.wf k hkm
  have hl := h.rows.look Try.underlying65 (0, 0) (zero85 w) hkw
  change _ = Result.ok (Value.agg #[.int .i64 (S.vl k), .int .i64 (S.pl k : Int)]) w at hl
  have f0 := field0 (S.vl k) (S.pl k) w
  obtain ⟨g, cap, rfl, hc0, hc1, hc2, hc3, hc4⟩ : ∃ g cap, kv = .slice (some ⟨g, 0, none⟩) S.ks.length cap ∧ S.ks.length ≤ cap ∧ cap ≤ maxLen ∧ g < w.heap.size ∧ (∀ k x, S.ks[k]? = some x → w.cell? ⟨g, k, none⟩ = some (.int .i64 x)) ∧ (∀ k, w.frozen? ⟨g, k, none⟩ = false) := by
    rcases keys_read h.keys with ⟨_, h2⟩ | h2
    · rw [h2] at hi; cases hi
    · exact h2
  have c0 := hc3 i k hi
  have HH := Lib.hid h
  have HO := Lib.hid hO
  have HI := Lib.hid hi
  have HK := Lib.hid hkw
  have hcm : cap ≤ 9223372036854775807 := hc1
  have C76 := Lib.hid (fun W hz hf => Try.slices_Delete_int_cells g 0 S.ks.length cap i (i + 1) S.ks W (Nat.le_refl _) hc0 hc1 (by omega) (by omega) hz hf)
  have hlt' : (i : Int) < S.ks.length := by omega
  clear h hO hi hkm hkw hc3 hc4
  generalize hvl : S.vl k = a at *
  generalize S.pl k = p at *
  clear hvl
  go_enter Try.func66, Try.ntmps66
  go_wp2_with (first | (at_delete; refine wpList_drop _ rfl _ _ 65 rfl 85 Try.underlying65 m0 _ _ rfl HH.out.rows k rfl HK.out ?_; intro w2 hm2 ht2; have B2 := mblk ht2 HH.out.blk HH.out.ne0; have q1' := B2.cell 1 rfl) | fail)
  have T2 : Turn (fun i => i = m0) w w2 := mturn ht2 rfl
  have hgm : g ≠ m0 := fun e => HH.out.kne.2.1 (by rw [← e]; rfl)
  have hgb : g ≠ b := fun e => HH.out.kne.1 (by rw [← e]; rfl)
  have hgm1 : g ≠ m1 := fun e => HH.out.kne.2.2 (by rw [← e]; rfl)
  have hK2 := ownsRow_turn HH.out.keys T2 (fun j hj e => hgm (by cases hj; exact e))
  obtain ⟨_, ⟨h1, _⟩ | ⟨g', cs, h1, _, h2, h3, h4, h5, h6⟩⟩ := row_cases hK2
  · cases h1
  obtain ⟨rfl, rfl⟩ : g = g' ∧ cap = cs.length := by simpa using h1
  have hcell : ∀ j, j < S.ks.length → w2.cell? ⟨g, 0 + j, none⟩ = some (.int .i64 (S.ks.getD j 0)) := fun j hj => by
    rw [Nat.zero_add]
    refine h3.cell j ?_
    have h7 : (cs.take S.ks.length)[j]? = some (.int .i64 (S.ks.getD j 0)) := by
      rw [h6, List.getElem?_map, List.getElem?_eq_getElem hj]; simp [List.getD, List.getElem?_eq_getElem hj]
    rw [List.getElem?_take] at h7
    rw [if_pos hj] at h7
    exact h7
  have C := Lib.hid (C76.out w2 hcell (fun j _ => h3.free _))
  have HB2 := Lib.hid B2
  have HB3 := Lib.hid h3
  have H6 := Lib.hid h6
  have H4 := Lib.hid h4
  have H5 := Lib.hid h5
  have HM2 := Lib.hid hm2
  have HT2 := Lib.hid T2
  have HT2' := Lib.hid ht2
  clear B2 h3 h6 h4 h5 hm2 T2 ht2 hK2 hcell C76 h1 h2 hl f0 c0 q0 q1
  go_wp2_with fail
  refine C.out.mono ?_
  rintro e w3 ⟨rfl, q, hw3⟩
  have hvl : (List.map (Value.int .i64) ((S.ks.take S.ks.length).take i ++ (S.ks.take S.ks.length).drop (i + 1) ++ List.replicate (i + 1 - i) 0)).length = S.ks.length := by simp; omega
  have hve : (S.ks.take S.ks.length).take i ++ (S.ks.take S.ks.length).drop (i + 1) = S.ks.eraseIdx i := by rw [List.take_length, List.eraseIdx_eq_take_drop_succ]
  have hel : (S.ks.eraseIdx i).length = S.ks.length - 1 := List.length_eraseIdx_of_lt hlt
  have hD : Turn (fun j => j = g) w2 (w2.drewN q) := ⟨rfl, rfl, rfl, Nat.le_refl _, fun _ _ _ => rfl⟩
  have hS : Turn (fun j => j = g) w2 w3 := by rw [hw3]; exact hD.trans (turnSets g _ 0 _)
  have hG : Blk w3 g 3 (List.map (Value.int .i64) (S.ks.eraseIdx i) ++ (.int .i64 0 :: cs.drop S.ks.length)) := by
    have hx : Blk (w2.drewN q) g 3 cs := HB3.out
    have h1 := Blk.sets _ 0 _ cs hx (by rw [Nat.zero_add, hvl]; exact H4.out)
    rw [← hw3] at h1
    rw [Nat.zero_add, hvl, hve, show i + 1 - i = 1 by omega] at h1
    simpa using h1
  have hB3 : Blk w3 b 69 _ := hS.blk HB2.out (fun e => hgb e.symm)
  have hl1 : S.ks.length - (i + 1 - i) = (S.ks.eraseIdx i).length := by rw [hel]; omega
  rw [hl1]
  have HS := Lib.hid hS
  have HG := Lib.hid hG
  have HB := Lib.hid hB3
  have HEL := Lib.hid hel
  have r1 := hB3.cell 1 rfl
  have e1 := hB3.free 1
  clear hw3 hvl hve hD hS hG hB3 hel hl1
  go_wp2
  go_ret
  have HT3 := HT2'.out
  have hnb : b ≠ m0 := HH.out.ne0
  refine ⟨rfl, ⟨.slice (some ⟨g, 0, none⟩) (S.ks.eraseIdx i).length cs.length, ?_⟩, ((mturn HT3 HH.out.f0).trans (HS.out.mono (fun j _ e => e.symm ▸ HH.out.fk g rfl))).set b 1 HH.out.fb _⟩
  have hgG : Blk (w3.setCell ⟨b, 1, none⟩ (.slice (some ⟨g, 0, none⟩) (S.ks.eraseIdx i).length cs.length)) g 3 _ := HG.out.setOther ⟨b, 1, none⟩ _ hgb
  have hlc : (List.map (Value.int .i64) (S.ks.eraseIdx i) ++ (.int .i64 0 :: cs.drop S.ks.length)).length = cs.length := by
    have h1 := H4.out; have h2 := HEL.out; simp [h2]; omega
  refine ⟨HB.out.set 1 _, ?_, ?_, ?_, HH.out.fb, HH.out.f0, HH.out.f1, HH.out.fk, HH.out.ne⟩
  · have h1 : IMap rowK w3 m0 _ _ := HM2.out.turn HS.out (fun e => hgm e.symm)
    have h2 := h1.set hnb.symm 1 (.slice (some ⟨g, 0, none⟩) (S.ks.eraseIdx i).length cs.length)
    have h3 : (S.rw k).isSome = true := (HO.out.mem k HK.out).2 (List.mem_of_getElem? HI.out)
    rw [h3] at h2
    refine h2.of_eq ?_ (fun _ _ => rfl)
    show S.ks.length - 1 = (S.ks.eraseIdx i).length
    rw [HEL.out]
  · exact ((HH.out.walks.turn HT2.out HH.out.ne.symm).turn HS.out (fun e => hgm1 e.symm)).set HH.out.ne1.symm 1 _
  · have h1 := hgG.row (base := 0) (n := (S.ks.eraseIdx i).length) (Nat.zero_le _) (by simp) (by rw [hlc]; exact H5.out)
    rw [hlc] at h1
    simpa [Tb.out] using h1
end
end Go.Proofs.Ytagejkolgicecaa
