/- set: a key's value, or a new row behind all. -/
import Derived.Test.YtagejkolgicecaaA
namespace Go.Proofs.Ytagejkolgicecaa
open Go Go.RowKit Go.Maps
theorem info3 : (Try.prog.info? 3).map (fun i => (i.zero, i.size, i.bytes)) = some (some (.int .i64 0), 1, 8) := by kernel_rfl
theorem one_new (w : World) (v : Value) (e : TypeId) : ∀ j u, ([v] : List Value)[j]? = some u → (w.alloc (.cells #[v] e)).cell? ((⟨w.heap.size, 0, none⟩ : Addr).add j) = some u :=
  World.news_of_block (heap_alloc_new w (.cells #[v] e))
section
variable {F : Nat → Prop} {b : Nat} {S : Tb} {m0 m1 : Nat} {kv : Value}
theorem set_has {S : Tb} {k : Int} (v : Int) (h : S.has k = true) : S.set k v = { S with rw := upd S.rw k (some (v, S.pl k)) } := by unfold Tb.set; rw [h]; rfl
theorem set_new {S : Tb} {k : Int} (v : Int) (h : S.has k = false) : S.set k v = { S with ks := S.ks ++ [k], pt := S.pt + 1, rw := upd S.rw k (some (v, S.pt + 1)) } := by unfold Tb.set; rw [h]; rfl
set_option maxRecDepth 100000 in
set_option maxHeartbeats 2000000 in
theorem t75 (w : World) (hO : Ok S) (h : Wit F w b S m0 m1 kv) (hn : ∀ i, w.heap.size ≤ i → F i) {k : Int} (hk : WF k) (v : Int) (hl : S.has k = false → S.ks.length < 500) (hp : S.pt < 4611686018427387904) :
    Calls Try.prog 75 #[.pointer (some ⟨b, 0, none⟩), .int .i64 k, .int .i64 v] w fun e w' => e = .returned (.tuple #[]) ∧ (∃ kv', Wit F w' b (S.set k v) m0 m1 kv') ∧ Turn F w w' := by
  have q0 := h.blk.cell 0 rfl
  have hlk := h.rows.look Try.underlying65 (0, 0) (zero85 w) hk
  change _ = Result.ok (Value.agg #[.int .i64 (S.vl k), .int .i64 (S.pl k : Int)]) w at hlk
  have f1 := field1 (S.vl k) (S.pl k) w
  have C59 := Lib.hid (t59 w h hk)
  have HN := Lib.hid hn
  have HK := Lib.hid hk
  have HP := Lib.hid hp
  have hlen := hO.len
  have HH := Lib.hid h
  have HO := Lib.hid hO
  clear h hn hk hp hO
  cases hh : S.has k with
  | true =>
    have HR : Hid (S.has k = true) := hh
    rw [hh] at C59
    clear hh hl
    go_enter Try.func75, Try.ntmps75
    generalize S.vl k = vl at *
    obtain ⟨p, hpl⟩ : ∃ p, p = S.pl k := ⟨_, rfl⟩
    have HPL := Lib.hid hpl
    rw [← hpl] at hlk f1
    clear hpl
    go_wp2_with fail
    refine C59.out.mono ?_
    rintro e w1 ⟨rfl, hb1⟩
    have W1 := Lib.hid (HH.out.below hb1)
    have HB1 := Lib.hid hb1
    have q0' := W1.out.blk.cell 0 rfl
    clear hb1 hlk f1 q0
    go_wp2_with (first | (at_mapUpdate; refine wpList_put _ rfl _ _ _ 65 rfl 85 Try.underlying65 m0 _ _ rfl W1.out.rows (by unfold maxLen; omega) k (v, p) rfl rfl HK.out ?_; intro w2 hm2 ht2) | go_in)
    go_end0
    refine ⟨rfl, ⟨kv, ?_⟩, (Turn.of_below HB1.out).trans (mturn ht2 W1.out.f0)⟩
    rw [set_has v HR.out, ← HPL.out]
    have hs : (S.rw k).isSome = true := HR.out
    rw [hs] at hm2
    have T2 : Turn (fun i => i = m0) w1 w2 := mturn ht2 rfl
    exact ⟨mblk ht2 W1.out.blk W1.out.ne0, hm2, W1.out.walks.turn T2 W1.out.ne.symm, ownsRow_turn W1.out.keys T2 (fun g hg e => W1.out.kne.2.1 (by rw [hg, e])), W1.out.fb, W1.out.f0, W1.out.f1, W1.out.fk, W1.out.ne⟩
  | false =>
    have HR : Hid (S.has k = false) := hh
    have hl5 := hl hh
    rw [hh] at C59
    clear hh hl
    go_enter Try.func75, Try.ntmps75
    generalize S.vl k = vl at *
    generalize S.pl k = p at *
    obtain ⟨i0, hi, hz0, hz1, hz2⟩ := info_parts info3
    go_wp2_with fail
    refine C59.out.mono ?_
    rintro e w1 ⟨rfl, hb1⟩
    have W1 := Lib.hid (HH.out.below hb1)
    have HB1 := Lib.hid hb1
    have hsz := hb1.size
    have hbl : b < w1.heap.size := W1.out.blk.lt
    have q1 := W1.out.blk.cell 1 rfl
    have e1 := W1.out.blk.free 1
    have hkn := W1.out.kne
    have hks := Lib.hid W1.out.keys
    obtain ⟨ao, cap, rfl, hc0, hc1, _⟩ := keys_form W1.out.keys
    have hpt := HP.out
    clear hb1 hlk f1 q0
    go_wp2_with (first | (at_builtin; refine wpList_append_lies _ rfl _ _ 66 rfl 0 3 i0 (.int .i64 0) 1 8 Try.underlying66 hi hz0 hz1 hz2 rfl (by decide) (.slice ao S.ks.length cap) S.ks.length _ rfl (hks.out.alloc _) ⟨w1.heap.size, 0, none⟩ 1 1 [.int .i64 k] rfl rfl (one_new w1 _ 3) (by simp [Value.oneCell']) (by omega) (by unfold maxLen; omega) (by omega) (Nat.zero_le _) _ rfl ?_; intro g cap2 w2 hown2 hgrow2 hat2 hlt2; have B2 : Blk w2 b 69 _ := (hgrow2.block b (by simp; omega) (Ne.symm hkn.1)).trans (W1.out.blk.alloc _); have r0 := B2.cell 0 rfl; have r1 := B2.cell 1 rfl; have r2 := B2.cell 2 rfl; have e2 := B2.free 1; have e3 := B2.free 2; have R2 := Lib.hid ((W1.out.rows.alloc (.cells #[.int .i64 k] 3)).grown hgrow2 hkn.2.1); have M2 := Lib.hid ((W1.out.walks.alloc (.cells #[.int .i64 k] 3)).grown hgrow2 hkn.2.2); have K2 := Lib.hid hown2; have G2 := Lib.hid hgrow2; have BB := Lib.hid B2; clear B2 hown2 hgrow2 hkn q1 e1) | (at_mapUpdate; refine wpList_put _ rfl _ _ _ 65 rfl 85 Try.underlying65 m0 _ _ rfl ((R2.out.set W1.out.ne0.symm 1 _).set W1.out.ne0.symm 2 _) (by unfold maxLen; omega) k (v, S.pt + 1) rfl rfl HK.out ?_; intro w3 hm3 ht3) | fail)
    go_end0
    have hs : (S.rw k).isSome = false := HR.out
    rw [hs] at hm3
    have T3 : Turn (fun i => i = m0) _ w3 := mturn ht3 rfl
    have hgF : F g := by
      rcases hat2 with h1 | h1
      · exact W1.out.fk g h1
      · rw [h1]; exact HN.out _ (by simp; omega)
    have TG : Turn F w1 w2 := (Turn.of_below (bSelf w1 _)).trans (Turn.of_grown G2.out (fun i hi => W1.out.fk i hi))
    refine ⟨rfl, ⟨.slice (some ⟨g, 0, none⟩) (S.ks.length + 1) cap2, ?_⟩, (Turn.of_below HB1.out).trans (((TG.set b 1 W1.out.fb _).set b 2 W1.out.fb _).trans (mturn ht3 W1.out.f0))⟩
    rw [set_new v HR.out]
    have hgb : g ≠ b := by
      rcases hat2 with h1 | h1
      · exact fun e => W1.out.kne.1 (by rw [h1, e])
      · rw [h1]; simp; omega
    obtain ⟨cs, hcs⟩ := row_block K2.out (g := g) rfl
    have hgm : g ≠ m0 := fun e => R2.out.ne hcs e.symm
    have hrow : ((w2.setCell ⟨b, 1, none⟩ (.slice (some ⟨g, 0, none⟩) (S.ks.length + 1) cap2)).setCell ⟨b, 2, none⟩ (.int .i64 (S.pt + 1))).ownsRow 0 3 1 (.slice (some ⟨g, 0, none⟩) (S.ks.length + 1) cap2) (S.ks.length + 1) (S.ks.map (Value.int .i64) ++ [.int .i64 k]) :=
      ownsRow_turn (F := fun i => i = b) K2.out ((turnSet w2 b 1 _).trans (turnSet _ b 2 _)) (fun j hj e => hgb (by cases hj; exact e))
    have hrow3 := ownsRow_turn hrow T3 (fun j hj e => hgm (by cases hj; exact e))
    refine ⟨?_, ?_, ?_, ?_, W1.out.fb, W1.out.f0, W1.out.f1, fun j hj => by cases hj; exact hgF, W1.out.ne⟩
    · exact mblk ht3 ((BB.out.set 1 _).set 2 _) W1.out.ne0
    · have : (S.ks ++ [k]).length = S.ks.length + 1 := by simp
      show IMap rowK w3 m0 (S.ks ++ [k]).length _
      rw [this]; exact hm3
    · exact ((M2.out.set W1.out.ne1.symm 1 _).set W1.out.ne1.symm 2 _).turn T3 W1.out.ne.symm
    · show w3.ownsRow 0 3 1 _ (S.ks ++ [k]).length ((S.ks ++ [k]).map (Value.int .i64))
      simpa using hrow3
end
end Go.Proofs.Ytagejkolgicecaa
