/- Rows: all rows, as a new list. -/
import Derived.Test.YtagejkolgicecaaEA
namespace Go.Proofs.Ytagejkolgicecaa
open Go Go.RowKit Go.Maps
def Tb.rows (S : Tb) : List (Int × Int) := S.ks.map (fun k => (k, S.vl k))
/-- the cells of pairs -/
def pcs : List (Int × Int) → List Value
  | [] => []
  | r :: rs => .int .i64 r.1 :: .int .i64 r.2 :: pcs rs
theorem pcs_len : ∀ rs : List (Int × Int), (pcs rs).length = rs.length * 2
  | [] => rfl
  | r :: rs => by simp [pcs, pcs_len rs]; omega
theorem pcs_append : ∀ (rs qs : List (Int × Int)), pcs (rs ++ qs) = pcs rs ++ pcs qs
  | [], _ => rfl
  | r :: rs, qs => by simp [pcs, pcs_append rs qs]
theorem pcs_get : ∀ (rs : List (Int × Int)) (j : Nat) (k v : Int), rs[j]? = some (k, v) → (pcs rs)[j * 2]? = some (.int .i64 k) ∧ (pcs rs)[j * 2 + 1]? = some (.int .i64 v)
  | [], j, k, v, h => by simp at h
  | r :: rs, 0, k, v, h => by simp at h; subst h; exact ⟨rfl, rfl⟩
  | r :: rs, j + 1, k, v, h => by
    have := pcs_get rs j k v (by simpa using h)
    rw [show (j + 1) * 2 = j * 2 + 1 + 1 by omega]
    simpa [pcs] using this
def Prs (w : World) (v : Value) (rs : List (Int × Int)) : Prop := w.ownsRow 0 42 2 v rs.length (pcs rs)
theorem Prs.below {w w' : World} {v : Value} {rs : List (Int × Int)} (h : Prs w v rs) (hb : Below w.heap.size w w') : Prs w' v rs := ownsRow_below h hb
theorem Prs.read {w : World} {v : Value} {rs : List (Int × Int)} (h : Prs w v rs) : ∃ ao cap, v = .slice ao rs.length cap ∧ RowsAt w ao rs ∧ (∀ rb, ao = some ⟨rb, 0, none⟩ → v.ownBlock = some rb) ∧ (∀ rb, v.ownBlock = some rb → rb < w.heap.size) := by
  obtain ⟨h1, h2 | ⟨g, cap, cur, rfl, _, hh, _, _, _, ht⟩⟩ := h
  · obtain ⟨rfl, h3⟩ := h2
    have h4 : rs = [] := List.length_eq_zero_iff.1 h3
    subst h4
    exact ⟨none, 0, rfl, fun j k v hj => (by simp at hj), fun rb e => (by cases e), fun rb e => (by cases e)⟩
  · refine ⟨some ⟨g, 0, none⟩, cap, rfl, fun j k v hj => ⟨g, rfl, ?_, ?_⟩, fun rb e => (by cases e; rfl), fun rb e => (by cases e; exact lt_of_block hh)⟩
    · rw [cell_of_row w g _ _ 42 (0, 0) hh]
      have h5 := (pcs_get rs j k v hj).1
      rw [← ht, List.getElem?_take] at h5
      split at h5
      · simpa using h5
      · cases h5
    · rw [cell_of_row w g _ _ 42 (0, 0) hh]
      have h5 := (pcs_get rs j k v hj).2
      rw [← ht, List.getElem?_take] at h5
      split at h5
      · simpa using h5
      · cases h5
theorem info42 : (Try.prog.info? 42).map (fun i => (i.zero, i.size, i.bytes)) = some (some (.agg #[.int .i64 0, .int .i64 0]), 2, 16) := by kernel_rfl
theorem two_new (w : World) (u v : Value) (e : TypeId) : ∀ j x, ([u, v] : List Value)[j]? = some x → (w.alloc (.cells #[u, v] e)).cell? ((⟨w.heap.size, 0, none⟩ : Addr).add j) = some x :=
  World.news_of_block (heap_alloc_new w (.cells #[u, v] e))
section
variable {F : Nat → Prop} {b : Nat} {S : Tb} {m0 m1 : Nat} {kv : Value}
set_option maxRecDepth 100000 in
set_option maxHeartbeats 4000000 in
theorem t23 (w : World) (hO : Ok S) (h : Wit F w b S m0 m1 kv) : Calls Try.prog 23 #[.pointer (some ⟨b, 0, none⟩)] w fun e w' => ∃ v, e = .returned v ∧ Prs w' v S.rows ∧ Below w.heap.size w w' ∧ (∀ rb, v.ownBlock = some rb → w.heap.size ≤ rb) := by
  have q0 := h.blk.cell 0 rfl
  have q1 := h.blk.cell 1 rfl
  have C55 := Lib.hid (t55 b m0 w q0)
  have HW := Lib.hid h
  have HO := Lib.hid hO
  have hlen := hO.len
  obtain ⟨ao, cap, rfl, hc0, hc1, hc⟩ := keys_form h.keys
  have HC := Lib.hid hc
  obtain ⟨i0, hi, hz0, hz1, hz2⟩ := info_parts info42
  clear h hO hc
  go_enter Try.func23, Try.ntmps23
  go_wp2_with (first | (go_at_call 55; refine C55.out.mono ?_; rintro e w' ⟨rfl, rfl⟩) | (at_make; refine wpList_make_own _ rfl _ _ 30 rfl w'.heap.size 42 i0 (.agg #[.int .i64 0, .int .i64 0]) 2 Try.underlying30 hi hz0 hz1 .i64 .i64 _ S.ks.length rfl rfl rfl (by rw [hz2]; omega) (by unfold maxLen; omega) (Nat.le_refl _) ?_; intro w2 h1 h2; have hb2 : Below w'.heap.size w' w2 := ⟨h2.os, h2.tape, h2.output, h2.size, fun k hk => h2.block k hk (by simp)⟩; have q1 := below_cell hb2 q1))
  have HR0 : Hid (w2.ownsRow w'.heap.size 42 2 (.slice (some ⟨w'.heap.size, 0, none⟩) 0 S.ks.length) (S.rows.take 0).length (pcs (S.rows.take 0))) := h1
  clear h1 h2
  go_loopw [19, 3] (fun i t wr => ∃ (j : Nat) (v : Value), j ≤ S.ks.length ∧ i = .int .i64 j ∧ t = v ∧ Hid (wr.ownsRow w'.heap.size 42 2 v (S.rows.take j).length (pcs (S.rows.take j))) ∧ Below w'.heap.size w' wr) (fun i _ _ => S.ks.length - (intOf i).toNat)
  case atStart => exact ⟨0, _, Nat.zero_le _, rfl, rfl, HR0, hb2⟩
  case round =>
    obtain ⟨j, v, hj, rfl, rfl, HR, hb⟩ := hrel
    clear hb2 HR0
    by_cases hlt : j < S.ks.length
    · have hg : S.ks[j]? = some S.ks[j] := List.getElem?_eq_getElem hlt
      obtain ⟨g, rfl, c0'⟩ := HC.out j _ hg
      have c0 : wr.cell? ⟨g, j, none⟩ = _ := below_cell hb c0'
      have q0' := below_cell hb q0
      have hl := (HW.out.below hb).rows.look Try.underlying65 (0, 0) (zero85 wr) (HO.out.wf _ (List.mem_of_getElem? hg))
      change _ = Result.ok (Value.agg #[.int .i64 (S.vl S.ks[j]), .int .i64 (S.pl S.ks[j] : Int)]) wr at hl
      have f0 := field0 (S.vl S.ks[j]) (S.pl S.ks[j]) wr
      have hlt' : (j : Int) < S.ks.length := by omega
      have HS : Hid (S.rows.take (j + 1) = S.rows.take j ++ [(S.ks[j], S.vl S.ks[j])]) := by
        show _ = _
        rw [List.take_add_one]; congr 1; simp [Tb.rows, hg]
      have HL : Hid ((S.rows.take j).length = j) := by show _ = _; simp [Tb.rows]; omega
      clear hg c0'
      generalize S.ks[j] = k at *
      generalize S.vl k = a at *
      generalize (S.pl k : Int) = z at *
      have HR2 := HR.out
      rw [HL.out] at HR2
      have HR3 := Lib.hid HR2
      have hsz := hb.size
      clear HR HR2
      go_wp2_with (first | (at_builtin; refine wpList_append_lies _ rfl _ _ 30 rfl w'.heap.size 42 i0 (.agg #[.int .i64 0, .int .i64 0]) 2 16 Try.underlying30 hi hz0 hz1 hz2 rfl (by decide) _ j _ rfl (HR3.out.alloc _) ⟨wr.heap.size, 0, none⟩ 1 1 [.int .i64 k, .int .i64 a] rfl rfl (two_new wr _ _ 42) (by simp [Value.oneCell']) (by omega) (by unfold maxLen; omega) (by omega) (by simp; omega) _ rfl ?_; intro g2 cap2 w3 hown3 hgrow3 hat3 hlt3) | fail)
      have hB3 : Below w'.heap.size w' w3 := by
        have h1 := bAl hb (.cells #[.int .i64 k, .int .i64 a] 42)
        refine h1.trans ⟨hgrow3.os, hgrow3.tape, hgrow3.output, hgrow3.size, fun i hi => hgrow3.block i (by simp; omega) (fun e => ?_)⟩
        have h5 := HR3.out.2
        rcases h5 with ⟨h6, _⟩ | ⟨g5, c5, cu5, h6, h7, _⟩
        · rw [h6] at e; cases e
        · rw [h6] at e
          have e2 : i = g5 := Option.some.inj e
          omega
      have HN : Hid (w3.ownsRow w'.heap.size 42 2 (.slice (some ⟨g2, 0, none⟩) (j + 1) cap2) (S.rows.take (j + 1)).length (pcs (S.rows.take (j + 1)))) := by
        show World.ownsRow _ _ _ _ _ _ _
        rw [HS.out, List.length_append, HL.out, pcs_append]
        exact hown3
      clear hown3 hgrow3 hat3 hlt3 hb q0' c0 hl f0
      go_wp2_with fail
      go_roundw
      case rel => exact ⟨j + 1, _, by omega, by go_num, rfl, HN, hB3⟩
      case measure => simp [intOf]; omega
    · obtain rfl : j = S.ks.length := by omega
      have HL : S.rows.take S.ks.length = S.rows := by rw [List.take_of_length_le]; simp [Tb.rows]
      rw [HL] at HR
      have HB := Lib.hid hb
      clear hb
      go_wp2
      go_ret
      refine ⟨_, rfl, ?_, HB.out, fun rb e => ?_⟩
      · obtain ⟨h1, h2⟩ := HR.out
        refine ⟨h1, ?_⟩
        rcases h2 with h2 | ⟨g, c, cu, h3, _, h4⟩
        · exact .inl h2
        · exact .inr ⟨g, c, cu, h3, Nat.zero_le _, h4⟩
      · rcases HR.out.2 with ⟨h6, _⟩ | ⟨g5, c5, cu5, h6, h7, _⟩
        · rw [h6] at e; cases e
        · rw [h6] at e; cases e; exact h7
end
end Go.Proofs.Ytagejkolgicecaa
