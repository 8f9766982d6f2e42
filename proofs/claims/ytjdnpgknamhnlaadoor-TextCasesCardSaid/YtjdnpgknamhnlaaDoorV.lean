/- Contracts of the reference's joined, Length, At, Slice. -/
import Derived.Test.YtjdnpgknamhnlaaDoorS
namespace Go.Proofs.YtjdnpgknamhnlaaDoor
open Go Go.RowKit Go.Shelf

/-- A slice of parts, as it reads: its cells from a place on. -/
def PartsRead (w : World) (v : Value) (ps : List (ByteArray × Int)) : Prop :=
  ∃ ao cap, v = .slice ao ps.length cap ∧ (∀ k (h : k < ps.length), ∃ g off, ao = some ⟨g, off, none⟩ ∧ g < w.heap.size ∧ w.cell? ⟨g, off + k * 2, none⟩ = some (.string ps[k].1) ∧ w.cell? ⟨g, off + k * 2 + 1, none⟩ = some (.int .i64 ps[k].2))
theorem cellsP_get (ps : List (ByteArray × Int)) : ∀ k (h : k < ps.length), (cellsP ps)[k * 2]? = some (.string ps[k].1) ∧ (cellsP ps)[k * 2 + 1]? = some (.int .i64 ps[k].2) := by
  induction ps with
  | nil => intro k h; simp at h
  | cons p ps ih =>
    intro k h
    have e : cellsP (p :: ps) = .string p.1 :: .int .i64 p.2 :: cellsP ps := by simp [cellsP]
    cases k with
    | zero => rw [e]; simp
    | succ k =>
      have hk := ih k (by simpa using h)
      rw [e, show (k + 1) * 2 = k * 2 + 1 + 1 by omega]
      simpa using hk
theorem cellsP_length (ps : List (ByteArray × Int)) : (cellsP ps).length = ps.length * 2 := by
  induction ps with
  | nil => rfl
  | cons p ps ih => simp [cellsP] at *; omega
theorem partsRead_of_row {w : World} {B : Nat} {v : Value} {ps : List (ByteArray × Int)} (h : w.ownsRow B 72 2 v ps.length (cellsP ps)) : PartsRead w v ps := by
  rcases h.2 with ⟨hv, h0⟩ | ⟨g, cap, cur, hv, hB, hg, r⟩
  · exact ⟨none, 0, by rw [hv, h0], fun k hk => by omega⟩
  · refine ⟨some ⟨g, 0, none⟩, cap, hv, fun k hk => ⟨g, 0, rfl, (Array.getElem?_eq_some_iff.1 hg).1, ?_, ?_⟩⟩
    · subst hv
      rw [Nat.zero_add, h.cellAt (k * 2) (by omega)]
      exact (cellsP_get ps k hk).1
    · subst hv
      rw [Nat.zero_add, h.cellAt (k * 2 + 1) (by omega)]
      exact (cellsP_get ps k hk).2
theorem PartsRead.below {w w' : World} {v : Value} {ps : List (ByteArray × Int)} (h : PartsRead w v ps) (hb : Below w.heap.size w w') : PartsRead w' v ps := by
  obtain ⟨ao, cap, hv, hc⟩ := h
  refine ⟨ao, cap, hv, fun k hk => ?_⟩
  obtain ⟨g, off, ha, hg, h1, h2⟩ := hc k hk
  exact ⟨g, off, ha, Nat.lt_of_lt_of_le hg hb.size, (hb.cell (p := ⟨g, off + k * 2, none⟩) hg).trans h1, (hb.cell (p := ⟨g, off + k * 2 + 1, none⟩) hg).trans h2⟩

theorem fold_push (l : List UInt8) : ∀ r : ByteArray, (l.map fun b => (b.toNat : Int)).foldl (fun r n => r.push (UInt8.ofNat n.toNat)) r = ⟨r.data ++ l.toArray⟩ := by
  induction l with
  | nil => intro r; simp
  | cons b l ih =>
    intro r
    rw [List.map_cons, List.foldl_cons, ih]
    have e : UInt8.ofNat ((b.toNat : Int)).toNat = b := by simp
    rw [e]
    show (⟨(r.data.push b) ++ l.toArray⟩ : ByteArray) = _
    congr 1
    simp
/-- string(b) of a row of bytes. -/
theorem conv_row (W : World) (B : Nat) (v : Value) (l : List UInt8) (h : W.ownsRow B 5 1 v l.length (Lib.byteCells l)) :
    (convert 58 9 v).run Tryd.prog W = .ok (.string ⟨l.toArray⟩) W := by
  rcases h.2 with ⟨hv, h0⟩ | ⟨g, cap, cur, hv, hB, hg, r⟩
  · subst hv
    have hl : l = [] := List.eq_nil_of_length_eq_zero h0
    subst hl
    rw [run_convert_bytes_string _ 58 9 5 _ _ _ Tryd.underlying58 Tryd.underlying5 Tryd.underlying9]
    rfl
  · subst hv
    rw [run_convert_bytes_string _ 58 9 5 _ _ _ Tryd.underlying58 Tryd.underlying5 Tryd.underlying9, run_bytesToString _ _ _ _ (l.map fun b => (b.toNat : Int)) ?_, fold_push]
    · simp [ByteArray.empty, ByteArray.emptyWithCapacity]; rfl
    · have := run_loadCells_list (P := Tryd.prog) (w := W) ⟨g, 0, none⟩ (Lib.byteCells l) (fun j u hj => by
        have hjl : j < l.length := by
          rcases Nat.lt_or_ge j (Lib.byteCells l).length with h' | h'
          · rw [Lib.byteCells_length] at h'; exact h'
          · rw [List.getElem?_eq_none h'] at hj; cases hj
        have e : (⟨g, 0, none⟩ : Addr).add j = ⟨g, j, none⟩ := by simp [Addr.add]; intro h; exact h.symm
        rw [e, h.cellAt j (by omega)]
        exact hj)
      rw [Lib.byteCells_length] at this
      rw [this]
      simp [Lib.byteCells]

def textsP (ps : List (ByteArray × Int)) : List ByteArray := ps.map (·.1)
set_option maxRecDepth 100000 in
set_option maxHeartbeats 2000000 in
theorem c59 (ps : List (ByteArray × Int)) (v : Value) (w : World) (hv : PartsRead w v ps) (hsum : sumS (textsP ps) ≤ 140737488355328) (hlen : ps.length ≤ 140737488355328) :
    Calls Tryd.prog 59 #[v] w fun e w' => e = .returned (.string ⟨(cat (textsP ps)).toArray⟩) ∧ Below w.heap.size w w' := by
  obtain ⟨ao, cap, rfl, hcells⟩ := hv
  have HC := Lib.hid hcells
  clear hcells
  have hlt' : (textsP ps).length = ps.length := by simp [textsP]
  have HL := Lib.hid hlt'
  clear hlt'
  obtain ⟨i0, hi, hz0, hz1, hz2⟩ := info_parts infoByte
  go_enter Tryd.func59, Tryd.ntmps59
  go_wp2
  go_loopw [3, 4] (fun b i wr => ∃ k : Nat, k ≤ ps.length ∧ i = .int .i64 k ∧ wr.ownsRow w.heap.size 5 1 b (cat ((textsP ps).take k)).length (Lib.byteCells (cat ((textsP ps).take k))) ∧ Below w.heap.size w wr) (fun _ i _ => ps.length - (Go.RowKit.intOf i).toNat)
  case atStart => exact ⟨0, Nat.zero_le _, rfl, World.ownsRow_nil _ _ _ _, Below.refl _ _⟩
  case round =>
    obtain ⟨k, hk, rfl, hrow, hB⟩ := hrel
    by_cases hlt : k < ps.length
    · obtain ⟨g, off, rfl, hgs, hcell0, _⟩ := HC.out k hlt
      have hcell := (hB.cell (p := ⟨g, off + k * 2, none⟩) hgs).trans hcell0
      clear hcell0
      have hkl : (k : Int) < ps.length := by omega
      have hk' : k < (textsP ps).length := by rw [HL.out]; exact hlt
      have hs1 := Lib.hid (cat_take_succ (textsP ps) k hk')
      have hs2 := sumS_take_succ (textsP ps) k hk'
      have hs3 := sumS_take_le (textsP ps) (k + 1)
      have hgk : (textsP ps)[k] = ps[k].1 := by simp [textsP]
      have HGK := Lib.hid hgk
      have hsz : (cat ((textsP ps).take k)).length + ps[k].1.size ≤ 140737488355328 := by
        rw [hgk] at hs2
        unfold sumS at hs2 hs3 hsum
        omega
      clear hs2 hs3 hgk
      go_wp2_with (at_builtin; refine Lib.wpList_append_own_string _ rfl _ _ 58 9 rfl w.heap.size 5 i0 Tryd.underlying58 Tryd.underlying9 hi hz0 hz1 hz2 _ _ _ rfl hrow ps[k].1 rfl ?c3 ?c4 ?c5 ?_)
      case c3 => unfold maxLen; omega
      case c4 => omega
      case c5 => exact hB.size
      intro v' w2 hown' hgrow _
      have hB2 : Below w.heap.size w w2 := hB.grown hgrow hB.size (fun j hj => (hrow.lt j hj).1)
      have hown2 : w2.ownsRow w.heap.size 5 1 v' (cat ((textsP ps).take (k + 1))).length (Lib.byteCells (cat ((textsP ps).take (k + 1)))) := by
        rw [hs1.out, HGK.out]
        have e1 : Lib.byteCells (cat ((textsP ps).take k) ++ ps[k].1.data.toList) = Lib.byteCells (cat ((textsP ps).take k)) ++ Lib.strCells ps[k].1 := by
          rw [Lib.strCells_eq]; simp [Lib.byteCells]
        have e2 : (cat ((textsP ps).take k) ++ ps[k].1.data.toList).length = (cat ((textsP ps).take k)).length + ps[k].1.size := by rw [List.length_append]; rfl
        rw [e1, e2]
        exact hown'
      obtain ⟨ao', cap', rfl⟩ := row_slice hown'
      go_wp2
      go_roundw
      case rel => exact ⟨k + 1, by omega, by go_num, hown2, hB2⟩
      case measure => simp [Go.RowKit.intOf]; omega
    · have hkl : (ps.length : Int) ≤ k := by omega
      have htk : Go.RowKit.Hid ((textsP ps).take k = textsP ps) := by show _ = _; rw [List.take_of_length_le (by rw [HL.out]; omega)]
      have hcv := conv_row wr w.heap.size _ _ hrow
      obtain ⟨ao', cap', rfl⟩ := row_slice hrow
      go_wp2
      go_ret
      exact ⟨by rw [htk.out]; rfl, hB⟩
end Go.Proofs.YtjdnpgknamhnlaaDoor
