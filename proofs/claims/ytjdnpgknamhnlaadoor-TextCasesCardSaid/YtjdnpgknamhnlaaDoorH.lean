/- Contract of join. -/
import Derived.Test.YtjdnpgknamhnlaaDoorG
namespace Go.Proofs.YtjdnpgknamhnlaaDoor
open Go Go.RowKit Go.Shelf

def cat (ps : List ByteArray) : List UInt8 := ps.flatMap fun p => p.data.toList
def sumS (ps : List ByteArray) : Nat := (cat ps).length
theorem cat_take_succ (ps : List ByteArray) (k : Nat) (h : k < ps.length) : cat (ps.take (k + 1)) = cat (ps.take k) ++ ps[k].data.toList := by
  unfold cat
  rw [List.take_succ_eq_append_getElem h, List.flatMap_append]
  simp
theorem sumS_take_succ (ps : List ByteArray) (k : Nat) (h : k < ps.length) : sumS (ps.take (k + 1)) = sumS (ps.take k) + ps[k].size := by
  unfold sumS
  rw [cat_take_succ ps k h, List.length_append]
  rfl
theorem sumS_take_le (ps : List ByteArray) (k : Nat) : sumS (ps.take k) ≤ sumS ps := by
  unfold sumS cat
  conv => rhs; rw [← List.take_append_drop k ps]
  rw [List.flatMap_append, List.length_append]
  omega

def JoinRead (w : World) (v : Value) (ps : List ByteArray) : Prop :=
  ∃ ao cap, v = .slice ao ps.length cap ∧ ∀ k (h : k < ps.length), ∃ g, ao = some ⟨g, 0, none⟩ ∧ g < w.heap.size ∧ w.cell? ⟨g, k, none⟩ = some (.string ps[k])
theorem joinRead_of_row {w : World} {B : Nat} {v : Value} {ps : List ByteArray} (h : w.ownsRow B 9 1 v ps.length (ps.map Value.string)) : JoinRead w v ps := by
  rcases h.2 with ⟨hv, h0⟩ | ⟨g, cap, cur, hv, hB, hg, r⟩
  · exact ⟨none, 0, by rw [hv, h0], fun k hk => by omega⟩
  · refine ⟨some ⟨g, 0, none⟩, cap, hv, fun k hk => ⟨g, rfl, (Array.getElem?_eq_some_iff.1 hg).1, ?_⟩⟩
    subst hv
    rw [h.cellAt k (by omega)]
    simp [hk]

set_option maxRecDepth 100000 in
set_option maxHeartbeats 2000000 in
theorem c54 (ps : List ByteArray) (v : Value) (w : World) (hv : JoinRead w v ps) (hsum : sumS ps ≤ 140737488355328) (hlen : ps.length ≤ 140737488355328) :
    Calls Tryd.prog 54 #[v] w fun e w' => e = .returned (.string ⟨(cat ps).toArray⟩) ∧ Below w.heap.size w w' := by
  obtain ⟨ao, cap, rfl, hcells⟩ := hv
  have HC := Lib.hid hcells
  clear hcells
  go_enter Tryd.func54, Tryd.ntmps54
  go_wp2
  go_loop [3, 11] (fun t i => ∃ k : Nat, k ≤ ps.length ∧ i = .int .i64 k ∧ t = .int .i64 (sumS (ps.take k))) (fun _ i => ps.length - (Go.RowKit.intOf i).toNat)
  case atStart => exact ⟨0, Nat.zero_le _, rfl, rfl⟩
  case round =>
    obtain ⟨k, hk, rfl, rfl⟩ := hrel
    by_cases hlt : k < ps.length
    · obtain ⟨g, rfl, hgs, hcell⟩ := HC.out k hlt
      have hs1 := Lib.hid (sumS_take_succ ps k hlt)
      have hle := sumS_take_le ps (k + 1)
      have hle2 : sumS (ps.take k) + ps[k].size ≤ 140737488355328 := by rw [← hs1.out]; omega
      have hkl : (k : Int) < ps.length := by omega
      go_wp2
      go_round
      case rel => exact ⟨k + 1, by omega, by go_num, by rw [hs1.out]; go_num⟩
      case measure => simp [Go.RowKit.intOf]; omega
    · have hke : k = ps.length := by omega
      have hkl : (ps.length : Int) ≤ k := by omega
      have hle : sumS (ps.take k) ≤ 140737488355328 := Nat.le_trans (sumS_take_le ps k) hsum
      have cG := Tryd.Builder_Grow_fresh w.heap.size w.heap.size (sumS (ps.take k)) (w.alloc (.cells #[.pointer none, .slice none 0 0] 98)) (Nat.le_refl _) (World.alloc_heap_new w _) (by simp) (by omega)
      clear hke
      go_wp2_with (go_at_call 74; refine cG.mono ?_; rintro e w1 ⟨rfl, hbd1, hb1⟩)
      have hB1 : Below w.heap.size w w1 := ((Below.refl _ w).alloc (Nat.le_refl _) _).trans hb1
      have hbd : Lib.IsBuilder 98 5 w.heap.size w.heap.size (Lib.byteCells (cat (ps.take 0))) w1 := .inr hbd1
      have Hbd := Lib.hid hbd
      clear hbd hbd1
      go_loopw [24] (fun i wr => ∃ j : Nat, j ≤ ps.length ∧ i = .int .i64 j ∧ Go.RowKit.Hid (Lib.IsBuilder 98 5 w.heap.size w.heap.size (Lib.byteCells (cat (ps.take j))) wr) ∧ Below w.heap.size w wr) (fun i _ => ps.length - (Go.RowKit.intOf i).toNat)
      case atStart => exact ⟨0, Nat.zero_le _, rfl, Hbd, hB1⟩
      case round =>
        obtain ⟨j, hj, rfl, hbj, hBj⟩ := hrel
        by_cases hlj : j < ps.length
        · obtain ⟨g, rfl, hgs, hcell0⟩ := HC.out j hlj
          have hcell := (hBj.cell (p := ⟨g, j, none⟩) hgs).trans hcell0
          have hs1 := Lib.hid (cat_take_succ ps j hlj)
          have hsz : (Lib.byteCells (cat (ps.take j))).length + ps[j].size ≤ 140737488355328 := by
            rw [Lib.byteCells_length]
            have h1 := sumS_take_succ ps j hlj
            have h2 := sumS_take_le ps (j + 1)
            unfold sumS at h1 h2 hsum
            omega
          have cW := writeString w.heap.size w.heap.size (Lib.byteCells (cat (ps.take j))) ps[j] wr hbj.out hsz hBj.size
          clear hcell0
          have hkl : (j : Int) < ps.length := by omega
          go_wp2_with (go_at_call 75; refine cW.mono ?_; rintro e w2 ⟨rfl, hbd2, hb2⟩)
          go_roundw
          case rel =>
            refine ⟨j + 1, by omega, by go_num, ?_, hBj.trans hb2⟩
            show Lib.IsBuilder _ _ _ _ _ _
            rw [hs1.out]
            have e1 : Lib.byteCells (cat (ps.take j) ++ ps[j].data.toList) = Lib.byteCells (cat (ps.take j)) ++ Lib.strCells ps[j] := by
              rw [Lib.strCells_eq]; simp [Lib.byteCells]
            rw [e1]
            exact .inr hbd2
          case measure => simp [Go.RowKit.intOf]; omega
        · have hje : Go.RowKit.Hid (ps.take j = ps) := by show _ = _; rw [List.take_of_length_le (by omega)]
          have hkl' : (ps.length : Int) ≤ j := by omega
          have cS := Tryd.Builder_String_any w.heap.size w.heap.size (cat (ps.take j)) wr hbj.out hBj.size
          go_wp2_with (go_at_call 76; refine cS.mono ?_; rintro e w2 ⟨rfl, hb2⟩)
          go_ret
          exact ⟨by rw [hje.out]; rfl, hBj.trans hb2⟩
end Go.Proofs.YtjdnpgknamhnlaaDoor
