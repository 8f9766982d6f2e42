/- Zones: find, with each question. -/
import Derived.Test.YtojkkgmfccchbaaH
namespace Go.Proofs.Ytojkkgmfccchbaa
open Go Go.RowKit Go.Sort

theorem per_zero : (⟨0, 0, 0, 0⟩ : Per) = ⟨0, 0, 0, 0⟩ := rfl
/-- where a question is first answered with yes -/
def IdxR (q : Per → Bool) (ps : List Per) (w : World) (e : Ending) (w' : World) : Prop :=
  ((ps.find? q = none ∧ e = .returned (.int .i64 (-1))) ∨ ∃ (k : Nat) (p : Per), ps.find? q = some p ∧ ps[k]? = some p ∧ e = .returned (.int .i64 k)) ∧ Below w.heap.size w w'
def FndR (q : Per → Bool) (ps : List Per) (w : World) (e : Ending) (w' : World) : Prop :=
  ((ps.find? q = none ∧ e = .returned (.tuple #[PV ⟨0, 0, 0, 0⟩, .bool false])) ∨ ∃ p : Per, ps.find? q = some p ∧ e = .returned (.tuple #[PV p, .bool true])) ∧ Below w.heap.size w w'
theorem t81 (p : Per) (m : Int) (c : Nat) (w : World) (hc : w.cell? ⟨c, 0, none⟩ = some (.int .i64 m)) : Calls Try.prog 81 #[PV p, .pointer (some ⟨c, 0, none⟩)] w fun e w' => e = .returned (.bool (p.has m)) ∧ Below w.heap.size w w' := by
  have C := Lib.hid (t82 p m)
  have hl := World.block_lt_of_cell? w _ hc
  have hne : c ≠ w.heap.size := by show c ≠ _; have : c < w.heap.size := hl; omega
  generalize p.has m = b at *
  obtain ⟨f, l, bb, o⟩ := p
  go_enter Try.func81, Try.ntmps81
  go_wp2_with fail
  refine (C.out _).mono ?_
  rintro e w1 ⟨rfl, hb1⟩
  have hB1 := (bSelf w _).trans (hb1.mono (by simp))
  go_wp2
  go_ret
  exact ⟨rfl, hB1⟩
theorem t63 (p : Per) (m : Int) (c : Nat) (w : World) (hc : w.cell? ⟨c, 0, none⟩ = some (.int .i64 m)) (hp : POk p) (h1 : -200000000000 ≤ m) (h2 : m ≤ 200000000000) : Calls Try.prog 63 #[PV p, .pointer (some ⟨c, 0, none⟩)] w fun e w' => e = .returned (.bool (p.shows m)) ∧ Below w.heap.size w w' := by
  have C := Lib.hid (fun W => t61 p m W hp h1 h2)
  have hl := World.block_lt_of_cell? w _ hc
  have hne : c ≠ w.heap.size := by show c ≠ _; have : c < w.heap.size := hl; omega
  clear hp
  generalize p.shows m = b at *
  obtain ⟨f, l, bb, o⟩ := p
  go_enter Try.func63, Try.ntmps63
  go_wp2_with fail
  refine (C.out _).mono ?_
  rintro e w1 ⟨rfl, hb1⟩
  have hB1 := (bSelf w _).trans (hb1.mono (by simp))
  go_wp2
  go_ret
  exact ⟨rfl, hB1⟩
theorem t64 (p : Per) (m : Int) (c : Nat) (w : World) (hc : w.cell? ⟨c, 0, none⟩ = some (.int .i64 m)) (hp : POk p) : Calls Try.prog 64 #[PV p, .pointer (some ⟨c, 0, none⟩)] w fun e w' => e = .returned (.bool (p.skips m)) ∧ Below w.heap.size w w' := by
  have C := Lib.hid (fun W => t65 p m W hp)
  have hl := World.block_lt_of_cell? w _ hc
  have hne : c ≠ w.heap.size := by show c ≠ _; have : c < w.heap.size := hl; omega
  clear hp
  generalize p.skips m = b at *
  obtain ⟨f, l, bb, o⟩ := p
  go_enter Try.func64, Try.ntmps64
  go_wp2_with fail
  refine (C.out _).mono ?_
  rintro e w1 ⟨rfl, hb1⟩
  have hB1 := (bSelf w _).trans (hb1.mono (by simp))
  go_wp2
  go_ret
  exact ⟨rfl, hB1⟩
set_option maxRecDepth 100000 in
set_option maxHeartbeats 2000000 in
theorem t85_81 (B cap : Nat) (ps : List Per) (m : Int) (c : Nat) (w : World) (hP : Pr w B cap ps) (hc : w.cell? ⟨c, 0, none⟩ = some (.int .i64 m)) (hcap : ps.length ≤ 100) :
    Calls Try.prog 85 #[.slice (some ⟨B, 0, none⟩) ps.length cap, .func (.func 81) #[] #[.pointer (some ⟨c, 0, none⟩)]] w (IdxR (fun p => p.has m) ps w) := by
  have HP := Lib.hid hP
  have HC := Lib.hid hc
  have hcl : c < w.heap.size := World.block_lt_of_cell? w _ hc
  have hrd := hP.read
  have hcp := hrd.1
  have HF : Hid (ps.find? (fun p => p.has m) = (ps.drop 0).find? (fun p => p.has m)) := by show _ = _; rw [List.drop_zero]
  have hl' : (ps.length : Int) ≤ 100 := by omega
  clear hP hc hrd
  go_enter Try.func85, Try.ntmps85
  go_wp2_with fail
  go_loopw [8] (fun i wr => ∃ k : Nat, k ≤ ps.length ∧ i = .int .i64 k ∧ Hid (ps.find? (fun p => p.has m) = (ps.drop k).find? (fun p => p.has m)) ∧ Below w.heap.size w wr) (fun i _ => ps.length - (intOf i).toNat)
  case atStart => exact ⟨0, Nat.zero_le _, rfl, HF, Below.refl _ _⟩
  case round =>
    obtain ⟨k, hk, rfl, HD, hb⟩ := hrel
    by_cases hlt : k < ps.length
    · have hg : ps[k]? = some ps[k] := List.getElem?_eq_getElem hlt
      obtain ⟨c0, c1, c2, c3⟩ := (HP.out.below hb).read.2.2.2 k _ hg
      have hcw : wr.cell? ⟨c, 0, none⟩ = some (.int .i64 m) := (hb.cell (p := ⟨c, 0, none⟩) hcl).trans HC.out
      have CF := Lib.hid (fun W hW => t81 ps[k] m c W hW)
      have HG := Lib.hid hg
      have HS : Hid (ps.find? (fun p => p.has m) = if ps[k].has m = true then some ps[k] else (ps.drop (k + 1)).find? (fun p => p.has m)) := by
        show _ = _
        rw [HD.out, List.drop_eq_getElem_cons hlt, List.find?_cons]
        cases ps[k].has m <;> rfl
      have hlt' : (k : Int) < ps.length := by omega
      have HCW := Lib.hid hcw
      clear hg HD hcw
      generalize ps[k] = p at *
      cases hq : p.has m
      · rw [hq] at HS
        have C := CF.out
        rw [hq] at C
        have HS2 : Hid (ps.find? (fun p => p.has m) = (ps.drop (k + 1)).find? (fun p => p.has m)) := HS.out
        have CG := Lib.hid C
        clear C CF hq HS
        obtain ⟨f, l, bb, o⟩ := p
        go_wp2_with fail
        refine (CG.out _ HCW.out).mono ?_
        rintro e w1 ⟨rfl, hb1⟩
        have hB1 := bThen hb hb1
        go_wp2_with fail
        go_roundw
        case rel => exact ⟨k + 1, by omega, by go_num, HS2, hB1⟩
        case measure => simp [intOf]; omega
      · rw [hq] at HS
        have C := CF.out
        rw [hq] at C
        have HS2 : Hid (ps.find? (fun p => p.has m) = some p) := HS.out
        have CG := Lib.hid C
        clear C CF hq HS
        obtain ⟨f, l, bb, o⟩ := p
        go_wp2_with fail
        refine (CG.out _ HCW.out).mono ?_
        rintro e w1 ⟨rfl, hb1⟩
        have hB1 := bThen hb hb1
        go_wp2
        go_ret
        exact ⟨.inr ⟨k, _, HS2.out, HG.out, rfl⟩, hB1⟩
    · have he : ps.drop k = [] := List.drop_eq_nil_of_le (by omega)
      have HE : Hid (ps.find? (fun p => p.has m) = none) := by show _ = _; rw [HD.out, he]; rfl
      clear he
      go_wp2
      go_ret
      exact ⟨.inl ⟨HE.out, rfl⟩, hb⟩
set_option maxRecDepth 100000 in
set_option maxHeartbeats 2000000 in
theorem t85_63 (B cap : Nat) (ps : List Per) (m : Int) (c : Nat) (w : World) (hP : Pr w B cap ps) (hc : w.cell? ⟨c, 0, none⟩ = some (.int .i64 m)) (hcap : ps.length ≤ 100) (hpk : ∀ p ∈ ps, POk p) (h1 : -200000000000 ≤ m) (h2 : m ≤ 200000000000) :
    Calls Try.prog 85 #[.slice (some ⟨B, 0, none⟩) ps.length cap, .func (.func 63) #[] #[.pointer (some ⟨c, 0, none⟩)]] w (IdxR (fun p => p.shows m) ps w) := by
  have HP := Lib.hid hP
  have HC := Lib.hid hc
  have hcl : c < w.heap.size := World.block_lt_of_cell? w _ hc
  have hrd := hP.read
  have hcp := hrd.1
  have HF : Hid (ps.find? (fun p => p.shows m) = (ps.drop 0).find? (fun p => p.shows m)) := by show _ = _; rw [List.drop_zero]
  have hl' : (ps.length : Int) ≤ 100 := by omega
  clear hP hc hrd
  go_enter Try.func85, Try.ntmps85
  go_wp2_with fail
  go_loopw [8] (fun i wr => ∃ k : Nat, k ≤ ps.length ∧ i = .int .i64 k ∧ Hid (ps.find? (fun p => p.shows m) = (ps.drop k).find? (fun p => p.shows m)) ∧ Below w.heap.size w wr) (fun i _ => ps.length - (intOf i).toNat)
  case atStart => exact ⟨0, Nat.zero_le _, rfl, HF, Below.refl _ _⟩
  case round =>
    obtain ⟨k, hk, rfl, HD, hb⟩ := hrel
    by_cases hlt : k < ps.length
    · have hg : ps[k]? = some ps[k] := List.getElem?_eq_getElem hlt
      obtain ⟨c0, c1, c2, c3⟩ := (HP.out.below hb).read.2.2.2 k _ hg
      have hcw : wr.cell? ⟨c, 0, none⟩ = some (.int .i64 m) := (hb.cell (p := ⟨c, 0, none⟩) hcl).trans HC.out
      have CF := Lib.hid (fun W hW => t63 ps[k] m c W hW (hpk _ (List.getElem_mem hlt)) h1 h2)
      have HG := Lib.hid hg
      have HS : Hid (ps.find? (fun p => p.shows m) = if ps[k].shows m = true then some ps[k] else (ps.drop (k + 1)).find? (fun p => p.shows m)) := by
        show _ = _
        rw [HD.out, List.drop_eq_getElem_cons hlt, List.find?_cons]
        cases ps[k].shows m <;> rfl
      have hlt' : (k : Int) < ps.length := by omega
      have HCW := Lib.hid hcw
      clear hg HD hcw
      generalize ps[k] = p at *
      cases hq : p.shows m
      · rw [hq] at HS
        have C := CF.out
        rw [hq] at C
        have HS2 : Hid (ps.find? (fun p => p.shows m) = (ps.drop (k + 1)).find? (fun p => p.shows m)) := HS.out
        have CG := Lib.hid C
        clear C CF hq HS
        obtain ⟨f, l, bb, o⟩ := p
        go_wp2_with fail
        refine (CG.out _ HCW.out).mono ?_
        rintro e w1 ⟨rfl, hb1⟩
        have hB1 := bThen hb hb1
        go_wp2_with fail
        go_roundw
        case rel => exact ⟨k + 1, by omega, by go_num, HS2, hB1⟩
        case measure => simp [intOf]; omega
      · rw [hq] at HS
        have C := CF.out
        rw [hq] at C
        have HS2 : Hid (ps.find? (fun p => p.shows m) = some p) := HS.out
        have CG := Lib.hid C
        clear C CF hq HS
        obtain ⟨f, l, bb, o⟩ := p
        go_wp2_with fail
        refine (CG.out _ HCW.out).mono ?_
        rintro e w1 ⟨rfl, hb1⟩
        have hB1 := bThen hb hb1
        go_wp2
        go_ret
        exact ⟨.inr ⟨k, _, HS2.out, HG.out, rfl⟩, hB1⟩
    · have he : ps.drop k = [] := List.drop_eq_nil_of_le (by omega)
      have HE : Hid (ps.find? (fun p => p.shows m) = none) := by show _ = _; rw [HD.out, he]; rfl
      clear he
      go_wp2
      go_ret
      exact ⟨.inl ⟨HE.out, rfl⟩, hb⟩
set_option maxRecDepth 100000 in
set_option maxHeartbeats 2000000 in
theorem t85_64 (B cap : Nat) (ps : List Per) (m : Int) (c : Nat) (w : World) (hP : Pr w B cap ps) (hc : w.cell? ⟨c, 0, none⟩ = some (.int .i64 m)) (hcap : ps.length ≤ 100) (hpk : ∀ p ∈ ps, POk p) :
    Calls Try.prog 85 #[.slice (some ⟨B, 0, none⟩) ps.length cap, .func (.func 64) #[] #[.pointer (some ⟨c, 0, none⟩)]] w (IdxR (fun p => p.skips m) ps w) := by
  have HP := Lib.hid hP
  have HC := Lib.hid hc
  have hcl : c < w.heap.size := World.block_lt_of_cell? w _ hc
  have hrd := hP.read
  have hcp := hrd.1
  have HF : Hid (ps.find? (fun p => p.skips m) = (ps.drop 0).find? (fun p => p.skips m)) := by show _ = _; rw [List.drop_zero]
  have hl' : (ps.length : Int) ≤ 100 := by omega
  clear hP hc hrd
  go_enter Try.func85, Try.ntmps85
  go_wp2_with fail
  go_loopw [8] (fun i wr => ∃ k : Nat, k ≤ ps.length ∧ i = .int .i64 k ∧ Hid (ps.find? (fun p => p.skips m) = (ps.drop k).find? (fun p => p.skips m)) ∧ Below w.heap.size w wr) (fun i _ => ps.length - (intOf i).toNat)
  case atStart => exact ⟨0, Nat.zero_le _, rfl, HF, Below.refl _ _⟩
  case round =>
    obtain ⟨k, hk, rfl, HD, hb⟩ := hrel
    by_cases hlt : k < ps.length
    · have hg : ps[k]? = some ps[k] := List.getElem?_eq_getElem hlt
      obtain ⟨c0, c1, c2, c3⟩ := (HP.out.below hb).read.2.2.2 k _ hg
      have hcw : wr.cell? ⟨c, 0, none⟩ = some (.int .i64 m) := (hb.cell (p := ⟨c, 0, none⟩) hcl).trans HC.out
      have CF := Lib.hid (fun W hW => t64 ps[k] m c W hW (hpk _ (List.getElem_mem hlt)))
      have HG := Lib.hid hg
      have HS : Hid (ps.find? (fun p => p.skips m) = if ps[k].skips m = true then some ps[k] else (ps.drop (k + 1)).find? (fun p => p.skips m)) := by
        show _ = _
        rw [HD.out, List.drop_eq_getElem_cons hlt, List.find?_cons]
        cases ps[k].skips m <;> rfl
      have hlt' : (k : Int) < ps.length := by omega
      have HCW := Lib.hid hcw
      clear hg HD hcw
      generalize ps[k] = p at *
      cases hq : p.skips m
      · rw [hq] at HS
        have C := CF.out
        rw [hq] at C
        have HS2 : Hid (ps.find? (fun p => p.skips m) = (ps.drop (k + 1)).find? (fun p => p.skips m)) := HS.out
        have CG := Lib.hid C
        clear C CF hq HS
        obtain ⟨f, l, bb, o⟩ := p
        go_wp2_with fail
        refine (CG.out _ HCW.out).mono ?_
        rintro e w1 ⟨rfl, hb1⟩
        have hB1 := bThen hb hb1
        go_wp2_with fail
        go_roundw
        case rel => exact ⟨k + 1, by omega, by go_num, HS2, hB1⟩
        case measure => simp [intOf]; omega
      · rw [hq] at HS
        have C := CF.out
        rw [hq] at C
        have HS2 : Hid (ps.find? (fun p => p.skips m) = some p) := HS.out
        have CG := Lib.hid C
        clear C CF hq HS
        obtain ⟨f, l, bb, o⟩ := p
        go_wp2_with fail
        refine (CG.out _ HCW.out).mono ?_
        rintro e w1 ⟨rfl, hb1⟩
        have hB1 := bThen hb hb1
        go_wp2
        go_ret
        exact ⟨.inr ⟨k, _, HS2.out, HG.out, rfl⟩, hB1⟩
    · have he : ps.drop k = [] := List.drop_eq_nil_of_le (by omega)
      have HE : Hid (ps.find? (fun p => p.skips m) = none) := by show _ = _; rw [HD.out, he]; rfl
      clear he
      go_wp2
      go_ret
      exact ⟨.inl ⟨HE.out, rfl⟩, hb⟩
end Go.Proofs.Ytojkkgmfccchbaa
