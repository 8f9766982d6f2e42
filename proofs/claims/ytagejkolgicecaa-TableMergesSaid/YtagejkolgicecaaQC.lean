/- The reference: Get, Where, goes, Stop. -/
import Derived.Test.YtagejkolgicecaaQB
namespace Go.Proofs.Ytagejkolgicecaa
open Go Go.RowKit Go.Maps
section
variable {F : Nat → Prop} {r : Nat} {R : Rt} {rv wv : Value}
/-- the row of a key -/
def Rt.find (R : Rt) (k : Int) : Option (Int × Int × Nat) := R.rows.find? (fun x => decide (x.1 = k))
theorem find_none {R : Rt} {k : Int} (h : ∀ x ∈ R.rows, x.1 ≠ k) : R.find k = none := by
  unfold Rt.find; rw [List.find?_eq_none]; intro x hx; simpa using h x hx
theorem find_some : ∀ (l : List (Int × Int × Nat)) (j : Nat) (k v : Int) (t : Nat), l[j]? = some (k, v, t) → (∀ x ∈ l.take j, x.1 ≠ k) → l.find? (fun x => decide (x.1 = k)) = some (k, v, t)
  | [], j, k, v, t, h, _ => by simp at h
  | y :: l, 0, k, v, t, h, _ => by simp at h; subst h; simp
  | y :: l, j + 1, k, v, t, h, hn => by
    have h1 : y.1 ≠ k := hn y (by simp)
    rw [List.find?_cons]
    simp only [h1, decide_false]
    exact find_some l j k v t (by simpa using h) (fun x hx => hn x (by simp [hx]))
def Rt.getE (R : Rt) (k : Int) : Ending := match R.find k with
  | some x => .returned (.tuple #[.int .i64 x.2.1, .int .i64 0])
  | none => .returned (.tuple #[.int .i64 0, .int .i64 3])
set_option maxRecDepth 100000 in
theorem t50 (w : World) (h : RWit F w r R rv wv) (hl : R.rows.length ≤ 1000) (k : Int) : Calls Try.prog 50 #[.pointer (some ⟨r, 0, none⟩), .int .i64 k] w fun e w' => e = R.getE k ∧ w' = w := by
  have q0 := h.blk.cell 0 rfl
  have q3 := h.blk.cell 3 rfl
  have C62 := Lib.hid (t62 r w q0)
  have C63 := Lib.hid (t63 w h hl k)
  obtain ⟨ao, cap, rfl, _, _, hc⟩ := h.rows.form
  have HC := Lib.hid hc
  clear h hc
  go_enter Try.func50, Try.ntmps50
  go_wp2_with (go_at_call 62; refine C62.out.mono ?_; rintro e w' ⟨rfl, rfl⟩)
  refine C63.out.mono ?_
  rintro e w1 ⟨⟨h1, rfl⟩ | ⟨j, v, t, h1, h2, rfl⟩, rfl⟩
  · have HE : Hid (R.getE k = .returned (.tuple #[.int .i64 0, .int .i64 3])) := by show _ = _; unfold Rt.getE; rw [find_none h1]
    clear h1
    go_wp2
    go_ret2
    exact ⟨by rw [HE.out]; rfl, rfl⟩
  · have HE : Hid (R.getE k = .returned (.tuple #[.int .i64 v, .int .i64 0])) := by show _ = _; unfold Rt.getE Rt.find; rw [find_some R.rows j k v t h1 h2]
    obtain ⟨g, rfl, _, hcell, _⟩ := HC.out j _ h1
    have c1 : w1.cell? ⟨g, j * 3 + 1, none⟩ = some (.int .i64 v) := hcell 1 _ (by decide) rfl
    have hlt : (j : Int) < R.rows.length := by have := (List.getElem?_eq_some_iff.1 h1).1; omega
    have hl' : (R.rows.length : Int) ≤ 1000 := by omega
    clear h1 h2 hcell HC
    go_wp2
    go_ret2
    exact ⟨by rw [HE.out]; rfl, rfl⟩
def Rt.WhR (R : Rt) (k : Int) (e : Ending) : Prop := ((∀ x ∈ R.rows, x.1 ≠ k) ∧ e = .returned (.tuple #[.int .i64 0, .int .i64 3])) ∨ ∃ (j : Nat) (v : Int) (t : Nat), R.rows[j]? = some (k, v, t) ∧ (∀ x ∈ R.rows.take j, x.1 ≠ k) ∧ e = .returned (.tuple #[.int .i64 (j : Int), .int .i64 0])
set_option maxRecDepth 100000 in
theorem t51 (w : World) (h : RWit F w r R rv wv) (hl : R.rows.length ≤ 1000) (k : Int) : Calls Try.prog 51 #[.pointer (some ⟨r, 0, none⟩), .int .i64 k] w fun e w' => R.WhR k e ∧ w' = w := by
  have q0 := h.blk.cell 0 rfl
  have C62 := Lib.hid (t62 r w q0)
  have C63 := Lib.hid (t63 w h hl k)
  clear h
  go_enter Try.func51, Try.ntmps51
  go_wp2_with (go_at_call 62; refine C62.out.mono ?_; rintro e w' ⟨rfl, rfl⟩)
  refine C63.out.mono ?_
  rintro e w1 ⟨⟨h1, rfl⟩ | ⟨j, v, t, h1, h2, rfl⟩, rfl⟩
  · have H1 := Lib.hid h1
    clear h1
    go_wp2
    go_ret2
    exact ⟨.inl ⟨H1.out, rfl⟩, rfl⟩
  · have H1 := Lib.hid h1
    have H2 := Lib.hid h2
    clear h1 h2
    go_wp2
    go_ret2
    exact ⟨.inr ⟨j, v, t, H1.out, H2.out, rfl⟩, rfl⟩
def Rt.atE (R : Rt) (i : Int) : Ending :=
  if 0 ≤ i then (match R.rows[i.toNat]? with | some x => .returned (.tuple #[.int .i64 x.1, .int .i64 x.2.1, .int .i64 0]) | none => .returned (.tuple #[.int .i64 0, .int .i64 0, .int .i64 3]))
  else .returned (.tuple #[.int .i64 0, .int .i64 0, .int .i64 3])
set_option maxRecDepth 100000 in
set_option maxHeartbeats 1000000 in
theorem t52 (w : World) (h : RWit F w r R rv wv) (hl : R.rows.length ≤ 1000) (i : Int) : Calls Try.prog 52 #[.pointer (some ⟨r, 0, none⟩), .int .i64 i] w fun e w' => e = R.atE i ∧ Below w.heap.size w w' := by
  have q0 := h.blk.cell 0 rfl
  have q3 := h.blk.cell 3 rfl
  have C62 := Lib.hid (t62 r w q0)
  obtain ⟨ao, cap, rfl, _, _, hc⟩ := h.rows.form
  have HC := Lib.hid hc
  have hl' : (R.rows.length : Int) ≤ 1000 := by omega
  clear h hc
  by_cases hneg : i < 0
  · have HE : Hid (R.atE i = .returned (.tuple #[.int .i64 0, .int .i64 0, .int .i64 3])) := by show _ = _; unfold Rt.atE; rw [if_neg (by omega)]
    go_enter Try.func52, Try.ntmps52
    go_wp2_with (go_at_call 62; refine C62.out.mono ?_; rintro e w' ⟨rfl, rfl⟩)
    go_ret3
    exact ⟨by rw [HE.out]; rfl, Below.refl _ _⟩
  · by_cases hbig : (R.rows.length : Int) ≤ i
    · have HE : Hid (R.atE i = .returned (.tuple #[.int .i64 0, .int .i64 0, .int .i64 3])) := by
        show _ = _
        have h1 : R.rows[i.toNat]? = none := List.getElem?_eq_none (by omega)
        unfold Rt.atE; rw [if_pos (by omega), h1]
      go_enter Try.func52, Try.ntmps52
      go_wp2_with (go_at_call 62; refine C62.out.mono ?_; rintro e w' ⟨rfl, rfl⟩)
      go_ret3
      exact ⟨by rw [HE.out]; rfl, Below.refl _ _⟩
    · obtain ⟨n, rfl⟩ : ∃ n : Nat, i = n := ⟨i.toNat, by omega⟩
      obtain ⟨k, v, t, hg⟩ : ∃ k v t, R.rows[n]? = some (k, v, t) := ⟨_, _, _, List.getElem?_eq_getElem (by omega)⟩
      obtain ⟨g, rfl, _, hcell, _⟩ := HC.out n _ hg
      have c0 : w.cell? ⟨g, n * 3 + 0, none⟩ = some (.int .i64 k) := hcell 0 _ (by decide) rfl
      rw [Nat.add_zero] at c0
      have c1 : w.cell? ⟨g, n * 3 + 1, none⟩ = some (.int .i64 v) := hcell 1 _ (by decide) rfl
      have HE : Hid (R.atE (n : Int) = .returned (.tuple #[.int .i64 k, .int .i64 v, .int .i64 0])) := by
        show _ = _
        unfold Rt.atE; rw [if_pos (by omega), Int.toNat_natCast, hg]
      clear hg hcell HC
      go_enter Try.func52, Try.ntmps52
      go_wp2_with (go_at_call 62; refine C62.out.mono ?_; rintro e w' ⟨rfl, rfl⟩)
      go_region
      all_goals go_wp2
      all_goals go_ret3
      all_goals exact ⟨by rw [HE.out]; rfl, (Below.refl _ _).drew⟩
theorem t53 (w : World) (h : RWit F w r R rv wv) (hl : R.rows.length ≤ 1000) : Calls Try.prog 53 #[.pointer (some ⟨r, 0, none⟩)] w fun e w' => e = R.atE 0 ∧ Below w.heap.size w w' := by
  have C := Lib.hid (t52 w h hl 0)
  clear h
  obtain ⟨a, b, c, hE⟩ : ∃ a b c : Int, R.atE 0 = .returned (.tuple #[.int .i64 a, .int .i64 b, .int .i64 c]) := by
    unfold Rt.atE; rw [if_pos (by omega)]
    split
    · exact ⟨_, _, _, rfl⟩
    · exact ⟨_, _, _, rfl⟩
  rw [hE] at C ⊢
  clear hE
  go_enter Try.func53, Try.ntmps53
  go_wp2_with fail
  refine C.out.mono ?_
  rintro e w1 ⟨rfl, hb⟩
  have HB := Lib.hid hb
  clear hb
  go_wp2
  go_ret3
  exact ⟨rfl, HB.out⟩
/-- a walk that is not over -/
def Rt.on (R : Rt) (x : Int) : Option Nat := if 0 ≤ x then (match R.walks[x.toNat]? with | some (l, false) => some l | _ => none) else none
set_option maxRecDepth 100000 in
set_option maxHeartbeats 1000000 in
theorem t72 (w : World) (h : RWit F w r R rv wv) (hl : R.walks.length ≤ 1000) (x : Int) : Calls Try.prog 72 #[.pointer (some ⟨r, 0, none⟩), .int .i64 x] w fun e w' => e = .returned (.bool (R.on x).isSome) ∧ w' = w := by
  have q0 := h.blk.cell 0 rfl
  have q4 := h.blk.cell 4 rfl
  have C62 := Lib.hid (t62 r w q0)
  obtain ⟨ao, cap, rfl, _, _, hc⟩ := h.walks.form
  have HC := Lib.hid hc
  have hl' : (R.walks.length : Int) ≤ 1000 := by omega
  clear h hc
  by_cases hneg : x < 0
  · have HE : Hid (R.on x = none) := by show _ = _; unfold Rt.on; rw [if_neg (by omega)]
    have hn2 : ¬ (x ≥ 0) := by omega
    go_enter Try.func72, Try.ntmps72
    go_wp2_with (go_at_call 62; refine C62.out.mono ?_; rintro e w' ⟨rfl, rfl⟩)
    go_ret
    exact ⟨by rw [HE.out]; rfl, rfl⟩
  · by_cases hbig : (R.walks.length : Int) ≤ x
    · have HE : Hid (R.on x = none) := by
        show _ = _
        have h1 : R.walks[x.toNat]? = none := List.getElem?_eq_none (by omega)
        unfold Rt.on; rw [if_pos (by omega), h1]
      have hn2 : ¬ (x < R.walks.length) := by omega
      go_enter Try.func72, Try.ntmps72
      go_wp2_with (go_at_call 62; refine C62.out.mono ?_; rintro e w' ⟨rfl, rfl⟩)
      go_ret
      exact ⟨by rw [HE.out]; rfl, rfl⟩
    · obtain ⟨n, rfl⟩ : ∃ n : Nat, x = n := ⟨x.toNat, by omega⟩
      obtain ⟨l, o, hg⟩ : ∃ l o, R.walks[n]? = some (l, o) := ⟨_, _, List.getElem?_eq_getElem (by omega)⟩
      obtain ⟨g, rfl, _, hcell, _⟩ := HC.out n _ hg
      have c1 : w.cell? ⟨g, n * 2 + 1, none⟩ = some (.bool o) := hcell 1 _ (by decide) rfl
      have hlt : (n : Int) < R.walks.length := by omega
      have HE : Hid ((R.on (n : Int)).isSome = !o) := by
        show _ = _
        unfold Rt.on; rw [if_pos (by omega), Int.toNat_natCast, hg]
        cases o <;> rfl
      clear hg hcell HC
      go_enter Try.func72, Try.ntmps72
      go_wp2_with (go_at_call 62; refine C62.out.mono ?_; rintro e w' ⟨rfl, rfl⟩)
      go_ret
      exact ⟨by rw [HE.out]; rfl, rfl⟩
end
end Go.Proofs.Ytagejkolgicecaa
