/- Contracts of the reference's Check, Has and turned. -/
import Derived.Test.YtmbnckmhngijdaaGreatDoorRE
namespace Go.Proofs.YtmbnckmhngijdaaGreatDoor
open Go Go.RowKit

theorem rcells_get (ds : List Dir) : ∀ (j : Nat) (d : Dir) (k : Nat), ds[j]? = some d → k < 3 → (rcells ds)[j * 3 + k]? = d.rs.toList[k]? := by
  induction ds with
  | nil => intro j d k h; simp at h
  | cons x ds ih =>
    intro j d k h hk
    have hx : x.rs.toList.length = 3 := rfl
    cases j with
    | zero =>
      simp at h; subst h
      simp only [rcells, List.flatMap_cons]
      rw [List.getElem?_append_left (by omega)]; simp
    | succ j =>
      simp only [rcells, List.flatMap_cons]
      rw [List.getElem?_append_right (by omega), hx, show (j + 1) * 3 + k - 3 = j * 3 + k by omega]
      exact ih j d k (by simpa using h) hk
theorem Dr.cell {w : World} {B : Nat} {v : Value} {ds : List Dir} (h : Dr w B v ds) {j : Nat} {d : Dir} (hd : ds[j]? = some d) : ∃ g cap, v = .slice (some ⟨g, 0, none⟩) ds.length cap ∧ g < w.heap.size ∧ w.cell? ⟨g, j * 3, none⟩ = some (.int .u8 d.c.toNat) ∧ w.cell? ⟨g, j * 3 + 1, none⟩ = some (.bool d.gt) ∧ w.cell? ⟨g, j * 3 + 2, none⟩ = some (.int .i64 d.k) := by
  have hj := (List.getElem?_eq_some_iff.1 hd).1
  rcases h.2 with ⟨_, h0⟩ | ⟨g, cap, cur, rfl, h1, h2, h3, h4, h5, h6⟩
  · omega
  · have hc : ∀ k u, k < 3 → d.rs.toList[k]? = some u → w.cell? ⟨g, j * 3 + k, none⟩ = some u := fun k u hk hu => by
      have e := rcells_get ds j d k hd hk
      rw [hu, ← h6, List.getElem?_take] at e
      split at e
      · have hb : Blk w g 60 cur.toList := by simpa [Blk] using h2
        exact hb.cell _ e
      · cases e
    exact ⟨g, cap, rfl, lt_of_block h2, hc 0 _ (by omega) rfl, hc 1 _ (by omega) rfl, hc 2 _ (by omega) rfl⟩

set_option maxHeartbeats 1000000 in
theorem t30 (s : ByteArray) (w : World) (hs : s.size ≤ 100000) : Calls Tryz.prog 30 #[.string s] w fun e w' => e = .returned (.int .i64 (chkE s.data.toList)) ∧ Below w.heap.size w w' := by
  have C := t32 s w hs
  cases hf : formL s.data.toList with
  | none =>
    have HE : Hid (chkE s.data.toList = 4) := by show _ = _; unfold chkE; rw [hf]
    unfold RfdR at C
    rw [hf] at C
    clear hf
    go_enter Tryz.func30, Tryz.ntmps30
    go_wp2_with fail
    refine C.mono ?_
    rintro e w1 ⟨hb, v, rfl⟩
    have HB := Lib.hid hb
    clear hb
    go_wp2
    go_ret
    exact ⟨by rw [HE.out]; rfl, HB.out⟩
  | some ds =>
    have HE : Hid (chkE s.data.toList = 0) := by show _ = _; unfold chkE; rw [hf]
    unfold RfdR at C
    rw [hf] at C
    clear hf
    go_enter Tryz.func30, Tryz.ntmps30
    go_wp2_with fail
    refine C.mono ?_
    rintro e w1 ⟨hb, v, rfl, hr⟩
    have HB := Lib.hid hb
    clear hb hr
    go_wp2
    go_ret
    exact ⟨by rw [HE.out]; rfl, HB.out⟩
def hasU (n : Int) : Bool := decide (0 ≤ n ∧ n ≤ 1114111 ∧ ¬ (55296 ≤ n ∧ n ≤ 57343))
set_option maxHeartbeats 1000000 in
theorem t59 (n : Int) (w : World) : Calls Tryz.prog 59 #[.int .i64 n, .int .i64 2] w fun e w' => e = .returned (.bool (hasU n)) ∧ w = w' := by
  by_cases h0 : 0 ≤ n
  · by_cases h1 : n ≤ 1114111
    · by_cases h2 : n < 55296
      · have HE : Hid (hasU n = true) := decide_eq_true (by omega)
        go_enter Tryz.func59, Tryz.ntmps59
        go_wp2
        go_ret
        exact ⟨by rw [HE.out]; rfl, rfl⟩
      · have h2' : decide (n < 55296) = false := decide_eq_false h2
        by_cases h3 : 57343 < n
        · have HE : Hid (hasU n = true) := decide_eq_true (by omega)
          clear h2
          go_enter Tryz.func59, Tryz.ntmps59
          go_wp2
          go_ret
          exact ⟨by rw [HE.out]; rfl, rfl⟩
        · have h3' : decide (57343 < n) = false := decide_eq_false h3
          have HE : Hid (hasU n = false) := decide_eq_false (by omega)
          clear h2 h3
          go_enter Tryz.func59, Tryz.ntmps59
          go_wp2
          go_ret
          exact ⟨by rw [HE.out]; rfl, rfl⟩
    · have h1' : decide (n ≤ 1114111) = false := decide_eq_false h1
      have HE : Hid (hasU n = false) := decide_eq_false (by omega)
      clear h1
      go_enter Tryz.func59, Tryz.ntmps59
      go_wp2
      go_ret
      exact ⟨by rw [HE.out]; rfl, rfl⟩
  · have h0' : decide (0 ≤ n) = false := decide_eq_false h0
    have HE : Hid (hasU n = false) := decide_eq_false (by omega)
    clear h0
    go_enter Tryz.func59, Tryz.ntmps59
    go_wp2
    go_ret
    exact ⟨by rw [HE.out]; rfl, rfl⟩
end Go.Proofs.YtmbnckmhngijdaaGreatDoor
