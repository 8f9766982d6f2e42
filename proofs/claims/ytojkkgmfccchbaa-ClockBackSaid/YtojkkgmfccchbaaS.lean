/- The law ClockBack: what it rests on. -/
import Derived.Test.YtojkkgmfccchbaaR
namespace Go.Proofs.Ytojkkgmfccchbaa
open Go Go.RowKit Go.Sort

theorem good_ord {off : Int} {l : List Ch} (h : GoodZ off l) : ordB (-100000000000) l = true := (zOk_parts h.1).2.2
theorem offN_in {off : Int} {l : List Ch} {m : Int} (h : zOk off l = true) (hm : isMo m = true) : offN off l m = (offAt off l m, 0) := by unfold offN; rw [if_pos h, if_pos hm]
theorem locN_in {off : Int} {l : List Ch} {m : Int} (h : zOk off l = true) (hm : isMo m = true) : locN off l m = (at_ (m + offAt off l m), 0) := by
  unfold locN; rw [offN_in h hm, if_pos rfl]
theorem moms_mem {s x : Int} {off : Int} {l : List Ch} (h : ordB (-100000000000) l = true) : x ∈ moms s (pers off l) ↔ isMo x = true ∧ x + offAt off l x = s := by
  constructor
  · intro hx
    unfold moms at hx
    obtain ⟨p, hp, rfl⟩ := List.mem_map.1 hx
    obtain ⟨k1, k2⟩ := List.mem_filter.1 hp
    obtain ⟨k3, k4, k5⟩ := has_off l _ _ _ h p k1 _ k2
    exact ⟨inB_t k4 k5, by rw [← k3]; omega⟩
  · rintro ⟨hm, hx⟩
    have hi := inB_iff.1 hm
    obtain ⟨p, hp, hq⟩ := find_has l (-100000000000) off off x h hi.1 hi.2
    have h3 := List.mem_of_find?_eq_some hp
    have h4 := List.find?_some hp
    unfold moms
    refine List.mem_map.2 ⟨p, List.mem_filter.2 ⟨h3, ?_⟩, by rw [hq]; omega⟩
    unfold Per.shows
    rw [show s - p.off = x by rw [hq]; omega]
    exact h4
theorem res_head {off : Int} {l : List Ch} {x : Dt} (h : zOk off l = true) (hx : x.ok = true) {a : Int} {r : List Int} (hM : moms x.sec (pers off l) = a :: r) : resN off l x = (a, 0) := by
  have : ∀ ps : List Per, moms x.sec ps = a :: r → ∃ p, ps.find? (fun p => p.shows x.sec) = some p ∧ x.sec - p.off = a := by
    intro ps
    induction ps with
    | nil => intro h; simp [moms] at h
    | cons p ps ih =>
      intro h
      rw [moms_cons] at h
      by_cases hp : p.shows x.sec = true
      · rw [if_pos hp] at h
        exact ⟨p, by rw [List.find?_cons, hp], (List.cons.inj h).1⟩
      · rw [if_neg hp] at h
        obtain ⟨q, h1, h2⟩ := ih h
        exact ⟨q, by rw [List.find?_cons, eq_false_of_ne_true hp]; exact h1, h2⟩
  obtain ⟨p, hp, hq⟩ := this _ hM
  rw [res_some h hx hp, hq]
theorem IR.read {w : World} {base : Nat} {v : Value} {l : List Int} (h : IR w base v l) : (v = .slice none 0 0 ∧ l = []) ∨ ∃ g cap, v = .slice (some ⟨g, 0, none⟩) l.length cap ∧ l.length ≤ cap ∧ cap ≤ maxLen ∧ g < w.heap.size ∧ (∀ k x, l[k]? = some x → w.cell? ⟨g, k, none⟩ = some (.int .i64 x)) := by
  rcases row_read h with ⟨h1, h2, _⟩ | ⟨g, cap, h1, h2, h3, h4, h5⟩
  · exact .inl ⟨h1, List.length_eq_zero_iff.1 h2⟩
  · exact .inr ⟨g, cap, h1, h2, h3, h4, fun k x hx => h5 k _ (by simp [ci, hx])⟩
theorem tm9 (n : Int) : -9000000 < n.tmod 9000000 ∧ n.tmod 9000000 < 9000000 := ⟨Int.lt_tmod_of_pos n (by decide), Int.tmod_lt_of_pos n (by decide)⟩
/-- what holds of a moment of a zone, its local date and that date's moments -/
theorem back_law {off : Int} {l : List Ch} (hg : GoodZ off l) {m : Int} (h1 : -9000000 < m) (h2 : m < 9000000) :
    ∃ (D : Dt) (a : Int) (r : List Int), locN off l m = (D, 0) ∧ D.ok = true ∧ moms D.sec (pers off l) = a :: r ∧ resN off l D = (a, 0) ∧ m ∈ a :: r ∧ asc (a :: r) ∧ (∀ x ∈ a :: r, locN off l x = (D, 0)) := by
  have ho := good_ord hg
  have hm : isMo m = true := inB_t (by omega) (by omega)
  have hb := offAt_bd l _ off m ho (by omega) (zOk_parts hg.1).1
  have hs : isMo (m + offAt off l m) = true := inB_t (by omega) (by omega)
  have hD := mo_ok hs
  have hmem : m ∈ moms (m + offAt off l m) (pers off l) := (moms_mem ho).2 ⟨hm, rfl⟩
  cases hM : moms (m + offAt off l m) (pers off l) with
  | nil => rw [hM] at hmem; cases hmem
  | cons a r =>
    refine ⟨at_ (m + offAt off l m), a, r, locN_in hg.1 hm, hD, by rw [at_sec]; exact hM, ?_, ?_, ?_, ?_⟩
    · exact res_head hg.1 hD (by rw [at_sec]; exact hM)
    · rw [← hM]; exact hmem
    · rw [← hM]; exact (moms_asc _ l _ _ _ ho).1
    · intro x hx
      rw [← hM] at hx
      obtain ⟨k1, k2⟩ := (moms_mem ho).1 hx
      rw [locN_in hg.1 k1, k2]
end Go.Proofs.Ytojkkgmfccchbaa
