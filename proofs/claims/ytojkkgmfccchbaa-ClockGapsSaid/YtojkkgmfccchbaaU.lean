/- The law ClockGaps: what it rests on. -/
import Derived.Test.YtojkkgmfccchbaaS
namespace Go.Proofs.Ytojkkgmfccchbaa
open Go Go.RowKit Go.Sort

/-- the offset ahead of a change -/
def oldK : Int → List Ch → Nat → Int
  | o, _, 0 => o
  | o, [], _ + 1 => o
  | _, c :: r, k + 1 => oldK c.2 r k
theorem oldK_zero (o : Int) (l : List Ch) : oldK o l 0 = o := by cases l <;> simp [oldK]
theorem oldK_succ : ∀ (j : Nat) (o : Int) (l : List Ch) (c : Ch), l[j]? = some c → oldK o l (j + 1) = c.2 := by
  intro j
  induction j with
  | zero =>
    intro o l c h
    cases l with
    | nil => cases h
    | cons d r =>
      have : d = c := by simpa using h
      subst this
      show oldK d.2 r 0 = d.2
      exact oldK_zero _ _
  | succ j ih =>
    intro o l c h
    cases l with
    | nil => cases h
    | cons d r =>
      show oldK d.2 r (j + 1) = c.2
      exact ih d.2 r c (by simpa using h)
theorem per_skip : ∀ (l : List Ch) (f b o s : Int) (k : Nat) (c : Ch), l[k]? = some c → c.1 + oldK o l k ≤ s → s < c.1 + c.2 → ∃ p ∈ per f b o l, p.skips s = true := by
  intro l
  induction l with
  | nil => intro f b o s k c h; cases h
  | cons d r ih =>
    obtain ⟨a, o'⟩ := d
    intro f b o s k c h h1 h2
    cases k with
    | zero =>
      have hc : (a, o') = c := by simpa using h
      subst hc
      have h1' : a + o ≤ s := h1
      have h2' : s < a + o' := h2
      have hsk : ∀ z, (⟨a, z, o, o'⟩ : Per).skips s = true := by
        intro z
        show (decide (a + o ≤ s) && decide (s < a + o')) = true
        rw [decide_eq_true h1', decide_eq_true h2']; rfl
      cases r with
      | nil => exact ⟨⟨a, 100000000000, o, o'⟩, by simp [per], hsk _⟩
      | cons e r =>
        obtain ⟨a2, o2⟩ := e
        exact ⟨⟨a, a2 - 1, o, o'⟩, by simp [per], hsk _⟩
    | succ k =>
      obtain ⟨p, hp, hq⟩ := ih a o o' s k c (by simpa using h) h1 h2
      exact ⟨p, List.mem_cons_of_mem _ hp, hq⟩
theorem oldK_bd : ∀ (k : Nat) (l : List Ch) (o f : Int), ordB f l = true → (-86400 ≤ o ∧ o ≤ 86400) → -86400 ≤ oldK o l k ∧ oldK o l k ≤ 86400 := by
  intro k
  induction k with
  | zero => intro l o f _ h; rw [oldK_zero]; exact h
  | succ k ih =>
    intro l o f hl h
    cases l with
    | nil => exact h
    | cons d r =>
      obtain ⟨a, o'⟩ := d
      obtain ⟨_, g2, g3⟩ := ordB_cons.1 hl
      exact ih r o' _ g3 g2
theorem ord_off : ∀ (l : List Ch) (f : Int) (k : Nat) (c : Ch), ordB f l = true → l[k]? = some c → -86400 ≤ c.2 ∧ c.2 ≤ 86400 := by
  intro l
  induction l with
  | nil => intro f k c _ h; cases h
  | cons d r ih =>
    obtain ⟨a, o'⟩ := d
    intro f k c hl h
    obtain ⟨_, g2, g3⟩ := ordB_cons.1 hl
    cases k with
    | zero =>
      have hc : (a, o') = c := by simpa using h
      subst hc; exact g2
    | succ k => exact ih _ k c g3 (by simpa using h)
theorem mom_at {q : Int} (h : isMo q = true) : momN (at_ q) = (q, 0) := by
  unfold momN
  rw [if_pos (mo_ok h), at_sec, if_pos h]
/-- what holds of a date within a change that goes ahead -/
theorem gap_law {off : Int} {l : List Ch} (hg : GoodZ off l) {k : Nat} {c : Ch} (hc : l[k]? = some c) {b : Int} (hb : 0 ≤ b) (hb2 : b < c.2 - oldK off l k) :
    ofN (c.1 + oldK off l k + b) = (at_ (c.1 + oldK off l k + b), 0) ∧ (at_ (c.1 + oldK off l k + b)).ok = true ∧
    ((∃ a r, moms (at_ (c.1 + oldK off l k + b)).sec (pers off l) = a :: r ∧ resN off l (at_ (c.1 + oldK off l k + b)) = (a, 0)) ∨
     (∃ m E x, moms (at_ (c.1 + oldK off l k + b)).sec (pers off l) = [] ∧ resN off l (at_ (c.1 + oldK off l k + b)) = (m, 0) ∧ locN off l m = (E, 0) ∧ momN E = (x, 0) ∧
       momN (at_ (c.1 + oldK off l k + b)) = (c.1 + oldK off l k + b, 0) ∧ x ≠ c.1 + oldK off l k + b)) := by
  have ho := good_ord hg
  have hob := oldK_bd k l off _ ho (zOk_parts hg.1).1
  have hcb := ord_off l _ k c ho hc
  have hca := hg.2 c (List.mem_of_getElem? hc)
  obtain ⟨p, hp, hq⟩ := per_skip l (-100000000000) off off (c.1 + oldK off l k + b) k c hc (by omega) (by omega)
  generalize hs : c.1 + oldK off l k + b = s at *
  have hm : isMo s = true := inB_t (by omega) (by omega)
  have hD := mo_ok hm
  refine ⟨by unfold ofN; rw [if_pos hm], hD, ?_⟩
  rw [at_sec]
  cases hM : moms s (pers off l) with
  | cons a r => exact .inl ⟨a, r, rfl, res_head hg.1 hD (by rw [at_sec]; exact hM)⟩
  | nil =>
    right
    have hno : (pers off l).find? (fun p => p.shows (at_ s).sec) = none := by
      rw [at_sec]
      refine List.find?_eq_none.2 fun q h1 h2 => ?_
      have : s - q.off ∈ moms s (pers off l) := by
        unfold moms
        exact List.mem_map.2 ⟨q, List.mem_filter.2 ⟨h1, h2⟩, rfl⟩
      rw [hM] at this; cases this
    have hsome : ((pers off l).find? (fun p => p.skips (at_ s).sec)).isSome = true := by
      rw [at_sec]
      exact List.find?_isSome.2 ⟨p, hp, hq⟩
    obtain ⟨q, hq2⟩ := Option.isSome_iff_exists.1 hsome
    have hr := res_gap hg.1 hD hno hq2
    have hqb := pers_ok hg.1 q (List.mem_of_find?_eq_some hq2)
    have hbf : -86400 ≤ q.before ∧ q.before ≤ 86400 := by
      unfold POk at hqb
      omega
    rw [at_sec] at hr
    have hmm : isMo (s - q.before) = true := inB_t (by omega) (by omega)
    rw [if_pos hmm] at hr
    have hlb := offAt_bd l _ off (s - q.before) ho (by omega) (zOk_parts hg.1).1
    have hxx : isMo (s - q.before + offAt off l (s - q.before)) = true := inB_t (by omega) (by omega)
    refine ⟨s - q.before, _, _, rfl, hr, locN_in hg.1 hmm, mom_at hxx, mom_at hm, ?_⟩
    intro hx
    have : s - q.before ∈ moms s (pers off l) := (moms_mem ho).2 ⟨hmm, hx⟩
    rw [hM] at this; cases this
end Go.Proofs.Ytojkkgmfccchbaa
