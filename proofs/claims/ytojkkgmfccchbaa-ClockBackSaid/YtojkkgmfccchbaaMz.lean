/- Zones, plainly: periods, offsets, moments, gaps. -/
import Derived.Test.YtojkkgmfccchbaaMd
namespace Go.Proofs.Ytojkkgmfccchbaa
abbrev Ch := Int × Int
structure Per where
  first : Int
  last : Int
  before : Int
  off : Int
def isOf (n : Int) : Bool := inB n (-86400) 86400
/-- changes in order, the first one at least so late -/
def ordB : Int → List Ch → Bool
  | _, [] => true
  | least, (a, o) :: r => (inB a least 100000000000 && isOf o) && ordB (a + 1) r
def zOk (off : Int) (l : List Ch) : Bool := (isOf off && decide (l.length ≤ 40)) && ordB (-100000000000) l
/-- the periods from a first moment on -/
def per : Int → Int → Int → List Ch → List Per
  | first, before, off, [] => [⟨first, 100000000000, before, off⟩]
  | first, before, off, (a, o) :: r => ⟨first, a - 1, before, off⟩ :: per a off o r
def pers (off : Int) (l : List Ch) : List Per := per (-100000000000) off off l
def Per.has (p : Per) (m : Int) : Bool := inB m p.first p.last
def Per.shows (p : Per) (s : Int) : Bool := p.has (s - p.off)
def Per.skips (p : Per) (s : Int) : Bool := decide (p.first + p.before ≤ s) && decide (s < p.first + p.off)
/-- the offset at a moment -/
def offAt : Int → List Ch → Int → Int
  | off, [], _ => off
  | off, (a, o) :: r, m => if a ≤ m then offAt o r m else off
theorem per_length (l : List Ch) : ∀ f b o, (per f b o l).length = l.length + 1 := by
  induction l with
  | nil => intros; rfl
  | cons c l ih => intro f b o; obtain ⟨a, o'⟩ := c; simp [per, ih]
theorem ordB_cons {least a o : Int} {r : List Ch} : ordB least ((a, o) :: r) = true ↔ (least ≤ a ∧ a ≤ 100000000000) ∧ (-86400 ≤ o ∧ o ≤ 86400) ∧ ordB (a + 1) r = true := by
  show ((inB a least 100000000000 && inB o (-86400) 86400) && ordB (a + 1) r) = true ↔ _
  rw [Bool.and_eq_true, Bool.and_eq_true, inB_iff, inB_iff]
  exact ⟨fun h => ⟨h.1.1, h.1.2, h.2⟩, fun h => ⟨⟨h.1, h.2.1⟩, h.2.2⟩⟩
/-- the period of a moment tells its offset -/
theorem find_has (l : List Ch) : ∀ f b o m, ordB f l = true → f ≤ m → m ≤ 100000000000 → ∃ p, (per f b o l).find? (·.has m) = some p ∧ p.off = offAt o l m := by
  induction l with
  | nil =>
    intro f b o m _ h1 h2
    exact ⟨_, by simp [per, Per.has, inB_t h1 h2]; rfl, rfl⟩
  | cons c l ih =>
    obtain ⟨a, o'⟩ := c
    intro f b o m ho h1 h2
    obtain ⟨g1, g2, g3⟩ := ordB_cons.1 ho
    by_cases h : a ≤ m
    · have e1 : (⟨f, a - 1, b, o⟩ : Per).has m = false := inB_f (by simp only; omega)
      have h4 : ordB a l = true := by
        cases l with
        | nil => rfl
        | cons c r =>
          obtain ⟨a2, o2⟩ := c
          obtain ⟨k1, k2, k3⟩ := ordB_cons.1 g3
          exact ordB_cons.2 ⟨⟨by omega, k1.2⟩, k2, k3⟩
      obtain ⟨p, hp, hq⟩ := ih a o o' m h4 h h2
      refine ⟨p, ?_, ?_⟩
      · unfold per
        rw [List.find?_cons_of_neg (by rw [e1]; decide)]
        exact hp
      · unfold offAt
        rw [if_pos h]; exact hq
    · have e1 : (⟨f, a - 1, b, o⟩ : Per).has m = true := inB_t h1 (by simp only; omega)
      refine ⟨⟨f, a - 1, b, o⟩, ?_, ?_⟩
      · unfold per
        rw [List.find?_cons_of_pos (by rw [e1])]
      · unfold offAt
        rw [if_neg h]
theorem per_all (l : List Ch) : ∀ f b o, ordB f l = true → ∀ p ∈ per f b o l, f ≤ p.first ∧ p.last ≤ 100000000000 := by
  induction l with
  | nil =>
    intro f b o _ p hp
    have : p = ⟨f, 100000000000, b, o⟩ := by simpa [per] using hp
    subst this
    exact ⟨Int.le_refl _, Int.le_refl _⟩
  | cons c l ih =>
    obtain ⟨a, o'⟩ := c
    intro f b o ho p hp
    obtain ⟨g1, g2, g3⟩ := ordB_cons.1 ho
    unfold per at hp
    rcases List.mem_cons.1 hp with rfl | hp
    · exact ⟨Int.le_refl _, by simp only; omega⟩
    · have h4 : ordB a l = true := by
        cases l with
        | nil => rfl
        | cons c r =>
          obtain ⟨a2, o2⟩ := c
          obtain ⟨k1, k2, k3⟩ := ordB_cons.1 g3
          exact ordB_cons.2 ⟨⟨by omega, k1.2⟩, k2, k3⟩
      have := ih a o o' h4 p hp
      omega
theorem find_none (l : List Ch) (f b o m : Int) (ho : ordB f l = true) (h : m < f ∨ 100000000000 < m) : (per f b o l).find? (·.has m) = none := by
  rw [List.find?_eq_none]
  intro p hp
  obtain ⟨h1, h2⟩ := per_all l f b o ho p hp
  unfold Per.has
  rw [inB_f (by omega)]
  decide
/-- the moments of a local date, by the periods -/
def moms (s : Int) (ps : List Per) : List Int := (ps.filter (·.shows s)).map fun p => s - p.off
/-- into an ascending list, once -/
def ins : List Int → Int → List Int
  | [], n => [n]
  | a :: r, n => if a = n then a :: r else if n < a then n :: a :: r else a :: ins r n
def asc (l : List Int) : Prop := l.Pairwise (· < ·)
theorem ins_mem {l : List Int} {n x : Int} : x ∈ ins l n ↔ x = n ∨ x ∈ l := by
  induction l with
  | nil => simp [ins]
  | cons a r ih =>
    unfold ins
    split
    · rename_i h; subst h; simp
    · split
      · simp
      · simp [ih]; constructor <;> (intro h; rcases h with h | h | h <;> simp [h])
theorem ins_asc {l : List Int} {n : Int} (h : asc l) : asc (ins l n) := by
  induction l with
  | nil => simp [ins, asc]
  | cons a r ih =>
    have h2 := List.pairwise_cons.1 h
    unfold ins
    split
    · exact h
    · rename_i h3
      split
      · rename_i h4
        exact List.pairwise_cons.2 ⟨fun x hx => by rcases List.mem_cons.1 hx with rfl | hx; exact h4; have := h2.1 x hx; omega, h⟩
      · rename_i h4
        refine List.pairwise_cons.2 ⟨fun x hx => ?_, ih h2.2⟩
        rcases ins_mem.1 hx with rfl | hx
        · omega
        · exact h2.1 x hx
theorem asc_ext : ∀ {l k : List Int}, asc l → asc k → (∀ x, x ∈ l ↔ x ∈ k) → l = k := by
  intro l
  induction l with
  | nil =>
    intro k _ _ h
    cases k with
    | nil => rfl
    | cons b k => exact absurd ((h b).2 (List.mem_cons_self ..)) (by simp)
  | cons a l ih =>
    intro k hl hk h
    cases k with
    | nil => exact absurd ((h a).1 (List.mem_cons_self ..)) (by simp)
    | cons b k =>
      have h1 := List.pairwise_cons.1 hl
      have h2 := List.pairwise_cons.1 hk
      have hab : a = b := by
        rcases List.mem_cons.1 ((h a).1 (List.mem_cons_self ..)) with e | e
        · exact e
        · rcases List.mem_cons.1 ((h b).2 (List.mem_cons_self ..)) with e2 | e2
          · exact e2.symm
          · have := h1.1 b e2; have := h2.1 a e; omega
      subst hab
      congr 1
      refine ih h1.2 h2.2 fun x => ?_
      constructor
      · intro hx
        rcases List.mem_cons.1 ((h x).1 (List.mem_cons_of_mem _ hx)) with e | e
        · subst e; have := h1.1 x hx; omega
        · exact e
      · intro hx
        rcases List.mem_cons.1 ((h x).2 (List.mem_cons_of_mem _ hx)) with e | e
        · subst e; have := h2.1 x hx; omega
        · exact e
/-- what the reference tries: each offset -/
def cand (s off : Int) (l : List Ch) (n : Int) (out : List Int) : List Int := if isMo (s - n) = true ∧ offAt off l (s - n) = n then ins out (s - n) else out
def offs (off : Int) (l : List Ch) : List Int := off :: l.map (·.2)
def rmoms (s off : Int) (l : List Ch) (ns : List Int) : List Int := ns.foldl (fun out n => cand s off l n out) []
theorem fold_spec (s off : Int) (l : List Ch) (ns : List Int) : ∀ out, asc out → asc (ns.foldl (fun out n => cand s off l n out) out) ∧
    ∀ x, x ∈ ns.foldl (fun out n => cand s off l n out) out ↔ x ∈ out ∨ ∃ n ∈ ns, x = s - n ∧ isMo (s - n) = true ∧ offAt off l (s - n) = n := by
  induction ns with
  | nil => intro out h; exact ⟨h, fun x => by simp⟩
  | cons n ns ih =>
    intro out h
    have hc : asc (cand s off l n out) := by unfold cand; split; exact ins_asc h; exact h
    obtain ⟨h1, h2⟩ := ih (cand s off l n out) hc
    refine ⟨h1, fun x => ?_⟩
    rw [List.foldl_cons, h2]
    unfold cand
    split
    · rename_i hp
      rw [ins_mem]
      constructor
      · rintro ((h3 | h3) | ⟨k, hk, h3⟩)
        · exact .inr ⟨n, List.mem_cons_self .., h3, hp⟩
        · exact .inl h3
        · exact .inr ⟨k, List.mem_cons_of_mem _ hk, h3⟩
      · rintro (h3 | ⟨k, hk, h3⟩)
        · exact .inl (.inr h3)
        · rcases List.mem_cons.1 hk with rfl | hk
          · exact .inl (.inl h3.1)
          · exact .inr ⟨k, hk, h3⟩
    · rename_i hp
      constructor
      · rintro (h3 | ⟨k, hk, h3⟩)
        · exact .inl h3
        · exact .inr ⟨k, List.mem_cons_of_mem _ hk, h3⟩
      · rintro (h3 | ⟨k, hk, h3⟩)
        · exact .inl h3
        · rcases List.mem_cons.1 hk with rfl | hk
          · exact absurd h3.2 hp
          · exact .inr ⟨k, hk, h3⟩
theorem ordB_weak {a : Int} {l : List Ch} (h : ordB (a + 1) l = true) : ordB a l = true := by
  cases l with
  | nil => rfl
  | cons c r =>
    obtain ⟨a2, o2⟩ := c
    obtain ⟨k1, k2, k3⟩ := ordB_cons.1 h
    exact ordB_cons.2 ⟨⟨by omega, k1.2⟩, k2, k3⟩
/-- a period that has a moment tells its offset -/
theorem has_off (l : List Ch) : ∀ f b o, ordB f l = true → ∀ p ∈ per f b o l, ∀ m, p.has m = true → p.off = offAt o l m ∧ f ≤ m ∧ m ≤ 100000000000 := by
  induction l with
  | nil =>
    intro f b o _ p hp m hm
    have : p = ⟨f, 100000000000, b, o⟩ := by simpa [per] using hp
    subst this
    have := inB_iff.1 hm
    exact ⟨rfl, this.1, this.2⟩
  | cons c l ih =>
    obtain ⟨a, o'⟩ := c
    intro f b o ho p hp m hm
    obtain ⟨g1, g2, g3⟩ := ordB_cons.1 ho
    unfold per at hp
    rcases List.mem_cons.1 hp with rfl | hp
    · have := inB_iff.1 hm
      simp only at this
      refine ⟨?_, this.1, by omega⟩
      unfold offAt; rw [if_neg (by omega)]
    · obtain ⟨k1, k2, k3⟩ := ih a o o' (ordB_weak g3) p hp m hm
      refine ⟨?_, by omega, k3⟩
      unfold offAt; rw [if_pos k2]; exact k1
theorem per_offs (l : List Ch) : ∀ f b o, (per f b o l).map (·.off) = offs o l := by
  induction l with
  | nil => intros; rfl
  | cons c l ih => obtain ⟨a, o'⟩ := c; intro f b o; unfold per; rw [List.map_cons, ih]; rfl
theorem moms_asc (s : Int) (l : List Ch) : ∀ f b o, ordB f l = true → asc (moms s (per f b o l)) ∧ ∀ x ∈ moms s (per f b o l), f ≤ x := by
  have mem : ∀ l f b o, ordB f l = true → ∀ x ∈ moms s (per f b o l), f ≤ x := by
    intro l f b o h x hx
    unfold moms at hx
    obtain ⟨p, hp, rfl⟩ := List.mem_map.1 hx
    obtain ⟨h1, h2⟩ := List.mem_filter.1 hp
    exact (has_off l f b o h p h1 _ h2).2.1
  intro f b o h
  refine ⟨?_, mem l f b o h⟩
  revert f b o
  induction l with
  | nil =>
    intro f b o _
    unfold moms per
    rw [List.filter_cons]
    split <;> simp [asc]
  | cons c l ih =>
    obtain ⟨a, o'⟩ := c
    intro f b o ho
    obtain ⟨g1, g2, g3⟩ := ordB_cons.1 ho
    have h1 := ih a o o' (ordB_weak g3)
    have h2 := mem l a o o' (ordB_weak g3)
    unfold moms per
    rw [List.filter_cons]
    split
    · rename_i hs
      rw [List.map_cons]
      refine List.pairwise_cons.2 ⟨fun x hx => ?_, h1⟩
      have h3 := h2 x hx
      have h4 := inB_iff.1 hs
      simp only at h4 ⊢
      omega
    · exact h1
/-- THE MOMENTS: program and reference -/
theorem moms_eq {s off : Int} {l : List Ch} (h : ordB (-100000000000) l = true) : moms s (pers off l) = rmoms s off l (offs off l) := by
  obtain ⟨h1, h2⟩ := fold_spec s off l (offs off l) [] List.Pairwise.nil
  refine asc_ext (moms_asc s l _ _ _ h).1 h1 fun x => ?_
  show _ ↔ x ∈ (offs off l).foldl _ []
  rw [h2]
  constructor
  · intro hx
    right
    unfold moms at hx
    obtain ⟨p, hp, rfl⟩ := List.mem_map.1 hx
    obtain ⟨k1, k2⟩ := List.mem_filter.1 hp
    obtain ⟨k3, k4, k5⟩ := has_off l _ _ _ h p k1 _ k2
    refine ⟨p.off, ?_, rfl, inB_t k4 k5, k3.symm⟩
    rw [← per_offs l (-100000000000) off off]
    exact List.mem_map_of_mem k1
  · rintro (hx | ⟨n, hn, rfl, hm, ho⟩)
    · cases hx
    · have hi := inB_iff.1 hm
      obtain ⟨p, hp, hq⟩ := find_has l (-100000000000) off off (s - n) h hi.1 hi.2
      have h3 := List.mem_of_find?_eq_some hp
      have h4 := List.find?_some hp
      have h5 : p.off = n := hq.trans ho
      unfold moms
      refine List.mem_map.2 ⟨p, List.mem_filter.2 ⟨h3, ?_⟩, by rw [h5]⟩
      unfold Per.shows; rw [h5]; exact h4
end Go.Proofs.Ytojkkgmfccchbaa
