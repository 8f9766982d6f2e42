/- Rekey tells alike. -/
import Derived.Test.YtagejkolgicecaaPA
namespace Go.Proofs.Ytagejkolgicecaa
open Go Go.RowKit Go.Maps
/-- the document's Rekey -/
abbrev RRow := Int × Int × Nat
def Rt.rk1 (R : Rt) (ps : List (Int × Int)) : List RRow := R.rows.map (fun x => (((chN ps).2 x.1).getD x.1, x.2.1, x.2.2))
def outS (o : List RRow) (x : RRow) : List RRow := if o.any (fun y => decide (y.1 = x.1)) then o.map (fun y => if y.1 = x.1 then (y.1, x.2.1, y.2.2) else y) else o ++ [x]
def outN (l : List RRow) : List RRow := l.foldl outS []
def Rt.lack (R : Rt) (k : Int) : Bool := R.rows.all (fun x => x.1 != k)
def Rt.rekE (R : Rt) (ps : List (Int × Int)) : Int :=
  if R.fz then 13 else if (R.st && R.walking) && (R.rk1 ps).any (fun x => R.lack x.1) then 8 else if ps.any (fun p => R.lack p.1) then 3 else 0
def Dis (ps : List (Int × Int)) : Prop := ps.Pairwise (fun x y => x.1 ≠ y.1)
def Rt.RekR (R : Rt) (ps : List (Int × Int)) (e : Int) (R' : Rt) : Prop :=
  (¬ Dis ps ∧ e = 1 ∧ R' = R) ∨ (Dis ps ∧ e = R.rekE ps ∧ R' = if R.rekE ps = 0 then { R with rows := outN (R.rk1 ps) } else R)
theorem chN_len (ps : List (Int × Int)) : ∀ s : Nat × (Int → Option Int), (ps.foldl chS s).1 = s.1 + ps.length ↔ (Dis ps ∧ ∀ p ∈ ps, s.2 p.1 = none) := by
  induction ps with
  | nil => intro s; simp [Dis]
  | cons p ps ih =>
    intro s
    rw [List.foldl_cons]
    have hle := chN_le ps (chS s p)
    have h1 := ih (chS s p)
    cases hp : s.2 p.1 with
    | some v =>
      have e1 : (chS s p).1 = s.1 := by unfold chS; rw [hp]; rfl
      rw [e1] at hle
      constructor
      · intro h; rw [List.length_cons] at h; omega
      · rintro ⟨_, h⟩; have := h p (List.mem_cons_self ..); rw [hp] at this; cases this
    | none =>
      have e1 : (chS s p).1 = s.1 + 1 := by unfold chS; rw [hp]; rfl
      have e2 : (chS s p).2 = upd s.2 p.1 (some p.2) := rfl
      rw [e1, e2] at h1
      rw [List.length_cons, show s.1 + (ps.length + 1) = s.1 + 1 + ps.length by omega, h1]
      unfold Dis
      rw [List.pairwise_cons]
      constructor
      · rintro ⟨h2, h3⟩
        refine ⟨⟨fun q hq e => ?_, h2⟩, fun q hq => ?_⟩
        · have := h3 q hq; unfold upd at this; rw [if_pos e.symm] at this; cases this
        · rcases List.mem_cons.1 hq with rfl | hq
          · exact hp
          · have := h3 q hq
            unfold upd at this
            split at this
            · cases this
            · exact this
      · rintro ⟨⟨h2, h3⟩, h4⟩
        refine ⟨h3, fun q hq => ?_⟩
        unfold upd
        rw [if_neg (fun e => h2 q hq e.symm)]
        exact h4 q (List.mem_cons_of_mem _ hq)
theorem chN_dis (ps : List (Int × Int)) : (chN ps).1 = ps.length ↔ Dis ps := by
  have h := chN_len ps (0, fun _ => none)
  rw [Nat.zero_add] at h
  rw [show (chN ps).1 = (ps.foldl chS (0, fun _ => none)).1 from rfl, h]
  exact ⟨fun h => h.1, fun h => ⟨h, fun _ _ => rfl⟩⟩
/-- one step of the renaming, on rows of both -/
def yoS (f : Int → Option Int) (o : List Yo) (y : Yo) : List Yo :=
  if o.any (fun z => decide (z.k = (f y.k).getD y.k)) then o.map (fun z => if z.k = (f y.k).getD y.k then { z with v := y.v } else z) else o ++ [{ y with k := (f y.k).getD y.k }]
theorem outS_r (f : Int → Option Int) (o : List Yo) (y : Yo) : outS (o.map Yo.r) ((f y.k).getD y.k, y.v, y.t) = (yoS f o y).map Yo.r := by
  unfold outS yoS
  rw [List.any_map]
  have e : ((fun (x : RRow) => decide (x.1 = (f y.k).getD y.k)) ∘ Yo.r) = (fun z : Yo => decide (z.k = (f y.k).getD y.k)) := by funext z; rfl
  simp only
  rw [e]
  split
  · rw [List.map_map, List.map_map]
    refine List.map_congr_left (fun z _ => ?_)
    show (if z.k = (f y.k).getD y.k then (z.k, y.v, z.t) else (z.k, z.v, z.t)) = Yo.r (if z.k = (f y.k).getD y.k then { z with v := y.v } else z)
    by_cases e : z.k = (f y.k).getD y.k
    · rw [if_pos e, if_pos e]; rfl
    · rw [if_neg e, if_neg e]; rfl
  · rw [List.map_append]; rfl
theorem outN_r (f : Int → Option Int) : ∀ (Y o : List Yo), (Y.map (fun y => ((f y.k).getD y.k, y.v, y.t))).foldl outS (o.map Yo.r) = (Y.foldl (yoS f) o).map Yo.r
  | [], o => rfl
  | y :: Y, o => by
    rw [List.map_cons, List.foldl_cons, List.foldl_cons, outS_r]
    exact outN_r f Y (yoS f o y)
structure YoI (l : List Yo) (o : List Yo) (s : RkS) : Prop where
  ks : s.1 = o.map Yo.k
  at_ : ∀ z ∈ o, s.2 z.k = some (z.v, z.p)
  no : ∀ k, k ∉ o.map Yo.k → s.2 k = none
  inc : o.Pairwise (fun x y => x.t < y.t)
  src : ∀ z ∈ o, ∃ y ∈ l, y.p = z.p ∧ y.t = z.t
theorem YoI.step {S : Tb} {R : Rt} {Y : List Yo} (h : Al S R Y) (f : Int → Option Int) {l o : List Yo} {s : RkS} (hI : YoI l o s) {y : Yo} (hy : y ∈ Y) (hl : ∀ y0 ∈ l, y0.t < y.t) : YoI (l ++ [y]) (yoS f o y) (rkS S f s y.k) := by
  have hv := h.vl hy
  have hp := h.pl hy
  unfold rkS yoS
  generalize (f y.k).getD y.k = k'
  cases hs : s.2 k' with
  | none =>
    have hn : k' ∉ o.map Yo.k := fun hm => by
      obtain ⟨z, hz, rfl⟩ := List.mem_map.1 hm
      rw [hI.at_ z hz] at hs; cases hs
    have ha : o.any (fun z => decide (z.k = k')) = false := by
      rw [List.any_eq_false]; intro z hz; simp; rintro rfl; exact hn (List.mem_map_of_mem hz)
    rw [ha]
    simp only [Bool.false_eq_true, if_false]
    refine ⟨by simp [hI.ks], fun z hz => ?_, fun k hk => ?_, ?_, fun z hz => ?_⟩
    · rcases List.mem_append.1 hz with hz | hz
      · simp only [upd]; rw [if_neg (fun e => hn (by rw [← e]; exact List.mem_map_of_mem hz))]; exact hI.at_ z hz
      · simp at hz; subst hz; simp [upd, hv, hp]
    · simp only [List.map_append, List.mem_append, not_or] at hk
      simp only [upd]; rw [if_neg (fun e => hk.2 (by rw [e]; simp))]; exact hI.no k hk.1
    · refine List.pairwise_append.2 ⟨hI.inc, by simp, fun a ha b hb => ?_⟩
      simp at hb; subst hb
      obtain ⟨y0, h1, _, h2⟩ := hI.src a ha
      have := hl y0 h1
      simp only; omega
    · rcases List.mem_append.1 hz with hz | hz
      · obtain ⟨y0, h1, h2⟩ := hI.src z hz
        exact ⟨y0, List.mem_append_left _ h1, h2⟩
      · simp at hz; subst hz; exact ⟨y, by simp, rfl, rfl⟩
  | some q =>
    obtain ⟨v2, p2⟩ := q
    have hm : k' ∈ o.map Yo.k := Classical.byContradiction (fun hn => by rw [hI.no k' hn] at hs; cases hs)
    obtain ⟨z0, hz0, e0⟩ := List.mem_map.1 hm
    have ha : o.any (fun z => decide (z.k = k')) = true := by
      rw [List.any_eq_true]; exact ⟨z0, hz0, by simp [e0]⟩
    rw [ha]
    simp only [if_true]
    have hp2 : ∀ z ∈ o, z.k = k' → z.p = p2 := fun z hz e => by
      have := hI.at_ z hz; rw [e, hs] at this; cases this; rfl
    have ek : (o.map (fun z => if z.k = k' then { z with v := y.v } else z)).map Yo.k = o.map Yo.k := by
      rw [List.map_map]; refine List.map_congr_left (fun z _ => ?_); simp only [Function.comp]; split <;> rfl
    refine ⟨by rw [ek]; exact hI.ks, fun z hz => ?_, fun k hk => ?_, ?_, fun z hz => ?_⟩
    · obtain ⟨x, hx, rfl⟩ := List.mem_map.1 hz
      by_cases e : x.k = k'
      · simp only [e, if_true, upd, hv, hp2 x hx e]
      · simp only [e, if_false, upd]; exact hI.at_ x hx
    · rw [ek] at hk
      simp only [upd]; rw [if_neg (fun e => hk (by rw [e]; exact hm))]; exact hI.no k hk
    · rw [List.pairwise_map]
      refine hI.inc.imp (fun {a b} hab => ?_)
      split <;> split <;> exact hab
    · obtain ⟨x, hx, rfl⟩ := List.mem_map.1 hz
      obtain ⟨y0, h1, h2⟩ := hI.src x hx
      refine ⟨y0, List.mem_append_left _ h1, ?_⟩
      split <;> exact h2
theorem yoI_all {S : Tb} {R : Rt} {Y : List Yo} (h : Al S R Y) (f : Int → Option Int) : ∀ (r l o : List Yo) (s : RkS), YoI l o s → (∀ y ∈ r, y ∈ Y) → (l ++ r).Pairwise (fun x y => x.t < y.t) → YoI (l ++ r) (r.foldl (yoS f) o) ((r.map Yo.k).foldl (rkS S f) s)
  | [], l, o, s, hI, _, _ => by simpa using hI
  | y :: r, l, o, s, hI, hm, hp => by
    have h1 := hI.step h f (hm y (List.mem_cons_self ..)) (fun y0 h0 => (List.pairwise_append.1 hp).2.2 y0 h0 y (List.mem_cons_self ..))
    have h2 := yoI_all h f r (l ++ [y]) _ _ h1 (fun z hz => hm z (List.mem_cons_of_mem _ hz)) (by simpa using hp)
    simpa using h2
theorem Al.rek {S : Tb} {R R' : Rt} {Y : List Yo} (h : Al S R Y) (hO : Ok S) {ps : List (Int × Int)} (hk : ∀ p ∈ ps, WF p.1 ∧ WF p.2) {e : Int} (hr : R.RekR ps e R') : e = S.rekE ps ∧ ∃ Y', Al (S.rekS ps) R' Y' := by
  have hI := yoI_all h (chN ps).2 Y [] [] ([], fun _ => none) ⟨rfl, by simp, fun _ _ => rfl, by simp, by simp⟩ (fun y hy => hy) (by simpa using h.inc)
  rw [List.nil_append, ← h.ks] at hI
  have hrk : R.rk1 ps = Y.map (fun y => (((chN ps).2 y.k).getD y.k, y.v, y.t)) := by
    unfold Rt.rk1; rw [h.rows, List.map_map]; rfl
  have hout : outN (R.rk1 ps) = (Y.foldl (yoS (chN ps).2) []).map Yo.r := by
    rw [hrk]; exact outN_r (chN ps).2 Y []
  have hwf := rkN_wf S (chN ps).2 (fun k v h => chN_wf ps (fun p hp => (hk p hp).2) (0, fun _ => none) (fun _ _ h => by cases h) k v h)
  have hany : (S.rk ps).1.any (fun x => !S.has x) = (R.rk1 ps).any (fun x => R.lack x.1) := by
    have h1 : ∀ x ∈ (S.rk ps).1, (!S.has x) = R.lack x := fun x hx => h.lacks hO (hwf S.ks hO.wf ([], fun _ => none) (fun x hx => by cases hx) x hx)
    have hm : ∀ x, x ∈ (S.rk ps).1 ↔ ∃ y ∈ Y, ((chN ps).2 y.k).getD y.k = x := by
      intro x
      have hall : ∀ (r : List Yo) (s : RkS), (∀ k, (s.2 k).isSome = true ↔ k ∈ s.1) → ((∀ k, (((r.map Yo.k).foldl (rkS S (chN ps).2) s).2 k).isSome = true ↔ k ∈ ((r.map Yo.k).foldl (rkS S (chN ps).2) s).1) ∧ (x ∈ ((r.map Yo.k).foldl (rkS S (chN ps).2) s).1 ↔ x ∈ s.1 ∨ ∃ y ∈ r, ((chN ps).2 y.k).getD y.k = x)) := by
        intro r
        induction r with
        | nil => intro s hs; exact ⟨hs, by simp⟩
        | cons y r ih =>
          intro s hs
          rw [List.map_cons, List.foldl_cons]
          have hst : (∀ k, ((rkS S (chN ps).2 s y.k).2 k).isSome = true ↔ k ∈ (rkS S (chN ps).2 s y.k).1) ∧ (x ∈ (rkS S (chN ps).2 s y.k).1 ↔ x ∈ s.1 ∨ ((chN ps).2 y.k).getD y.k = x) := by
            unfold rkS
            generalize ((chN ps).2 y.k).getD y.k = k'
            cases hg : s.2 k' with
            | some q =>
              have hk' : k' ∈ s.1 := (hs k').1 (by rw [hg]; rfl)
              refine ⟨fun k => ?_, ?_⟩
              · simp only [upd]
                by_cases e : k = k'
                · subst e; simp [hk']
                · rw [if_neg e]; exact hs k
              · simp only
                exact ⟨fun h => .inl h, fun h => h.elim id (fun e => e ▸ hk')⟩
            | none =>
              refine ⟨fun k => ?_, ?_⟩
              · simp only [upd]
                by_cases e : k = k'
                · subst e; simp
                · rw [if_neg e, List.mem_append]; simp [hs k, e]
              · simp only [List.mem_append, List.mem_singleton]
                exact ⟨fun h => h.elim .inl (fun e => .inr e.symm), fun h => h.elim .inl (fun e => .inr e.symm)⟩
          obtain ⟨h1, h2⟩ := ih _ hst.1
          refine ⟨h1, h2.trans ?_⟩
          rw [hst.2]
          simp only [List.mem_cons, exists_eq_or_imp]
          exact or_assoc
      have h2 := (hall Y ([], fun _ => none) (by simp)).2
      rw [← h.ks] at h2
      have e : S.rk ps = S.ks.foldl (rkS S (chN ps).2) ([], fun _ => none) := rfl
      rw [e, h2]; simp
    rw [hrk, List.any_map, Bool.eq_iff_iff, List.any_eq_true, List.any_eq_true]
    constructor
    · rintro ⟨x, hx, hx2⟩
      obtain ⟨y, hy, rfl⟩ := (hm x).1 hx
      exact ⟨y, hy, by rw [h1 _ hx] at hx2; exact hx2⟩
    · rintro ⟨y, hy, h2⟩
      have hx := (hm _).2 ⟨y, hy, rfl⟩
      exact ⟨_, hx, by rw [h1 _ hx]; exact h2⟩
  have hmis : ps.any (fun x => !S.has x.1) = ps.any (fun p => R.lack p.1) := by
    rw [Bool.eq_iff_iff, List.any_eq_true, List.any_eq_true]
    constructor
    · rintro ⟨p, hp, h2⟩; exact ⟨p, hp, by rw [h.lacks hO (hk p hp).1] at h2; exact h2⟩
    · rintro ⟨p, hp, h2⟩; exact ⟨p, hp, by rw [h.lacks hO (hk p hp).1]; exact h2⟩
  rcases hr with ⟨h1, rfl, rfl⟩ | ⟨h1, rfl, rfl⟩
  · have hE : S.rekE ps = 1 := by unfold Tb.rekE; rw [if_pos (fun e => h1 ((chN_dis ps).1 e))]
    exact ⟨hE.symm, Y, by unfold Tb.rekS; rw [if_neg (by rw [hE]; decide)]; exact h⟩
  · have hE : S.rekE ps = R.rekE ps := by
      unfold Tb.rekE Rt.rekE
      rw [if_neg (fun e => e ((chN_dis ps).2 h1)), h.fz, h.closed, hany, hmis]
    refine ⟨hE.symm, ?_⟩
    unfold Tb.rekS
    rw [hE]
    split
    · refine ⟨Y.foldl (yoS (chN ps).2) [], ?_⟩
      refine h.turn ?_ (fun y hy => hI.at_ y hy) hout hI.inc (fun y hy => .inl ?_) (Nat.le_refl _) (Nat.le_refl _) h.st h.fz rfl rfl rfl rfl
      · exact hI.ks
      · exact hI.src y hy
    · exact ⟨Y, h⟩
end Go.Proofs.Ytagejkolgicecaa
