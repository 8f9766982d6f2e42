/- The table and the document's table tell alike: the relation, and how the deeds keep it. -/
import Derived.Test.YtagejkolgicecaaKX
import Derived.Test.YtagejkolgicecaaLO
import Derived.Test.YtagejkolgicecaaKM
import Derived.Test.YtagejkolgicecaaQJ
import Derived.Test.YtagejkolgicecaaQG
import Derived.Test.YtagejkolgicecaaQE
namespace Go.Proofs.Ytagejkolgicecaa
open Go Go.RowKit Go.Maps
/-- a row of both: key, value, place, when -/
structure Yo where
  k : Int
  v : Int
  p : Nat
  t : Nat
def Yo.r (y : Yo) : Int × Int × Nat := (y.k, y.v, y.t)
def Cut (Y : List Yo) (p l : Nat) : Prop := ∀ y ∈ Y, (y.p ≤ p ↔ y.t ≤ l)
structure Al (S : Tb) (R : Rt) (Y : List Yo) : Prop where
  ks : S.ks = Y.map Yo.k
  rw : ∀ y ∈ Y, S.rw y.k = some (y.v, y.p)
  rows : R.rows = Y.map Yo.r
  inc : Y.Pairwise (fun x y => x.t < y.t)
  lo : ∀ y ∈ Y, 1 ≤ y.t ∧ y.t ≤ R.now
  st : R.st = S.st
  fz : R.fz = S.fz
  bg : R.walks.length = S.bg
  op : R.open_ = S.nw
  wn : ∀ x, WF x → S.wk x = none → R.on x = none
  ws : ∀ x p, WF x → S.wk x = some p → ∃ l, R.on x = some l ∧ p ≤ S.pt ∧ l ≤ R.now ∧ Cut Y p l
section
variable {S : Tb} {R R' : Rt} {Y : List Yo}
theorem Al.first : Al Tb.new Rt.new [] :=
  ⟨rfl, by simp, rfl, by simp, by simp, rfl, rfl, rfl, rfl, fun x _ _ => by unfold Rt.on; split <;> simp [Rt.new], fun x p _ h => by cases h⟩
theorem Al.vl (h : Al S R Y) {y : Yo} (hy : y ∈ Y) : S.vl y.k = y.v := by unfold Tb.vl; rw [h.rw y hy]; rfl
theorem Al.pl (h : Al S R Y) {y : Yo} (hy : y ∈ Y) : S.pl y.k = y.p := by unfold Tb.pl; rw [h.rw y hy]; rfl
theorem Al.has (h : Al S R Y) {y : Yo} (hy : y ∈ Y) : S.has y.k = true := by unfold Tb.has; rw [h.rw y hy]; rfl
theorem Al.nd (h : Al S R Y) (hO : Ok S) : (Y.map Yo.k).Nodup := by rw [← h.ks]; exact hO.nd
theorem Al.wf (h : Al S R Y) (hO : Ok S) {y : Yo} (hy : y ∈ Y) : WF y.k := hO.wf _ (by rw [h.ks]; exact List.mem_map_of_mem hy)
theorem Al.keys (h : Al S R Y) : R.rows.map Prod.fst = S.ks := by rw [h.rows, h.ks, List.map_map]; rfl
theorem Al.len (h : Al S R Y) : R.rows.length = S.ks.length := by rw [h.rows, h.ks]; simp
theorem Al.has_eq (h : Al S R Y) (hO : Ok S) {k : Int} (hk : WF k) : S.has k = Y.any (fun y => decide (y.k = k)) := by
  rw [Bool.eq_iff_iff, hO.mem k hk, h.ks, List.any_eq_true, List.mem_map]
  simp
theorem Al.lacks (h : Al S R Y) (hO : Ok S) {k : Int} (hk : WF k) : (!S.has k) = R.rows.all (fun x => x.1 != k) := by
  rw [h.has_eq hO hk, h.rows, List.all_map, List.not_any_eq_all_not]
  congr 1
theorem Al.lack_all (h : Al S R Y) (hO : Ok S) {k : Int} (hk : WF k) (hn : ∀ x ∈ R.rows, x.1 ≠ k) : S.has k = false := by
  have h1 := h.lacks hO hk
  rw [List.all_eq_true.2 (fun x hx => by simpa using hn x hx)] at h1
  simpa using h1
theorem Al.at (h : Al S R Y) {j : Nat} {k v : Int} {t : Nat} (hj : R.rows[j]? = some (k, v, t)) : ∃ p, Y[j]? = some ⟨k, v, p, t⟩ := by
  rw [h.rows, List.getElem?_map] at hj
  cases hy : Y[j]? with
  | none => rw [hy] at hj; cases hj
  | some y =>
    rw [hy] at hj
    obtain ⟨a, b, c, d⟩ := y
    simp [Yo.r] at hj
    obtain ⟨rfl, rfl, rfl⟩ := hj
    exact ⟨c, rfl⟩
theorem Al.prs (h : Al S R Y) : R.prs = S.rows := by
  unfold Rt.prs Tb.rows
  rw [h.rows, h.ks, List.map_map, List.map_map]
  refine List.map_congr_left (fun y hy => ?_)
  simp only [Function.comp, Yo.r, h.vl hy]
theorem Al.walking (h : Al S R Y) : R.walking = decide (0 < S.nw) := by
  rw [← h.op, Bool.eq_iff_iff]
  unfold Rt.walking Rt.open_
  rw [List.any_eq_true, decide_eq_true_eq, List.countP_pos_iff]
theorem Al.closed (h : Al S R Y) : (R.st && R.walking) = S.closed := by unfold Tb.closed; rw [h.walking, h.st]
theorem Al.sorted (h : Al S R Y) (hO : Ok S) : Y.Pairwise (fun x y => x.p < y.p) := by
  have h1 := hO.inc
  rw [h.ks, List.pairwise_map] at h1
  exact h1.imp_of_mem (fun ha hb hab => by rw [h.pl ha, h.pl hb] at hab; exact hab)
theorem cut_pair : ∀ (Y : List Yo), Y.Pairwise (fun x y => x.p < y.p) → Y.Pairwise (fun x y => x.t < y.t) → ∀ y ∈ Y, Cut Y y.p y.t
  | [], _, _, y, hy => by cases hy
  | z :: Y, h1, h2, y, hy => by
    obtain ⟨a1, b1⟩ := List.pairwise_cons.1 h1
    obtain ⟨a2, b2⟩ := List.pairwise_cons.1 h2
    intro x hx
    rcases List.mem_cons.1 hy with e | hy'
    · subst e
      rcases List.mem_cons.1 hx with e | hx'
      · subst e; simp
      · have := a1 x hx'; have := a2 x hx'; omega
    · rcases List.mem_cons.1 hx with e | hx'
      · subst e; have := a1 y hy'; have := a2 y hy'; omega
      · exact cut_pair Y b1 b2 y hy' x hx'
theorem Cut.sub {Y Y' : List Yo} {p l : Nat} (h : Cut Y p l) (hs : ∀ y ∈ Y', ∃ z ∈ Y, z.p = y.p ∧ z.t = y.t) : Cut Y' p l := fun y hy => by
  obtain ⟨z, hz, e1, e2⟩ := hs y hy
  have := h z hz
  rw [← e1, ← e2]; exact this
/-- rows change, walks stay -/
theorem Al.turn (h : Al S R Y) {S' : Tb} {R' : Rt} {Y' : List Yo} (ks : S'.ks = Y'.map Yo.k) (rw : ∀ y ∈ Y', S'.rw y.k = some (y.v, y.p)) (rows : R'.rows = Y'.map Yo.r) (inc : Y'.Pairwise (fun x y => x.t < y.t))
    (sub : ∀ y ∈ Y', (∃ z ∈ Y, z.p = y.p ∧ z.t = y.t) ∨ (S.pt < y.p ∧ R.now < y.t ∧ y.t ≤ R'.now)) (hp : S.pt ≤ S'.pt) (hn : R.now ≤ R'.now) (st : R'.st = S'.st) (fz : R'.fz = S'.fz)
    (e1 : S'.bg = S.bg) (e2 : S'.nw = S.nw) (e3 : S'.wk = S.wk) (e4 : R'.walks = R.walks) : Al S' R' Y' := by
  refine ⟨ks, rw, rows, inc, fun y hy => ?_, st, fz, by rw [e4, e1]; exact h.bg, by unfold Rt.open_; rw [e4, e2]; exact h.op, fun x hx hw => ?_, fun x p hx hw => ?_⟩
  · rcases sub y hy with ⟨z, hz, _, ht⟩ | ⟨_, h2, h3⟩
    · have := h.lo z hz; omega
    · omega
  · rw [e3] at hw; unfold Rt.on; rw [e4]; exact h.wn x hx hw
  · rw [e3] at hw
    obtain ⟨l, h1, h2, h3, h4⟩ := h.ws x p hx hw
    refine ⟨l, by unfold Rt.on; rw [e4]; exact h1, by omega, by omega, fun y hy => ?_⟩
    rcases sub y hy with ⟨z, hz, a, b⟩ | ⟨a, b, _⟩
    · have := h4 z hz; rw [← a, ← b]; exact this
    · omega
theorem set_map : ∀ (Y : List Yo) (j : Nat) (y : Yo) (v : Int), (Y.map Yo.k).Nodup → Y[j]? = some y → Y.map (fun z => if z.k = y.k then { z with v := v } else z) = Y.set j { y with v := v }
  | [], j, y, v, _, h => by simp at h
  | z :: Y, 0, y, v, hn, h => by
    simp at h; subst h
    simp only [List.map_cons, List.nodup_cons] at hn
    rw [List.map_cons, if_pos rfl, List.set_cons_zero]
    congr 1
    conv => rhs; rw [← List.map_id Y]
    refine List.map_congr_left (fun x hx => ?_)
    rw [if_neg (fun e => hn.1 (by rw [← e]; exact List.mem_map_of_mem hx))]; rfl
  | z :: Y, j + 1, y, v, hn, h => by
    simp only [List.map_cons, List.nodup_cons] at hn
    have h' : Y[j]? = some y := by simpa using h
    rw [List.map_cons, List.set_cons_succ, set_map Y j y v hn.2 h', if_neg]
    exact fun e => hn.1 (by rw [e]; exact List.mem_map_of_mem (List.mem_of_getElem? h'))
theorem Al.put_old (h : Al S R Y) (hO : Ok S) {j : Nat} {k v0 : Int} {t : Nat} (v : Int) (hj : R.rows[j]? = some (k, v0, t)) :
    ∃ Y', Al (S.set k v) { R with rows := R.rows.set j (k, v, t) } Y' := by
  obtain ⟨p, hy⟩ := h.at hj
  have hm : (⟨k, v0, p, t⟩ : Yo) ∈ Y := List.mem_of_getElem? hy
  have hh : S.has k = true := h.has hm
  have hpl : S.pl k = p := h.pl hm
  have hs := set_map Y j ⟨k, v0, p, t⟩ v (h.nd hO) hy
  refine ⟨Y.map (fun z => if z.k = k then { z with v := v } else z), ?_⟩
  rw [set_has v hh]
  refine h.turn ?_ (fun y hy' => ?_) ?_ ?_ (fun y hy' => ?_) (Nat.le_refl _) (Nat.le_refl _) h.st h.fz rfl rfl rfl rfl
  · rw [h.ks, List.map_map]
    refine List.map_congr_left (fun x _ => ?_)
    simp only [Function.comp]; split <;> rfl
  · obtain ⟨z, hz, rfl⟩ := List.mem_map.1 hy'
    simp only [upd]
    split
    · rename_i e
      have h9 := h.pl hz
      rw [e, hpl] at h9
      skip
      rw [hpl, h9]
    · exact h.rw z hz
  · rw [hs]; simp [h.rows, List.map_set, Yo.r]
  · rw [List.pairwise_map]
    refine h.inc.imp (fun {a b} hab => ?_)
    split <;> split <;> exact hab
  · obtain ⟨z, hz, rfl⟩ := List.mem_map.1 hy'
    refine .inl ⟨z, hz, ?_⟩
    split <;> exact ⟨rfl, rfl⟩
theorem Al.put_new (h : Al S R Y) (_ : Ok S) {k : Int} (_ : WF k) (v : Int) (hh : S.has k = false) :
    Al (S.set k v) { R with rows := R.rows ++ [(k, v, R.now + 1)], now := R.now + 1 } (Y ++ [⟨k, v, S.pt + 1, R.now + 1⟩]) := by
  have hne : ∀ y ∈ Y, y.k ≠ k := fun y hy e => by have := h.has hy; rw [e, hh] at this; cases this
  rw [set_new v hh]
  refine h.turn (by simp [h.ks]) (fun y hy => ?_) (by simp [h.rows, Yo.r]) ?_ (fun y hy => ?_) (Nat.le_succ _) (Nat.le_succ _) h.st h.fz rfl rfl rfl rfl
  · rcases List.mem_append.1 hy with hy | hy
    · simp only [upd]; rw [if_neg (hne y hy)]; exact h.rw y hy
    · simp at hy; subst hy; simp [upd]
  · refine List.pairwise_append.2 ⟨h.inc, by simp, fun a ha b hb => ?_⟩
    simp at hb; subst hb
    have := (h.lo a ha).2; simp only; omega
  · rcases List.mem_append.1 hy with hy | hy
    · exact .inl ⟨y, hy, rfl, rfl⟩
    · simp at hy; subst hy; exact .inr ⟨Nat.lt_succ_self _, Nat.lt_succ_self _, Nat.le_refl _⟩
theorem allE_put {k v : Int} : S.allE [(k, v)] = if S.fz then 13 else if !S.has k && S.closed then 8 else if (if S.has k then 500 < S.ks.length else 500 ≤ S.ks.length) then 9 else 0 := by
  unfold Tb.allE Tb.cnt
  cases S.fz <;> cases h : S.has k <;> cases S.closed <;> simp [h]
  all_goals (by_cases h2 : 500 ≤ S.ks.length <;> by_cases h3 : 500 < S.ks.length <;> simp [h2] <;> omega)
theorem all_of {rs : List (Int × Int)} {c : Int} (hE : S.allE rs = c) (hc : c ≠ 0) : S.all rs = S := by unfold Tb.all; rw [if_neg (by rw [hE]; exact hc)]
theorem all_ok {rs : List (Int × Int)} (hE : S.allE rs = 0) : S.all rs = S.sets rs := by unfold Tb.all; rw [if_pos hE]
theorem Al.putR (h : Al S R Y) (hO : Ok S) {k v e : Int} (hk : WF k) (hp : R.PutR k v e R') : e = S.allE [(k, v)] ∧ ∃ Y', Al (S.all [(k, v)]) R' Y' := by
  have hl := hO.len
  rcases hp with ⟨h1, rfl, rfl⟩ | ⟨h1, j, v0, t, h2, h3, rfl, rfl⟩ | ⟨h1, h2, h3, rfl, rfl⟩ | ⟨h1, h2, h3, h4, rfl, rfl⟩ | ⟨h1, h2, h3, h4, rfl, rfl⟩
  · have hE : S.allE [(k, v)] = 13 := by rw [allE_put, ← h.fz, h1]; rfl
    exact ⟨hE.symm, Y, by rw [all_of hE (by decide)]; exact h⟩
  · obtain ⟨p, hy⟩ := h.at h2
    have hh : S.has k = true := h.has (y := ⟨k, v0, p, t⟩) (List.mem_of_getElem? hy)
    have hE : S.allE [(k, v)] = 0 := by rw [allE_put, ← h.fz, h1, hh]; simp; omega
    obtain ⟨Y', hY⟩ := h.put_old hO v h2
    exact ⟨hE.symm, Y', by rw [all_ok hE]; exact hY⟩
  · have hh := h.lack_all hO hk h2
    rw [h.closed] at h3
    have hE : S.allE [(k, v)] = 8 := by rw [allE_put, ← h.fz, h1, hh, h3]; rfl
    exact ⟨hE.symm, Y, by rw [all_of hE (by decide)]; exact h⟩
  · have hh := h.lack_all hO hk h2
    rw [h.closed] at h3
    rw [h.len] at h4
    have hE : S.allE [(k, v)] = 9 := by rw [allE_put, ← h.fz, h1, hh, h3]; simp; omega
    exact ⟨hE.symm, Y, by rw [all_of hE (by decide)]; exact h⟩
  · have hh := h.lack_all hO hk h2
    rw [h.closed] at h3
    rw [h.len] at h4
    have hE : S.allE [(k, v)] = 0 := by rw [allE_put, ← h.fz, h1, hh, h3]; simp; omega
    exact ⟨hE.symm, _, by rw [all_ok hE]; exact h.put_new hO hk v hh⟩
theorem sets_same (S : Tb) (ps : List (Int × Int)) : (S.sets ps).fz = S.fz ∧ (S.sets ps).st = S.st ∧ (S.sets ps).nw = S.nw ∧ (S.sets ps).wk = S.wk ∧ (S.sets ps).bg = S.bg := by
  induction ps generalizing S with
  | nil => exact ⟨rfl, rfl, rfl, rfl, rfl⟩
  | cons p ps ih =>
    obtain ⟨h1, h2, h3, h4, h5⟩ := ih (S.set p.1 p.2)
    show (Tb.sets (S.set p.1 p.2) ps).fz = _ ∧ _
    refine ⟨h1.trans ?_, h2.trans ?_, h3.trans ?_, h4.trans ?_, h5.trans ?_⟩ <;> (unfold Tb.set; split <;> rfl)
theorem has_sets (ps : List (Int × Int)) : ∀ (S : Tb) (x : Int), (∀ p ∈ ps, p.1 ≠ x) → (S.sets ps).has x = S.has x := by
  induction ps with
  | nil => intro S x _; rfl
  | cons p ps ih =>
    intro S x h
    show (Tb.sets (S.set p.1 p.2) ps).has x = _
    rw [ih _ x (fun q hq => h q (List.mem_cons_of_mem _ hq)), has_set]
    have := h p (List.mem_cons_self ..)
    rw [decide_eq_false (fun e : x = p.1 => this e.symm), Bool.false_or]
theorem Al.putsR {ps : List (Int × Int)} (hp : PutsR ps R R') : ∀ (S : Tb) (Y : List Yo), Al S R Y → Ok S → (∀ p ∈ ps, WF p.1) → ps.Pairwise (fun x y => x.1 ≠ y.1) → S.fz = false → (0 < S.cnt ps → S.closed = false) → S.ks.length + S.cnt ps ≤ 500 →
    ∃ Y', Al (S.sets ps) R' Y' ∧ Ok (S.sets ps) ∧ (S.sets ps).ks.length = S.ks.length + S.cnt ps := by
  induction hp with
  | nil R => exact fun S Y h hO _ _ _ _ _ => ⟨Y, h, hO, rfl⟩
  | @snoc ps R R1 R2 k v c _ h2 ih =>
    intro S Y h hO hk hd hf hc hl
    have e1 : S.cnt (ps ++ [(k, v)]) = S.cnt ps + (if S.has k then 0 else 1) := by
      unfold Tb.cnt; rw [List.countP_append]; cases hh : S.has k <;> simp [hh]
    have e2 : S.sets (ps ++ [(k, v)]) = (S.sets ps).set k v := by unfold Tb.sets; rw [List.foldl_append]; rfl
    rw [e1] at hc hl ⊢
    obtain ⟨hd1, _, hd2⟩ := List.pairwise_append.1 hd
    obtain ⟨Y1, hA, hO1, hL⟩ := ih S Y h hO (fun p hp => hk p (List.mem_append_left _ hp)) hd1 hf (fun h0 => hc (by omega)) (by omega)
    have hhs : (S.sets ps).has k = S.has k := has_sets ps S k (fun p hp => hd2 p hp (k, v) (by simp))
    obtain ⟨s1, s2, s3, s4, s5⟩ := sets_same S ps
    have hwk : WF k := hk (k, v) (by simp)
    obtain ⟨_, Y2, hA2⟩ := hA.putR hO1 hwk h2
    have hE : (S.sets ps).allE [(k, v)] = 0 := by
      have hcl : (S.sets ps).closed = S.closed := by unfold Tb.closed; rw [s2, s3]
      rw [allE_put, s1, hf, hhs, hcl, hL]
      cases hh : S.has k with
      | true => rw [hh] at hl; simp at hl ⊢; omega
      | false => rw [hh] at hl hc; simp at hl hc ⊢; rw [hc]; simp; omega
    rw [e2]
    rw [all_ok hE] at hA2
    refine ⟨Y2, hA2, hO1.set hwk v (fun hh => ?_), ?_⟩
    · rw [hhs] at hh; rw [hh] at hl; simp at hl; omega
    · rw [len_set, hL, hhs]; omega
theorem Al.merge (h : Al S R Y) (hO : Ok S) {S2 : Tb} {R2 : Rt} {Y2 : List Yo} (h2 : Al S2 R2 Y2) (hO2 : Ok S2) {e : Int} (hp : R.MergeR R2.prs e R') : e = S.allE S2.rows ∧ ∃ Y', Al (S.all S2.rows) R' Y' := by
  obtain ⟨r1, r2, _⟩ := rows_ok hO2
  have hfr : R.fresh R2.prs = S.cnt S2.rows := by
    rw [h2.prs]
    unfold Rt.fresh Tb.cnt
    rw [← List.countP_eq_length_filter]
    exact List.countP_congr (fun p hp => by rw [h.lacks hO (r1 p hp)])
  unfold Rt.MergeR at hp
  rw [hfr, h2.prs, h.len, h.fz, h.closed] at hp
  rcases hp with ⟨h1, rfl, rfl⟩ | ⟨h1, h3, h4, rfl, rfl⟩ | ⟨h1, h3, h4, rfl, rfl⟩ | ⟨h1, h3, h4, rfl, h5⟩
  · have hE : S.allE S2.rows = 13 := by unfold Tb.allE; rw [h1]; rfl
    exact ⟨hE.symm, Y, by rw [all_of hE (by decide)]; exact h⟩
  · have hE : S.allE S2.rows = 8 := by unfold Tb.allE; rw [h1, h4]; simp; omega
    exact ⟨hE.symm, Y, by rw [all_of hE (by decide)]; exact h⟩
  · have hE : S.allE S2.rows = 9 := by
      unfold Tb.allE; rw [h1, if_neg (by simp), if_neg, if_pos (by simpa using h4)]
      intro h6; simp at h6; rw [h3 h6.1] at h6; simp at h6
    exact ⟨hE.symm, Y, by rw [all_of hE (by decide)]; exact h⟩
  · have hE : S.allE S2.rows = 0 := by
      unfold Tb.allE; rw [h1, if_neg (by simp), if_neg, if_neg (by simp; omega)]
      intro h6; simp at h6; rw [h3 h6.1] at h6; simp at h6
    obtain ⟨Y', hA, _⟩ := Al.putsR h5 S Y h hO r1 r2 h1 h3 h4
    exact ⟨hE.symm, Y', by rw [all_ok hE]; exact hA⟩
theorem erase_map (k : Int) : ∀ (Y : List Yo) (j : Nat) (y : Yo), (Y.map Yo.k).Nodup → Y[j]? = some y → y.k = k → Y.eraseIdx j = Y.filter (fun z => !decide (z.k = k))
  | [], j, y, _, h, _ => by simp at h
  | z :: Y, 0, y, hn, h, e => by
    simp at h; subst h
    simp only [List.map_cons, List.nodup_cons] at hn
    rw [List.eraseIdx_zero, List.tail_cons, List.filter_cons, e]
    simp only [decide_true, Bool.not_true, Bool.false_eq_true, if_false]
    exact (List.filter_eq_self.2 (fun x hx => by simp; rintro e2; exact hn.1 (by rw [e, ← e2]; exact List.mem_map_of_mem hx))).symm
  | z :: Y, j + 1, y, hn, h, e => by
    simp only [List.map_cons, List.nodup_cons] at hn
    have h' : Y[j]? = some y := by simpa using h
    have hz : z.k ≠ k := fun e2 => hn.1 (by rw [e2, ← e]; exact List.mem_map_of_mem (List.mem_of_getElem? h'))
    rw [List.eraseIdx_cons_succ, List.filter_cons, erase_map k Y j y hn.2 h' e]
    simp [hz]
theorem Al.drop (h : Al S R Y) (k : Int) {rw' : Int → Option (Int × Nat)} (hr : rw' = upd S.rw k none) :
    Al { S with ks := S.ks.filter (fun x => !decide (x = k)), rw := rw' } { R with rows := (Y.filter (fun z => !decide (z.k = k))).map Yo.r } (Y.filter (fun z => !decide (z.k = k))) := by
  subst hr
  refine h.turn ?_ (fun y hy => ?_) rfl (h.inc.filter _) (fun y hy => .inl ⟨y, (List.mem_filter.1 hy).1, rfl, rfl⟩) (Nat.le_refl _) (Nat.le_refl _) h.st h.fz rfl rfl rfl rfl
  · rw [h.ks, List.filter_map]; rfl
  · obtain ⟨h1, h2⟩ := List.mem_filter.1 hy
    simp only [upd]
    rw [if_neg (by simpa using h2)]; exact h.rw y h1
theorem erase_r : ∀ (Y : List Yo) (j : Nat), (Y.map Yo.r).eraseIdx j = (Y.eraseIdx j).map Yo.r
  | [], j => by simp
  | y :: Y, 0 => by simp
  | y :: Y, j + 1 => by simp [erase_r Y j]
theorem Al.delR (h : Al S R Y) (hO : Ok S) {k : Int} (hk : WF k) {e : Ending} (hp : R.DelR k e R') : e = S.delE k ∧ ∃ Y', Al (S.del k) R' Y' := by
  have hf := h.fz
  rcases hp with ⟨h1, rfl, rfl⟩ | ⟨h1, h2, rfl, rfl⟩ | ⟨h1, j, v, t, h2, h3, rfl, rfl⟩
  · rw [h1] at hf
    have e2 : S.del k = S := by unfold Tb.del; rw [if_pos hf.symm]
    rw [e2]; exact ⟨by unfold Tb.delE; rw [if_pos hf.symm], Y, h⟩
  · have hh := h.lack_all hO hk h2
    rw [h1] at hf
    have e2 : S.del k = S := by unfold Tb.del; rw [if_neg (by rw [← hf]; simp), if_neg (by rw [hh]; simp)]
    rw [e2]; exact ⟨by unfold Tb.delE; rw [if_neg (by rw [← hf]; simp), if_neg (by rw [hh]; simp)], Y, h⟩
  · obtain ⟨p, hy⟩ := h.at h2
    have hm : (⟨k, v, p, t⟩ : Yo) ∈ Y := List.mem_of_getElem? hy
    have hh : S.has k = true := h.has hm
    have hv : S.vl k = v := h.vl hm
    rw [h1] at hf
    have e2 : S.del k = { S with ks := S.ks.filter (fun x => !decide (x = k)), rw := upd S.rw k none } := by unfold Tb.del; rw [if_neg (by rw [← hf]; simp), if_pos hh]
    rw [e2]
    refine ⟨by unfold Tb.delE; rw [if_neg (by rw [← hf]; simp), if_pos hh, hv], Y.eraseIdx j, ?_⟩
    have h4 := h.drop k rfl
    rw [← erase_map k Y j _ (h.nd hO) hy rfl] at h4
    have h5 : R.out j = { R with rows := (Y.eraseIdx j).map Yo.r } := by unfold Rt.out; rw [h.rows, erase_r]
    rw [h5]; exact h4
theorem Al.shift (h : Al S R Y) (hO : Ok S) : R.shiftE = S.shiftE ∧ ∃ Y', Al S.shift R.shift Y' := by
  have e := h.fz
  cases hf : S.fz with
  | true =>
    have e1 : R.shift = R := by unfold Rt.shift; rw [if_pos (e.trans hf)]
    have e2 : S.shift = S := by unfold Tb.shift; rw [if_pos hf]
    rw [e1, e2]
    exact ⟨by unfold Rt.shiftE Tb.shiftE; rw [if_pos (e.trans hf), if_pos hf], Y, h⟩
  | false =>
    have hk := h.ks; have hr := h.rows
    cases Y with
    | nil =>
      simp at hk hr
      have e1 : R.shift = R := by unfold Rt.shift; rw [if_neg (by rw [e, hf]; simp)]; rw [hr, List.tail_nil, ← hr]
      have e2 : S.shift = S := by unfold Tb.shift; rw [if_neg (by rw [hf]; simp), hk]
      rw [e1, e2]
      exact ⟨by unfold Rt.shiftE Tb.shiftE; rw [if_neg (by rw [e, hf]; simp), if_neg (by rw [hf]; simp), hr]; simp [Tb.atE, hk], [], h⟩
    | cons y Y =>
      simp only [List.map_cons] at hk hr
      have hv := h.vl (List.mem_cons_self ..)
      have e1 : R.shift = { R with rows := ((y :: Y).eraseIdx 0).map Yo.r } := by unfold Rt.shift; rw [if_neg (by rw [e, hf]; simp)]; rw [hr]; rfl
      have e2 : S.shift = S.out 0 y.k := by unfold Tb.shift; rw [if_neg (by rw [hf]; simp), hk]
      refine ⟨by unfold Rt.shiftE Tb.shiftE; rw [if_neg (by rw [e, hf]; simp), if_neg (by rw [hf]; simp), hr]; simp [Tb.atE, hk, hv, Yo.r], ((y :: Y).eraseIdx 0), ?_⟩
      have h4 := h.drop y.k rfl
      rw [← erase_map y.k (y :: Y) 0 y (h.nd hO) rfl rfl] at h4
      rw [e1, e2, out_erase hO (by rw [hk]; rfl)]; exact h4
end
end Go.Proofs.Ytagejkolgicecaa
namespace Go.Proofs.Ytagejkolgicecaa
open Go Go.RowKit Go.Maps
theorem on_append (R : Rt) (y : Int) : Rt.on { R with walks := R.walks ++ [(0, false)] } y = if y = R.walks.length then some 0 else R.on y := by
  unfold Rt.on
  simp only
  by_cases h : 0 ≤ y
  · rw [if_pos h, if_pos h]
    by_cases e : y = R.walks.length
    · rw [if_pos e]; subst e; simp
    · rw [if_neg e]
      by_cases h2 : y.toNat < R.walks.length
      · rw [List.getElem?_append_left h2]
      · rw [List.getElem?_eq_none (l := R.walks) (by omega), List.getElem?_eq_none (by simp; omega)]
  · rw [if_neg h, if_neg h, if_neg (by omega)]
theorem on_set (R : Rt) (n l : Nat) (b : Bool) (hn : n < R.walks.length) (y : Int) : Rt.on { R with walks := R.walks.set n (l, b) } y = if y = n then (if b then none else some l) else R.on y := by
  unfold Rt.on
  simp only
  by_cases h : 0 ≤ y
  · rw [if_pos h, if_pos h]
    by_cases e : y = n
    · rw [if_pos e]; subst e; simp [hn]; cases b <;> rfl
    · rw [if_neg e, List.getElem?_set_ne (by omega)]
  · rw [if_neg h, if_neg h, if_neg (by omega)]
theorem find_congr {α : Type} {p q : α → Bool} : ∀ (l : List α), (∀ x ∈ l, p x = q x) → l.find? p = l.find? q
  | [], _ => rfl
  | x :: l, h => by
    rw [List.find?_cons, List.find?_cons, h x (List.mem_cons_self ..), find_congr l (fun y hy => h y (List.mem_cons_of_mem _ hy))]
section
variable {S : Tb} {R : Rt} {Y : List Yo}
theorem Al.walk (h : Al S R Y) (hO : Ok S) (_ : S.bg < 4611686018427387904) : R.beginE = S.walkE ∧ Al S.walk R.begin_ Y := by
  have hw := hO.wlen
  unfold Rt.beginE Tb.walkE Rt.begin_ Tb.walk
  rw [h.op, h.bg]
  by_cases h20 : S.nw = 20
  · rw [if_pos h20, if_pos h20, if_pos (by omega), if_pos (by omega)]; exact ⟨rfl, h⟩
  · rw [if_neg h20, if_neg h20, if_neg (by omega), if_neg (by omega)]
    refine ⟨rfl, h.ks, h.rw, h.rows, h.inc, h.lo, h.st, h.fz, by simp [h.bg], ?_, fun x hx hw => ?_, fun x p hx hw => ?_⟩
    · have h1 := h.op
      unfold Rt.open_ at h1 ⊢
      simp only; rw [List.countP_append, h1]; rfl
    · simp only [upd] at hw
      split at hw
      · cases hw
      · rename_i e; rw [on_append, if_neg (by rw [h.bg]; exact e)]; exact h.wn x hx hw
    · simp only [upd] at hw
      split at hw
      · rename_i e
        cases hw
        refine ⟨0, by rw [on_append, if_pos (by rw [h.bg]; exact e)], Nat.zero_le _, Nat.zero_le _, fun y hy => ?_⟩
        have h1 := (h.lo y hy).1
        have h2 := (hO.lo y.k (by rw [h.ks]; exact List.mem_map_of_mem hy)).1
        rw [h.pl hy] at h2; omega
      · rename_i e
        obtain ⟨l, h1, h2⟩ := h.ws x p hx hw
        exact ⟨l, by rw [on_append, if_neg (by rw [h.bg]; exact e)]; exact h1, h2⟩
theorem Al.over (h : Al S R Y) {x : Int} {p : Nat} (hx : WF x) (hw : S.wk x = some p) {l : Nat} (ho : R.on x = some l) : Al (S.over x) (R.end_ x.toNat l) Y := by
  obtain ⟨n, rfl, hn⟩ := on_some ho
  have hlt : n < R.walks.length := (List.getElem?_eq_some_iff.1 hn).1
  refine ⟨h.ks, h.rw, h.rows, h.inc, h.lo, h.st, h.fz, by unfold Rt.end_; simp [h.bg, Tb.over], ?_, fun y hy hw' => ?_, fun y q hy hw' => ?_⟩
  · have h1 := h.op
    unfold Rt.open_ at h1 ⊢
    unfold Rt.end_ Tb.over
    simp only [Int.toNat_natCast]
    rw [List.countP_set hlt, (List.getElem?_eq_some_iff.1 hn).2, h1]; simp
  · unfold Rt.end_; simp only [Int.toNat_natCast]
    rw [on_set R n l true hlt]
    simp only [Tb.over, upd] at hw'
    split
    · rfl
    · rename_i e; rw [if_neg e] at hw'; exact h.wn y hy hw'
  · unfold Rt.end_; simp only [Int.toNat_natCast]
    simp only [Tb.over, upd] at hw'
    split at hw'
    · cases hw'
    · rename_i e
      obtain ⟨m, h1, h2⟩ := h.ws y q hy hw'
      exact ⟨m, by rw [on_set R n l true hlt, if_neg e]; exact h1, h2⟩
theorem Al.stop (h : Al S R Y) {x : Int} (hx : WF x) : R.stopE x = S.stopE x ∧ Al (S.stop x) (R.stop x) Y := by
  unfold Rt.stopE Tb.stopE Rt.stop Tb.stop
  cases hw : S.wk x with
  | none => rw [h.wn x hx hw]; exact ⟨rfl, h⟩
  | some p =>
    obtain ⟨l, h1, _⟩ := h.ws x p hx hw
    rw [h1]; exact ⟨rfl, h.over hx hw h1⟩
theorem Al.front (h : Al S R Y) {p l : Nat} (hc : Cut Y p l) : S.front p = (Y.find? (fun y => decide (p < y.p))).map Yo.k ∧ R.front l = (Y.find? (fun y => decide (p < y.p))).map Yo.r := by
  unfold Tb.front Rt.front
  rw [h.ks, h.rows, List.find?_map, List.find?_map]
  constructor
  · congr 1
    refine find_congr _ (fun y hy => ?_)
    simp only [Function.comp, h.pl hy]
  · congr 1
    refine find_congr _ (fun y hy => ?_)
    have := hc y hy
    show decide (l < y.t) = decide (p < y.p)
    rw [decide_eq_decide]; omega
theorem Al.next (h : Al S R Y) (hO : Ok S) {x : Int} (hx : WF x) : R.nextE x = S.nextE x ∧ Al (S.next x) (R.next x) Y := by
  unfold Rt.nextE Tb.nextE Rt.next Tb.next
  cases hw : S.wk x with
  | none => rw [h.wn x hx hw]; exact ⟨rfl, h⟩
  | some p =>
    obtain ⟨l, h1, h2, h3, h4⟩ := h.ws x p hx hw
    rw [h1]
    obtain ⟨f1, f2⟩ := h.front h4
    simp only
    rw [f1, f2]
    cases hf : Y.find? (fun y => decide (p < y.p)) with
    | none => exact ⟨rfl, h.over hx hw h1⟩
    | some y =>
      have hy : y ∈ Y := List.mem_of_find?_eq_some hf
      have hv := h.vl hy
      have hp := h.pl hy
      simp only [Option.map_some]
      refine ⟨by simp [Yo.r, hv, tup3], ?_⟩
      obtain ⟨n, rfl, hn⟩ := on_some h1
      have hlt : n < R.walks.length := (List.getElem?_eq_some_iff.1 hn).1
      have hlo := hO.lo y.k (by rw [h.ks]; exact List.mem_map_of_mem hy)
      rw [hp] at hlo ⊢
      simp only [Int.toNat_natCast, Yo.r]
      refine ⟨h.ks, h.rw, h.rows, h.inc, h.lo, h.st, h.fz, by simp [h.bg], ?_, fun z hz hw' => ?_, fun z q hz hw' => ?_⟩
      · have h5 := h.op
        unfold Rt.open_ at h5 ⊢
        simp only
        have hpos : 0 < R.walks.countP (fun x => !x.2) := List.countP_pos_iff.2 ⟨_, List.mem_of_getElem? hn, rfl⟩
        rw [List.countP_set hlt, (List.getElem?_eq_some_iff.1 hn).2, ← h5]; simp; omega
      · simp only [upd] at hw'
        split at hw'
        · cases hw'
        · rename_i e; rw [on_set R n y.t false hlt, if_neg e]; exact h.wn z hz hw'
      · simp only [upd] at hw'
        split at hw'
        · rename_i e
          cases hw'
          exact ⟨y.t, by rw [on_set R n y.t false hlt, if_pos e]; rfl, hlo.2, (h.lo y hy).2, cut_pair Y (h.sorted hO) h.inc y hy⟩
        · rename_i e
          obtain ⟨m, h5, h6⟩ := h.ws z q hz hw'
          exact ⟨m, by rw [on_set R n y.t false hlt, if_neg e]; exact h5, h6⟩
end
end Go.Proofs.Ytagejkolgicecaa
