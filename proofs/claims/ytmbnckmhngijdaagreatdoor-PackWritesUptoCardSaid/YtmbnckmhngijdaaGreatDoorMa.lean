/- The forms, what is packed and what is read, as plain functions on lists of bytes. -/
namespace Go.Proofs.YtmbnckmhngijdaaGreatDoor

/-! ### forms -/
structure Dir where
  c : UInt8
  gt : Bool
  k : Int
def isDig (b : UInt8) : Bool := decide (48 ≤ b.toNat ∧ b.toNat ≤ 57)
def numL : List UInt8 → Nat → Nat
  | [], n => n
  | b :: l, n => numL l (n * 10 + (b.toNat - 48))
def lettersL : List UInt8 := [67, 99, 83, 115, 76, 108, 81, 113, 110, 78, 119, 85, 97, 65, 90, 72, 120, 64]
def turnsL : List UInt8 := [83, 115, 76, 108, 81, 113]
def numOk (c : UInt8) (ds : List UInt8) : Bool :=
  decide (numL ds 0 ≤ 1000) && (decide (ds.head? ≠ some 48) || (decide (ds = [48]) && decide (c = 64)))
def orderL (c : UInt8) (l : List UInt8) : Bool × List UInt8 :=
  match l with
  | 62 :: r => if turnsL.contains c then (true, r) else (false, l)
  | _ => (false, l)
def countL (c : UInt8) (l : List UInt8) : Option (Int × List UInt8) :=
  match l with
  | 42 :: r => if c = 120 ∨ c = 64 then none else some (-1, r)
  | _ =>
    if l.takeWhile isDig = [] then some (-2, l)
    else if numOk c (l.takeWhile isDig) then some ((numL (l.takeWhile isDig) 0 : Nat), l.dropWhile isDig) else none
def dirL (c : UInt8) (l : List UInt8) : Option (Dir × List UInt8) :=
  if lettersL.contains c then
    match countL c (orderL c l).2 with
    | none => none
    | some (k, r) => some (⟨c, (orderL c l).1, k⟩, r)
  else none
def blanksL (l : List UInt8) : List UInt8 := l.dropWhile (· == 32)
def dirsF : Nat → List UInt8 → Option (List Dir)
  | 0, _ => some []
  | f + 1, l =>
    match blanksL l with
    | [] => some []
    | c :: m =>
      match dirL c m with
      | none => none
      | some (d, r) => (dirsF f r).map (d :: ·)
def formL (l : List UInt8) : Option (List Dir) :=
  match dirsF (l.length + 1) l with
  | none => none
  | some ds => if ds.length ≤ 50 then some ds else none

theorem orderL_length (c : UInt8) (l : List UInt8) : (orderL c l).2.length ≤ l.length := by
  unfold orderL
  split
  · split <;> simp
  · simp
theorem dropWhile_length (p : UInt8 → Bool) (l : List UInt8) : (l.dropWhile p).length ≤ l.length := by
  induction l with
  | nil => simp
  | cons b l ih =>
    rw [List.dropWhile_cons]
    split
    · simp; omega
    · simp
theorem countL_length {c : UInt8} {l r : List UInt8} {k : Int} (h : countL c l = some (k, r)) : r.length ≤ l.length := by
  unfold countL at h
  split at h
  · split at h
    · cases h
    · cases h; simp
  · split at h
    · cases h; simp
    · split at h
      · cases h; exact dropWhile_length _ _
      · cases h
theorem dirL_length {c : UInt8} {l r : List UInt8} {d : Dir} (h : dirL c l = some (d, r)) : r.length ≤ l.length := by
  unfold dirL at h
  split at h
  · split at h
    · cases h
    · rename_i k r' e
      cases h
      exact Nat.le_trans (countL_length e) (orderL_length c l)
  · cases h
theorem dirL_letter {c : UInt8} {l r : List UInt8} {k : Int} (h : lettersL.contains c = true) (e : countL c (orderL c l).2 = some (k, r)) : dirL c l = some (⟨c, (orderL c l).1, k⟩, r) := by
  unfold dirL; rw [if_pos h, e]
theorem dirL_none {c : UInt8} {l : List UInt8} (e : countL c (orderL c l).2 = none) : dirL c l = none := by
  unfold dirL; rw [e]; split <;> rfl
theorem blanksL_length (l : List UInt8) : (blanksL l).length ≤ l.length := dropWhile_length _ _
theorem dirsF_fuel : ∀ (f g : Nat) (l : List UInt8), l.length < f → l.length < g → dirsF f l = dirsF g l
  | 0, _, _, h, _ => absurd h (by omega)
  | _, 0, _, _, h => absurd h (by omega)
  | f + 1, g + 1, l, h1, h2 => by
    have hb := blanksL_length l
    unfold dirsF
    cases e : blanksL l with
    | nil => rfl
    | cons c m =>
      rw [e] at hb
      simp only [List.length_cons] at hb
      dsimp only
      cases e2 : dirL c m with
      | none => rfl
      | some x =>
        obtain ⟨d, r⟩ := x
        have := dirL_length e2
        dsimp only
        rw [dirsF_fuel f g r (by omega) (by omega)]
/-- what is read of the rest of a form -/
def restL (l : List UInt8) : Option (List Dir) := dirsF (l.length + 1) l
theorem restL_nil {l : List UInt8} (h : blanksL l = []) : restL l = some [] := by
  unfold restL dirsF; rw [h]
theorem restL_none {l m : List UInt8} {c : UInt8} (h : blanksL l = c :: m) (h2 : dirL c m = none) : restL l = none := by
  unfold restL dirsF; rw [h]; dsimp only; rw [h2]
theorem restL_some {l m r : List UInt8} {c : UInt8} {d : Dir} (h : blanksL l = c :: m) (h2 : dirL c m = some (d, r)) : restL l = (restL r).map (d :: ·) := by
  have hb := blanksL_length l
  have h3 := dirL_length h2
  rw [h] at hb
  simp only [List.length_cons] at hb
  unfold restL
  conv => lhs; unfold dirsF
  rw [h]; dsimp only; rw [h2]; dsimp only
  rw [dirsF_fuel l.length (r.length + 1) r (by omega) (by omega)]
theorem blanksL_blanksL (l : List UInt8) : blanksL (blanksL l) = blanksL l := by
  unfold blanksL
  induction l with
  | nil => rfl
  | cons b l ih =>
    rw [List.dropWhile_cons]
    split
    · exact ih
    · rename_i h; rw [List.dropWhile_cons, if_neg h]
theorem restL_blanksL (l : List UInt8) : restL (blanksL l) = restL l := by
  have hb := blanksL_length l
  unfold restL
  conv => lhs; unfold dirsF
  conv => rhs; unfold dirsF
  rw [blanksL_blanksL]
  cases e : blanksL l with
  | nil => rfl
  | cons c m =>
    rw [e] at hb
    simp only [List.length_cons] at hb
    dsimp only
    cases e2 : dirL c m with
    | none => rfl
    | some x =>
      obtain ⟨d, r⟩ := x
      have := dirL_length e2
      dsimp only
      rw [dirsF_fuel (List.length (c :: m)) l.length r (by simp; omega) (by omega)]
def within (o : Option (List Dir)) : Option (List Dir) :=
  match o with
  | none => none
  | some ds => if ds.length ≤ 50 then some ds else none
theorem formL_rest (l : List UInt8) : formL l = within (restL l) := rfl
/-- what is read ahead, and the rest: -/
def joinL (acc : List Dir) (l : List UInt8) : Option (List Dir) := (restL l).map (acc ++ ·)
theorem joinL_start (l : List UInt8) : joinL [] l = restL l := by
  unfold joinL; simp
theorem joinL_nil {acc : List Dir} {l : List UInt8} (h : blanksL l = []) : joinL acc l = some acc := by
  unfold joinL; rw [restL_nil h]; simp
theorem joinL_none {acc : List Dir} {l m : List UInt8} {c : UInt8} (h : blanksL l = c :: m) (h2 : dirL c m = none) : joinL acc l = none := by
  unfold joinL; rw [restL_none h h2]; rfl
theorem joinL_some {acc : List Dir} {l m r : List UInt8} {c : UInt8} {d : Dir} (h : blanksL l = c :: m) (h2 : dirL c m = some (d, r)) : joinL (acc ++ [d]) r = joinL acc l := by
  unfold joinL; rw [restL_some h h2]
  cases restL r <;> simp
theorem joinL_blanksL (acc : List Dir) (l : List UInt8) : joinL acc (blanksL l) = joinL acc l := by
  unfold joinL; rw [restL_blanksL]
theorem joinL_full {acc : List Dir} {l m : List UInt8} {c : UInt8} (h : blanksL l = c :: m) (h2 : acc.length = 50) : within (joinL acc l) = none := by
  unfold joinL within
  cases e : dirL c m with
  | none => rw [restL_none h e]; rfl
  | some x =>
    obtain ⟨d, r⟩ := x
    rw [restL_some h e]
    cases restL r with
    | none => rfl
    | some ds => simp; omega

/-! ### what a directive is -/
def sizeC (c : UInt8) : Nat :=
  if c = 67 ∨ c = 99 then 1 else if c = 83 ∨ c = 115 ∨ c = 110 then 2 else if c = 76 ∨ c = 108 ∨ c = 78 then 4 else if c = 81 ∨ c = 113 then 8 else 0
def signC (c : UInt8) : Bool := c == 99 || c == 115 || c == 108 || c == 113
def numC (c : UInt8) : Bool := decide (0 < sizeC c) || c == 119 || c == 85
/-- the count, where it is not all: -/
def Dir.n (d : Dir) : Nat := if d.k = -1 then 0 else if d.k = -2 then (if d.c = 64 then 0 else 1) else d.k.toNat
def Dir.all (d : Dir) : Bool := decide (d.k = -1)
def Dir.great (d : Dir) : Bool := d.gt || d.c == 110 || d.c == 78
/-- what a directive of a form always is -/
structure Dir.Ok (d : Dir) : Prop where
  letter : lettersL.contains d.c = true
  gt : d.gt = true → turnsL.contains d.c = true
  count : d.k = -1 ∨ d.k = -2 ∨ (0 ≤ d.k ∧ d.k ≤ 1000)
  all : d.k = -1 → d.c ≠ 120 ∧ d.c ≠ 64
  pos : d.k = 0 → d.c = 64
theorem numL_ge (l : List UInt8) : ∀ n, n ≤ numL l n := by
  induction l with
  | nil => intro n; exact Nat.le_refl _
  | cons b l ih => intro n; exact Nat.le_trans (by omega) (ih _)
theorem digs_head (l : List UInt8) (b : UInt8) (t : List UInt8) (h : l.takeWhile isDig = b :: t) : isDig b = true := by
  cases l with
  | nil => cases h
  | cons x l =>
    rw [List.takeWhile_cons] at h
    split at h
    · rename_i hx; cases h; exact hx
    · cases h
theorem dirL_ok {c : UInt8} {l r : List UInt8} {d : Dir} (h : dirL c l = some (d, r)) : d.Ok := by
  unfold dirL at h
  split at h
  · rename_i hl
    split at h
    · cases h
    · rename_i k r' e
      cases h
      have hg : (orderL c l).1 = true → turnsL.contains c = true := by
        unfold orderL
        split
        · split
          · rename_i h; intro _; exact h
          · intro h; cases h
        · intro h; cases h
      have hc : (k = -1 ∧ c ≠ 120 ∧ c ≠ 64) ∨ k = -2 ∨ (0 ≤ k ∧ k ≤ 1000 ∧ (k = 0 → c = 64)) := by
        unfold countL at e
        split at e
        · split at e
          · cases e
          · rename_i hn
            cases e
            exact Or.inl ⟨rfl, fun h => hn (Or.inl h), fun h => hn (Or.inr h)⟩
        · split at e
          · cases e; exact Or.inr (Or.inl rfl)
          · rename_i hne
            split at e
            · rename_i hok
              cases e
              unfold numOk at hok
              simp only [Bool.and_eq_true, decide_eq_true_eq, Bool.or_eq_true] at hok
              refine Or.inr (Or.inr ⟨by omega, by omega, fun hz => ?_⟩)
              rcases hok.2 with h0 | ⟨_, h0⟩
              · exfalso
                revert hne h0 hz
                have hd := digs_head (orderL c l).2
                generalize (orderL c l).snd.takeWhile isDig = D at *
                cases D with
                | nil => intro h; exact absurd rfl h
                | cons b l' =>
                  intro _ hz h0
                  have h1 := hd b l' rfl
                  simp only [isDig, decide_eq_true_eq] at h1
                  have h2 : b.toNat ≠ 48 := fun h => h0 (by
                    have : b = 48 := UInt8.toNat_inj.1 (by simpa using h)
                    rw [this]; rfl)
                  have h3 := numL_ge l' (0 * 10 + (b.toNat - 48))
                  simp only [numL] at hz
                  omega
              · exact h0
            · cases e
      refine ⟨hl, hg, ?_, ?_, ?_⟩
      · rcases hc with h | h | h
        · exact Or.inl h.1
        · exact Or.inr (Or.inl h)
        · exact Or.inr (Or.inr ⟨h.1, h.2.1⟩)
      · intro h
        dsimp only at h
        rcases hc with h' | h' | h'
        · exact h'.2
        · omega
        · omega
      · intro h
        dsimp only at h
        rcases hc with h' | h' | h'
        · omega
        · omega
        · exact h'.2.2 h
  · cases h
theorem dirsF_ok : ∀ (f : Nat) (l : List UInt8) (ds : List Dir), dirsF f l = some ds → ∀ d ∈ ds, d.Ok
  | 0, _, ds, h => by cases h; intro d hd; cases hd
  | f + 1, l, ds, h => by
    unfold dirsF at h
    split at h
    · cases h; intro d hd; cases hd
    · split at h
      · cases h
      · rename_i d r e
        cases e2 : dirsF f r with
        | none => rw [e2] at h; cases h
        | some ds2 =>
          rw [e2] at h
          cases h
          intro d' hd'
          rcases List.mem_cons.1 hd' with rfl | hd'
          · exact dirL_ok e
          · exact dirsF_ok f r ds2 e2 d' hd'
theorem formL_ok {l : List UInt8} {ds : List Dir} (h : formL l = some ds) : ds.length ≤ 50 ∧ ∀ d ∈ ds, d.Ok := by
  unfold formL at h
  split at h
  · cases h
  · rename_i ds2 e
    split at h
    · cases h
      exact ⟨by assumption, dirsF_ok _ _ _ e⟩
    · cases h
end Go.Proofs.YtmbnckmhngijdaaGreatDoor
