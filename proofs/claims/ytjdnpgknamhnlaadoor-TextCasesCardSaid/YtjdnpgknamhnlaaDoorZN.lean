/- The letters of a string turned into capital or small ones, and turned once more. No program here. -/
import Derived.Test.YtjdnpgknamhnlaaDoorZM
namespace Go.Proofs.YtjdnpgknamhnlaaDoor
open Go Go.RowKit Go.Shelf

def upC (c : Int) : Int := if (97 ≤ c ∧ c ≤ 122) ∨ (224 ≤ c ∧ c ≤ 254 ∧ c ≠ 247) then c - 32 else c
def loC (c : Int) : Int := if (65 ≤ c ∧ c ≤ 90) ∨ (192 ≤ c ∧ c ≤ 222 ∧ c ≠ 215) then c + 32 else c
theorem up_lo (c : Int) : upC (loC c) = upC c := by
  unfold upC loC
  repeat' split
  all_goals omega
theorem lo_up (c : Int) : loC (upC c) = loC c := by
  unfold upC loC
  repeat' split
  all_goals omega

/-- What is asked of a way to turn codes. -/
structure CaseOk (g : Int → Int) : Prop where
  neg : g (-1) = -1
  low : ∀ c, 0 ≤ c → c < 128 → 0 ≤ g c ∧ g c < 128
  mid : ∀ c, 128 ≤ c → c < 256 → 128 ≤ g c ∧ g c < 256 ∧ g c / 64 = c / 64
  high : ∀ c, 256 ≤ c → g c = c
theorem upC_ok : CaseOk upC := by
  constructor
  · rfl
  all_goals
    intros
    unfold upC
    split <;> omega
theorem loC_ok : CaseOk loC := by
  constructor
  · rfl
  all_goals
    intros
    unfold loC
    split <;> omega

def Near (a b : Nat) : Prop := a = b ∨ (a < 128 ∧ b < 128)
theorem okC_near {a b : Nat} (h : Near a b) : okC b = okC a := by
  rcases h with rfl | ⟨h1, h2⟩
  · rfl
  · unfold okC
    rw [decide_eq_false (by omega : ¬ 128 ≤ a), decide_eq_false (by omega : ¬ 128 ≤ b)]
    rfl
theorem ok2_near {b0 a b : Nat} (h : Near a b) : ok2 b0 b = ok2 b0 a := by
  rcases h with rfl | ⟨h1, h2⟩
  · rfl
  · have hl := lo2_cases b0
    unfold ok2
    rw [decide_eq_false (by omega : ¬ lo2 b0 ≤ a), decide_eq_false (by omega : ¬ lo2 b0 ≤ b)]
    rfl
/-- A row of broken bytes stays one if what stands behind it is as near. -/
theorem oneN_row (n b0 b1 b2 b3 c1 c2 c3 k : Nat) (h : oneN n b0 b1 b2 b3 = (k, -1)) (h1 : 1 < k → c1 = b1) (h2 : 2 < k → c2 = b2) (_h3 : 3 < k → c3 = b3)
    (r1 : k = 1 → Near b1 c1) (r2 : k = 2 → Near b2 c2) (r3 : k = 3 → Near b3 c3) : oneN n b0 c1 c2 c3 = (k, -1) := by
  unfold oneN at h ⊢
  have no : ∀ (x : Nat) (y : Nat), (x, (y : Int)) = (k, -1) → False := fun x y hh => by
    have := congrArg Prod.snd hh
    simp only at this
    omega
  by_cases a1 : b0 < 128
  · rw [if_pos a1] at h; exact (no _ _ h).elim
  rw [if_neg a1] at h ⊢
  by_cases a2 : b0 < 194
  · rw [if_pos a2] at h ⊢; exact h
  rw [if_neg a2] at h ⊢
  by_cases a3 : b0 < 224
  · rw [if_pos a3] at h ⊢
    by_cases q : 1 < n ∧ okC b1 = true
    · rw [if_pos q] at h; exact (no _ _ h).elim
    · rw [if_neg q] at h
      have hk : 1 = k := congrArg Prod.fst h
      rw [okC_near (r1 hk.symm), if_neg q]; exact h
  rw [if_neg a3] at h ⊢
  by_cases a4 : b0 < 240
  · rw [if_pos a4] at h ⊢
    by_cases q : 1 < n ∧ ok2 b0 b1 = true
    · rw [if_pos q] at h
      by_cases q2 : 2 < n ∧ okC b2 = true
      · rw [if_pos q2] at h; exact (no _ _ h).elim
      · rw [if_neg q2] at h
        have hk : 2 = k := congrArg Prod.fst h
        rw [h1 (by omega), okC_near (r2 hk.symm), if_pos q, if_neg q2]; exact h
    · rw [if_neg q] at h
      have hk : 1 = k := congrArg Prod.fst h
      rw [ok2_near (r1 hk.symm), if_neg q]; exact h
  rw [if_neg a4] at h ⊢
  by_cases a5 : b0 < 245
  · rw [if_pos a5] at h ⊢
    by_cases q : 1 < n ∧ ok2 b0 b1 = true
    · rw [if_pos q] at h
      by_cases q2 : 2 < n ∧ okC b2 = true
      · rw [if_pos q2] at h
        by_cases q3 : 3 < n ∧ okC b3 = true
        · rw [if_pos q3] at h; exact (no _ _ h).elim
        · rw [if_neg q3] at h
          have hk : 3 = k := congrArg Prod.fst h
          rw [h1 (by omega), h2 (by omega), okC_near (r3 hk.symm), if_pos q, if_pos q2, if_neg q3]; exact h
      · rw [if_neg q2] at h
        have hk : 2 = k := congrArg Prod.fst h
        rw [h1 (by omega), okC_near (r2 hk.symm), if_pos q, if_neg q2]; exact h
    · rw [if_neg q] at h
      have hk : 1 = k := congrArg Prod.fst h
      rw [ok2_near (r1 hk.symm), if_neg q]; exact h
  · rw [if_neg a5] at h ⊢; exact h

theorem get!_past (p t : ByteArray) : (p ++ t).get! p.size = t.get! 0 := by
  rw [← getD_get!, ← getD_get!]
  have : (p ++ t).data.toList = p.data.toList ++ t.data.toList := by simp
  rw [this, List.getD_eq_getElem?_getD, List.getElem?_append_right (show p.data.toList.length ≤ p.size from Nat.le_refl _), List.getD_eq_getElem?_getD]
  have h2 : p.size - p.data.toList.length = 0 := Nat.sub_self _
  rw [h2]
theorem get!_rest (s : ByteArray) (k : Nat) (_hk : k ≤ s.size) : (s.extract k s.size).get! 0 = s.get! k := by
  rw [← getD_get!, ← getD_get!, ← drop_cut, List.getD_eq_getElem?_getD, List.getD_eq_getElem?_getD, List.getElem?_drop, Nat.add_zero]

theorem encode_1 (n : Nat) (h : n < 128) : Utf8.encode (n : Int) = ⟨#[UInt8.ofNat n]⟩ := by
  have hv : Utf8.valid (n : Int) = true := by unfold Utf8.valid; simp; omega
  unfold Utf8.encode
  simp only [hv, if_true, Int.toNat_natCast]
  rw [if_pos h]
theorem encode_2 (n : Nat) (l : 128 ≤ n) (h : n < 2048) : Utf8.encode (n : Int) = ⟨#[UInt8.ofNat (192 + n / 64), UInt8.ofNat (128 + n % 64)]⟩ := by
  have hv : Utf8.valid (n : Int) = true := by unfold Utf8.valid; simp; omega
  unfold Utf8.encode
  simp only [hv, if_true, Int.toNat_natCast]
  rw [if_neg (by omega), if_pos h]

def NearB (y x : ByteArray) : Prop := x.size = y.size ∧ Near (y.get! 0).toNat (x.get! 0).toNat
theorem nearB_refl (x : ByteArray) : NearB x x := ⟨rfl, .inl rfl⟩
theorem nearB_one {a b : Nat} (ha : a < 256) (hb : b < 256) (h : Near a b) : NearB ⟨#[UInt8.ofNat a]⟩ ⟨#[UInt8.ofNat b]⟩ := by
  refine ⟨rfl, ?_⟩
  rw [get!_mk [UInt8.ofNat a] 0 (Nat.zero_lt_succ _), get!_mk [UInt8.ofNat b] 0 (Nat.zero_lt_succ _)]
  show Near (UInt8.ofNat a).toNat (UInt8.ofNat b).toNat
  rw [ofNat_val a ha, ofNat_val b hb]
  exact h
/-- A turned character: as long, and as near. In utf-8. -/
theorem case_keep2 {g : Int → Int} (ok : CaseOk g) (c : Int) (y : ByteArray) (h : chrOf 2 c = some y) : ∃ x, chrOf 2 (g c) = some x ∧ NearB y x := by
  have h0 : 0 ≤ c := by
    rcases (by omega : c < 0 ∨ 0 ≤ c) with h1 | h1
    · rw [chr_none_neg 2 c h1] at h; cases h
    · exact h1
  have hx : ∀ d : Int, chrOf 2 d = if 0 ≤ d ∧ d ≤ 1114111 ∧ ¬ (55296 ≤ d ∧ d ≤ 57343) then some (Utf8.encode d) else none := fun d => rfl
  by_cases c1 : c < 128
  · have hl := ok.low c h0 c1
    rw [hx, if_pos (by omega)] at h
    obtain rfl := Option.some.inj h
    refine ⟨_, by rw [hx, if_pos (by omega)], ?_⟩
    obtain ⟨n, rfl⟩ := Int.eq_ofNat_of_zero_le h0
    obtain ⟨m, hm⟩ := Int.eq_ofNat_of_zero_le hl.1
    rw [hm] at hl ⊢
    rw [encode_1 n (by omega), encode_1 m (by omega)]
    exact nearB_one (by omega) (by omega) (.inr ⟨by omega, by omega⟩)
  · by_cases c2 : c < 256
    · have hl := ok.mid c (by omega) c2
      rw [hx, if_pos (by omega)] at h
      obtain rfl := Option.some.inj h
      refine ⟨_, by rw [hx, if_pos (by omega)], ?_⟩
      obtain ⟨n, rfl⟩ := Int.eq_ofNat_of_zero_le h0
      obtain ⟨m, hm⟩ := Int.eq_ofNat_of_zero_le (show 0 ≤ g n by omega)
      rw [hm] at hl ⊢
      rw [encode_2 n (by omega) (by omega), encode_2 m (by omega) (by omega)]
      refine ⟨rfl, ?_⟩
      rw [get!_mk [_, _] 0 (Nat.zero_lt_succ _), get!_mk [_, _] 0 (Nat.zero_lt_succ _)]
      refine .inl ?_
      have : n / 64 = m / 64 := by omega
      show (UInt8.ofNat (192 + n / 64)).toNat = (UInt8.ofNat (192 + m / 64)).toNat
      rw [this]
    · rw [ok.high c (by omega)]
      exact ⟨y, h, nearB_refl y⟩
theorem case_keep {g : Int → Int} (ok : CaseOk g) (e c : Int) (y : ByteArray) (h : chrOf e c = some y) : ∃ x, chrOf e (g c) = some x ∧ x.size = y.size := by
  by_cases h2 : e = 2
  · subst h2
    obtain ⟨x, h1, h3⟩ := case_keep2 ok c y h
    exact ⟨x, h1, h3.1⟩
  · have hl : limOf e = 128 ∨ limOf e = 256 := by unfold limOf; split <;> simp
    unfold chrOf at h ⊢
    rw [if_neg h2] at h ⊢
    by_cases hc : 0 ≤ c ∧ c < limOf e
    · rw [if_pos hc] at h
      obtain rfl := Option.some.inj h
      have : 0 ≤ g c ∧ g c < limOf e := by
        by_cases c1 : c < 128
        · have := ok.low c hc.1 c1; omega
        · have := ok.mid c (by omega) (by omega); omega
      rw [if_pos this]
      exact ⟨_, rfl, rfl⟩
    · rw [if_neg hc] at h; cases h

def caseT (e : Int) (g : Int → Int) (p : ByteArray × Int) : ByteArray := (chrOf e (g p.2)).getD p.1
def caseS (e : Int) (g : Int → Int) (s : ByteArray) : ByteArray := glue ((parts (nxOf e) s).map (caseT e g))
theorem case_parts2 {g : Int → Int} (ok : CaseOk g) : ∀ (n : Nat) (s : ByteArray), s.size = n →
    parts (nxOf 2) (caseS 2 g s) = (parts (nxOf 2) s).map (fun p => (caseT 2 g p, g p.2)) ∧ (caseS 2 g s).size = s.size ∧ Near (s.get! 0).toNat ((caseS 2 g s).get! 0).toNat := fun n => by
  induction n using Nat.strongRecOn with
  | _ n ih =>
    intro s hs
    by_cases h0 : s.size = 0
    · have hse : s = ⟨#[]⟩ := by
        cases s with
        | mk d =>
          have : d = #[] := Array.eq_empty_of_size_eq_zero h0
          rw [this]
      subst hse
      refine ⟨rfl, rfl, .inl rfl⟩
    · have h1 : 0 < s.size := by omega
      have hlo := (nxOf_ok 2).lo s h1
      have hhi := (nxOf_ok 2).hi s h1
      have hx : ∀ u, nxOf 2 u = one u := fun u => rfl
      have hpc := parts_cons (nxOf_ok 2) s h1
      have hch := one_chr s h1
      have hcode := parts_code 2 s.size s rfl (s.extract 0 (nxOf 2 s).1, (nxOf 2 s).2) (by rw [hpc]; exact List.mem_cons_self)
      rw [← hx] at hch
      obtain ⟨k, hk⟩ : ∃ k, (nxOf 2 s).1 = k := ⟨_, rfl⟩
      obtain ⟨c, hc⟩ : ∃ c, (nxOf 2 s).2 = c := ⟨_, rfl⟩
      rw [hk] at hlo hhi hpc hch hcode
      rw [hc] at hpc hch hcode
      obtain ⟨i1, i2, i3⟩ := ih (s.extract k s.size).size (by simp; omega) _ rfl
      have hrz : (s.extract k s.size).size = s.size - k := by simp
      rw [hrz] at i2
      have hez : (s.extract 0 k).size = k := by simp; omega
      have hcs : caseS 2 g s = caseT 2 g (s.extract 0 k, c) ++ caseS 2 g (s.extract k s.size) := by
        unfold caseS
        rw [hpc, List.map_cons, glue_cons]
      obtain ⟨y, hy⟩ : ∃ y, caseS 2 g (s.extract k s.size) = y := ⟨_, rfl⟩
      rw [hy] at hcs i1 i2 i3
      rw [get!_rest s k hhi] at i3
      have key : (caseT 2 g (s.extract 0 k, c)).size = k ∧ nxOf 2 (caseT 2 g (s.extract 0 k, c) ++ y) = (k, g c) ∧ Near (s.get! 0).toNat ((caseT 2 g (s.extract 0 k, c) ++ y).get! 0).toNat := by
        by_cases hc0 : 0 ≤ c
        · rw [if_pos hc0] at hch
          obtain ⟨x, hx1, hx2, hx3⟩ := case_keep2 ok c _ hch
          have hT : caseT 2 g (s.extract 0 k, c) = x := by unfold caseT; rw [hx1]; rfl
          rw [hez] at hx2
          rw [hT]
          refine ⟨hx2, ?_, ?_⟩
          · have := (char_firm 2 (g c) x hx1).2 y
            rw [hx2] at this
            exact this
          · rw [get!_glue x y 0 (by omega), ← get!_cut s k 0 hhi (by omega)]
            exact hx3
        · have hc1 : c = -1 := by
            have hm1 : (-1 : Int) ≤ c := hcode.1
            omega
          subst hc1
          have hT : caseT 2 g (s.extract 0 k, -1) = s.extract 0 k := by unfold caseT; rw [ok.neg, chr_none_neg 2 (-1) (by omega)]; rfl
          rw [hT, ok.neg]
          have hg : ∀ i, i < k → (s.extract 0 k ++ y).get! i = s.get! i := fun i hi => by
            rw [get!_glue _ _ _ (by rw [hez]; exact hi), get!_cut s k i hhi hi]
          have hgk : Near (s.get! k).toNat ((s.extract 0 k ++ y).get! k).toNat := by
            have := get!_past (s.extract 0 k) y
            rw [hez] at this
            rw [this]
            exact i3
          refine ⟨hez, ?_, by rw [hg 0 (by omega)]; exact .inl rfl⟩
          have hz : (s.extract 0 k ++ y).size = s.size := by rw [ByteArray.size_append, hez, i2]; omega
          have hone : oneN s.size (s.get! 0).toNat (s.get! 1).toNat (s.get! 2).toNat (s.get! 3).toNat = (k, -1) := by
            show one s = _
            rw [← hx, ← hk, ← hc]
          show oneN _ _ _ _ _ = _
          rw [hz, hg 0 (by omega)]
          exact oneN_row _ _ _ _ _ _ _ _ k hone (fun h => by rw [hg 1 h]) (fun h => by rw [hg 2 h]) (fun h => by rw [hg 3 h])
            (fun h => by subst h; exact hgk) (fun h => by subst h; exact hgk) (fun h => by subst h; exact hgk)
      obtain ⟨k1, k2, k3⟩ := key
      rw [hcs]
      have hz : (caseT 2 g (s.extract 0 k, c) ++ y).size = (caseT 2 g (s.extract 0 k, c)).size + y.size := ByteArray.size_append
      refine ⟨?_, by rw [hz, k1, i2]; omega, k3⟩
      rw [parts_cons (nxOf_ok 2) _ (by omega), k2, ByteArray.extract_append_eq_left k1.symm, ByteArray.extract_append_eq_right k1.symm (by rw [hz, k1]), i1, hpc, List.map_cons]

theorem case_size1 (e : Int) (h2 : e ≠ 2) (s : ByteArray) (p : ByteArray × Int) (hp : p ∈ parts (nxOf e) s) : Firm (nxOf e) p := firm_parts e s.size s rfl (fun h => absurd h h2) p hp
theorem case_good {g : Int → Int} (ok : CaseOk g) (e : Int) (h2 : e ≠ 2) (s : ByteArray) (p : ByteArray × Int) (hp : p ∈ parts (nxOf e) s) : Firm (nxOf e) (caseT e g p, g p.2) ∧ (caseT e g p).size = p.1.size := by
  by_cases hc0 : 0 ≤ p.2
  · obtain ⟨x, hx1, hx2⟩ := case_keep ok e p.2 p.1 (parts_chr_all e s p hp hc0)
    have hT : caseT e g p = x := by unfold caseT; rw [hx1]; rfl
    rw [hT]
    exact ⟨char_firm e (g p.2) x hx1, hx2⟩
  · have hcode := parts_code e s.size s rfl p hp
    have hc1 : p.2 = -1 := by omega
    have hT : caseT e g p = p.1 := by unfold caseT; rw [hc1, ok.neg, chr_none_neg e (-1) (by omega)]; rfl
    rw [hT, hc1, ok.neg]
    have := case_size1 e h2 s p hp
    rw [show p = (p.1, (-1 : Int)) by rw [← hc1]] at this
    exact ⟨this, rfl⟩
theorem glue_sizes (l : List (ByteArray × Int)) (f : ByteArray × Int → ByteArray) (h : ∀ p ∈ l, (f p).size = p.1.size) : (glue (l.map f)).size = (glue (textsP l)).size := by
  induction l with
  | nil => rfl
  | cons p l ih =>
    have e1 : glue (textsP (p :: l)) = p.1 ++ glue (textsP l) := by simp [textsP, glue_cons]
    rw [List.map_cons, glue_cons, e1, ByteArray.size_append, ByteArray.size_append, ih (fun q hq => h q (List.mem_cons_of_mem _ hq)), h p List.mem_cons_self]
theorem case_parts {g : Int → Int} (ok : CaseOk g) (e : Int) (s : ByteArray) :
    parts (nxOf e) (caseS e g s) = (parts (nxOf e) s).map (fun p => (caseT e g p, g p.2)) ∧ (caseS e g s).size = s.size := by
  by_cases h2 : e = 2
  · subst h2
    exact ⟨(case_parts2 ok s.size s rfl).1, (case_parts2 ok s.size s rfl).2.1⟩
  · constructor
    · have h := parts_glue (nxOf_ok e) ((parts (nxOf e) s).map (fun p => (caseT e g p, g p.2))) (fun q hq => by
        obtain ⟨p, hp, rfl⟩ := List.mem_map.1 hq
        exact (case_good ok e h2 s p hp).1)
      have ht : textsP ((parts (nxOf e) s).map (fun p => (caseT e g p, g p.2))) = (parts (nxOf e) s).map (caseT e g) := by simp [textsP]
      rw [ht] at h
      exact h
    · unfold caseS
      rw [glue_sizes _ _ (fun p hp => (case_good ok e h2 s p hp).2), glue_parts (nxOf_ok e)]
theorem case_case {g1 g2 : Int → Int} (ok1 : CaseOk g1) (ok2 : CaseOk g2) (h : ∀ c, g2 (g1 c) = g2 c) (e : Int) (s : ByteArray) : caseS e g2 (caseS e g1 s) = caseS e g2 s := by
  have hd : caseS e g2 (caseS e g1 s) = glue ((parts (nxOf e) (caseS e g1 s)).map (caseT e g2)) := rfl
  rw [hd, (case_parts ok1 e s).1, List.map_map]
  unfold caseS
  congr 1
  refine List.map_congr_left fun p hp => ?_
  show caseT e g2 (caseT e g1 p, g1 p.2) = caseT e g2 p
  have hcode := parts_code e s.size s rfl p hp
  by_cases hc0 : 0 ≤ p.2
  · obtain ⟨x, hx1, _⟩ := case_keep ok2 e p.2 p.1 (parts_chr_all e s p hp hc0)
    unfold caseT
    simp only [h, hx1, Option.getD_some]
  · have hc1 : p.2 = -1 := by omega
    unfold caseT
    simp only [hc1, ok1.neg, ok2.neg, chr_none_neg e (-1) (by omega), Option.getD_none]

/-- What the reference does with one character. -/
def condC (e first latin no c : Int) : Bool := (decide (first ≤ c) && decide (c < first + 26)) || (!(e == 0) && (decide (latin ≤ c) && (decide (c ≤ latin + 30) && !(c == no))))
def refT (e first latin no by' : Int) (p : ByteArray × Int) : ByteArray := if condC e first latin no p.2 = true then chrS e (p.2 + by') else p.1
theorem bin_code (s : ByteArray) (p : ByteArray × Int) (hp : p ∈ parts (nxOf 0) s) : p.2 < 128 := by
  by_cases hc0 : 0 ≤ p.2
  · have h := parts_chr_all 0 s p hp hc0
    unfold chrOf at h
    rw [if_neg (by decide)] at h
    by_cases hc : 0 ≤ p.2 ∧ p.2 < limOf 0
    · have : limOf 0 = 128 := rfl
      omega
    · rw [if_neg hc] at h; cases h
  · omega
theorem ref_up (e : Int) (_he : isEnc e = true) (s : ByteArray) (p : ByteArray × Int) (hp : p ∈ parts (nxOf e) s) : refT e 97 224 247 (-32) p = caseT e upC p := by
  have hcode := parts_code e s.size s rfl p hp
  have hb : e = 0 → p.2 < 128 := fun h => by subst h; exact bin_code s p hp
  unfold refT condC caseT upC
  by_cases hq : (97 ≤ p.2 ∧ p.2 ≤ 122) ∨ (224 ≤ p.2 ∧ p.2 ≤ 254 ∧ p.2 ≠ 247)
  · have h2 : ((decide ((97 : Int) ≤ p.2) && decide (p.2 < 97 + 26)) || (!(e == 0) && (decide ((224 : Int) ≤ p.2) && (decide (p.2 ≤ 224 + 30) && !(p.2 == 247))))) = true := by
      simp; omega
    rw [if_pos h2, if_pos hq]
    obtain ⟨x, hx1, _⟩ := case_keep upC_ok e p.2 p.1 (parts_chr_all e s p hp (by omega))
    unfold upC at hx1
    rw [if_pos hq] at hx1
    unfold chrS
    rw [show p.2 + -32 = p.2 - 32 by omega, hx1]
    rfl
  · have h2 : ¬ ((decide ((97 : Int) ≤ p.2) && decide (p.2 < 97 + 26)) || (!(e == 0) && (decide ((224 : Int) ≤ p.2) && (decide (p.2 ≤ 224 + 30) && !(p.2 == 247))))) = true := by
      simp; omega
    rw [if_neg h2, if_neg hq]
    by_cases hc0 : 0 ≤ p.2
    · rw [parts_chr_all e s p hp hc0]; rfl
    · rw [chr_none_neg e p.2 (by omega)]; rfl
theorem ref_lo (e : Int) (_he : isEnc e = true) (s : ByteArray) (p : ByteArray × Int) (hp : p ∈ parts (nxOf e) s) : refT e 65 192 215 32 p = caseT e loC p := by
  have hcode := parts_code e s.size s rfl p hp
  have hb : e = 0 → p.2 < 128 := fun h => by subst h; exact bin_code s p hp
  unfold refT condC caseT loC
  by_cases hq : (65 ≤ p.2 ∧ p.2 ≤ 90) ∨ (192 ≤ p.2 ∧ p.2 ≤ 222 ∧ p.2 ≠ 215)
  · have h2 : ((decide ((65 : Int) ≤ p.2) && decide (p.2 < 65 + 26)) || (!(e == 0) && (decide ((192 : Int) ≤ p.2) && (decide (p.2 ≤ 192 + 30) && !(p.2 == 215))))) = true := by
      simp; omega
    rw [if_pos h2, if_pos hq]
    obtain ⟨x, hx1, _⟩ := case_keep loC_ok e p.2 p.1 (parts_chr_all e s p hp (by omega))
    unfold loC at hx1
    rw [if_pos hq] at hx1
    unfold chrS
    rw [hx1]
    rfl
  · have h2 : ¬ ((decide ((65 : Int) ≤ p.2) && decide (p.2 < 65 + 26)) || (!(e == 0) && (decide ((192 : Int) ≤ p.2) && (decide (p.2 ≤ 192 + 30) && !(p.2 == 215))))) = true := by
      simp; omega
    rw [if_neg h2, if_neg hq]
    by_cases hc0 : 0 ≤ p.2
    · rw [parts_chr_all e s p hp hc0]; rfl
    · rw [chr_none_neg e p.2 (by omega)]; rfl
end Go.Proofs.YtjdnpgknamhnlaaDoor
