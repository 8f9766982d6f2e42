/- Plain mathematics: the digits of a natural to a base, what they stand for, the algorithms' steps, texts of numbers. -/
namespace Go.Proofs.YtifhiefdhhmdeaaGreatDoor
def val (b : Nat) : List Nat → Nat
  | [] => 0
  | d :: l => d + b * val b l
def dgsF (b : Nat) : Nat → Nat → List Nat
  | 0, _ => []
  | f + 1, N => if N = 0 then [] else N % b :: dgsF b f (N / b)
/-- the digits of N to the base b, the lowest first, without a 0 at the top -/
def dgs (b N : Nat) : List Nat := dgsF b N N

@[simp] theorem val_nil (b : Nat) : val b [] = 0 := rfl
theorem val_cons (b d : Nat) (l : List Nat) : val b (d :: l) = d + b * val b l := rfl
theorem dgsF_fuel {b : Nat} (hb : 2 ≤ b) : ∀ (f g N : Nat), N ≤ f → N ≤ g → dgsF b f N = dgsF b g N
  | 0, 0, _, _, _ => rfl
  | 0, g + 1, N, hf, _ => by simp [dgsF, show N = 0 by omega]
  | f + 1, 0, N, _, hg => by simp [dgsF, show N = 0 by omega]
  | f + 1, g + 1, N, hf, hg => by
    by_cases h0 : N = 0
    · simp [dgsF, h0]
    · have : N / b < N := Nat.div_lt_self (by omega) (by omega)
      simp only [dgsF, h0, if_false]
      rw [dgsF_fuel hb f g _ (by omega) (by omega)]
@[simp] theorem dgs_zero (b : Nat) : dgs b 0 = [] := rfl
theorem dgs_pos {b : Nat} (hb : 2 ≤ b) {N : Nat} (hN : 0 < N) : dgs b N = N % b :: dgs b (N / b) := by
  obtain ⟨n, rfl⟩ : ∃ n, N = n + 1 := ⟨N - 1, by omega⟩
  have : (n + 1) / b < n + 1 := Nat.div_lt_self (by omega) (by omega)
  show dgsF b (n + 1) (n + 1) = _
  simp only [dgsF, show n + 1 ≠ 0 by omega, if_false]
  rw [dgsF_fuel hb n ((n + 1) / b) _ (by omega) (Nat.le_refl _)]
  rfl
theorem dgs_nil_iff {b : Nat} (hb : 2 ≤ b) {N : Nat} : dgs b N = [] ↔ N = 0 := by
  constructor
  · intro h
    by_cases h0 : N = 0
    · exact h0
    · rw [dgs_pos hb (by omega)] at h; cases h
  · rintro rfl; rfl
theorem val_dgs {b : Nat} (hb : 2 ≤ b) (N : Nat) : val b (dgs b N) = N := by
  induction N using Nat.strongRecOn with
  | _ N ih =>
    by_cases h0 : N = 0
    · subst h0; rfl
    · rw [dgs_pos hb (by omega), val_cons, ih _ (Nat.div_lt_self (by omega) (by omega))]
      exact Nat.mod_add_div N b
theorem dgs_inj {b : Nat} (hb : 2 ≤ b) {M N : Nat} (h : dgs b M = dgs b N) : M = N := by
  rw [← val_dgs hb M, h, val_dgs hb]
theorem dgs_lt {b : Nat} (hb : 2 ≤ b) (N : Nat) : ∀ d ∈ dgs b N, d < b := by
  induction N using Nat.strongRecOn with
  | _ N ih =>
    intro d hd
    by_cases h0 : N = 0
    · subst h0; simp at hd
    · rw [dgs_pos hb (by omega)] at hd
      rcases List.mem_cons.1 hd with rfl | hd
      · exact Nat.mod_lt _ (by omega)
      · exact ih _ (Nat.div_lt_self (by omega) (by omega)) d hd
theorem val_append (b : Nat) (l m : List Nat) : val b (l ++ m) = val b l + b ^ l.length * val b m := by
  induction l with
  | nil => simp
  | cons d l ih => rw [List.cons_append, val_cons, ih, val_cons, List.length_cons, Nat.pow_succ]; grind
theorem val_snoc (b : Nat) (l : List Nat) (d : Nat) : val b (l ++ [d]) = val b l + b ^ l.length * d := by
  rw [val_append]; simp [val_cons]
theorem val_lt {b : Nat} (l : List Nat) (h : ∀ d ∈ l, d < b) : val b l < b ^ l.length := by
  induction l with
  | nil => simp
  | cons d l ih =>
    have h1 := ih (fun x hx => h x (by simp [hx]))
    have h2 := h d (by simp)
    rw [val_cons, List.length_cons, Nat.pow_succ, Nat.mul_comm (b ^ l.length) b]
    have : b * (val b l + 1) ≤ b * b ^ l.length := Nat.mul_le_mul_left _ h1
    rw [Nat.mul_add] at this
    omega
/-- digits below the base, the top one not 0, are the digits of what they stand for -/
theorem dgs_val {b : Nat} (hb : 2 ≤ b) (l : List Nat) (h : ∀ d ∈ l, d < b) (ht : ∀ x, l.getLast? = some x → x ≠ 0) : dgs b (val b l) = l := by
  induction l with
  | nil => rfl
  | cons d l ih =>
    have h2 := h d (by simp)
    have h1 := ih (fun x hx => h x (by simp [hx])) (fun x hx => by
      cases l with
      | nil => simp at hx
      | cons y m => exact ht x (by simpa using hx))
    have hpos : 0 < val b (d :: l) := by
      rw [val_cons]
      cases l with
      | nil => have := ht d (by simp); omega
      | cons y m =>
        have : val b (y :: m) ≠ 0 := by
          intro h0; rw [h0] at h1; simp at h1
        have : 1 * 1 ≤ b * val b (y :: m) := Nat.mul_le_mul (by omega) (by omega)
        omega
    rw [dgs_pos hb hpos, val_cons]
    rw [Nat.add_mul_mod_self_left, Nat.mod_eq_of_lt h2, Nat.add_mul_div_left _ _ (by omega : 0 < b), Nat.div_eq_of_lt h2, Nat.zero_add, h1]
/-- zeros at the top say nothing -/
theorem val_drop_zero (b : Nat) (l : List Nat) (k : Nat) (hk : k < l.length) (h0 : l[k] = 0) : val b (l.take (k + 1)) = val b (l.take k) := by
  rw [List.take_succ_eq_append_getElem hk, val_snoc, h0]; simp
theorem getLast_take (l : List Nat) (k : Nat) (hk : k < l.length) : (l.take (k + 1)).getLast? = some l[k] := by
  rw [List.take_succ_eq_append_getElem hk, List.getLast?_concat]
theorem dgs_length_le {b : Nat} (hb : 2 ≤ b) (N n : Nat) : (dgs b N).length ≤ n ↔ N < b ^ n := by
  induction n generalizing N with
  | zero =>
    simp
    constructor
    · intro h; exact (dgs_nil_iff hb).1 h
    · intro h; subst h; rfl
  | succ n ih =>
    by_cases h0 : N = 0
    · subst h0; simp; exact Nat.pow_pos (by omega)
    · rw [dgs_pos hb (by omega), List.length_cons, Nat.add_le_add_iff_right, ih, Nat.pow_succ, Nat.div_lt_iff_lt_mul (by omega)]
theorem lt_pow_dgs {b : Nat} (hb : 2 ≤ b) (N : Nat) : N < b ^ (dgs b N).length := (dgs_length_le hb N _).1 (Nat.le_refl _)
theorem pow_le_of_length {b : Nat} (hb : 2 ≤ b) (N n : Nat) (h : n < (dgs b N).length) : b ^ n ≤ N := by
  rcases Nat.lt_or_ge N (b ^ n) with h1 | h1
  · have := (dgs_length_le hb N n).2 h1; omega
  · exact h1
theorem dgs_length_mono {b : Nat} (hb : 2 ≤ b) {M N : Nat} (h : M ≤ N) : (dgs b M).length ≤ (dgs b N).length :=
  (dgs_length_le hb M _).2 (Nat.lt_of_le_of_lt h (lt_pow_dgs hb N))
theorem dgs_length_ge {b : Nat} (hb : 2 ≤ b) {N n : Nat} (h : b ^ n ≤ N) : n < (dgs b N).length := by
  rcases Nat.lt_or_ge n (dgs b N).length with h1 | h1
  · exact h1
  · have := (dgs_length_le hb N n).1 h1; omega
/-- the top digit is not 0 -/
theorem dgs_last {b : Nat} (hb : 2 ≤ b) {N : Nat} (k : Nat) (hk : (dgs b N).length = k + 1) : (dgs b N)[k]'(by omega) ≠ 0 := by
  intro h0
  have h1 := val_drop_zero b (dgs b N) k (by omega) h0
  rw [List.take_of_length_le (by omega), val_dgs hb] at h1
  have h2 : val b ((dgs b N).take k) < b ^ ((dgs b N).take k).length := val_lt _ (fun d hd => dgs_lt hb N d (List.mem_of_mem_take hd))
  rw [List.length_take, Nat.min_eq_left (by omega), ← h1] at h2
  have := (dgs_length_le hb N k).2 h2
  omega
theorem getD_lt {b : Nat} (hb : 0 < b) (l : List Nat) (h : ∀ d ∈ l, d < b) (k : Nat) : l.getD k 0 < b := by
  rw [List.getD_eq_getElem?_getD]
  cases hk : l[k]? with
  | none => simpa using hb
  | some x => exact h x (List.mem_of_getElem? hk)
theorem val_take_succ (b : Nat) (l : List Nat) (k : Nat) (hk : k < l.length) : val b (l.take (k + 1)) = val b (l.take k) + b ^ k * l[k] := by
  rw [List.take_succ_eq_append_getElem hk, val_snoc, List.length_take, Nat.min_eq_left (by omega)]
/-- with zeros behind: at every place -/
theorem val_take_succD (b : Nat) (l : List Nat) (k : Nat) : val b (l.take (k + 1)) = val b (l.take k) + b ^ k * l.getD k 0 := by
  by_cases hk : k < l.length
  · rw [val_take_succ b l k hk]; simp [List.getD_eq_getElem?_getD, hk]
  · rw [List.take_of_length_le (by omega), List.take_of_length_le (by omega)]; simp [List.getD_eq_getElem?_getD, Nat.not_lt.1 hk]
theorem val_split (b : Nat) (l : List Nat) (k : Nat) : val b l = val b (l.take k) + b ^ k * val b (l.drop k) := by
  by_cases hk : k ≤ l.length
  · conv => lhs; rw [← List.take_append_drop k l]
    rw [val_append, List.length_take, Nat.min_eq_left hk]
  · rw [List.take_of_length_le (by omega), List.drop_of_length_le (by omega)]; simp
theorem val_replicate (b n : Nat) : val b (List.replicate n 0) = 0 := by
  induction n with
  | zero => rfl
  | succ n ih => rw [List.replicate_succ, val_cons, ih]; simp
theorem take_set_succ (l : List Nat) (k x : Nat) (hk : k < l.length) : (l.set k x).take (k + 1) = l.take k ++ [x] := by
  rw [List.take_succ_eq_append_getElem (by simpa using hk), List.take_set_of_le (by omega)]; simp
theorem drop_set_succ (l : List Nat) (k x : Nat) : (l.set k x).drop (k + 1) = l.drop (k + 1) := by
  rw [List.drop_set_of_lt (by omega)]
/-- the digits of a natural say how it compares -/
theorem val_take_lt {b : Nat} (_hb : 2 ≤ b) (l : List Nat) (h : ∀ d ∈ l, d < b) (k : Nat) : val b (l.take k) < b ^ k := by
  have := val_lt (b := b) (l.take k) (fun d hd => h d (List.mem_of_mem_take hd))
  rw [List.length_take] at this
  exact Nat.lt_of_lt_of_le this (Nat.pow_le_pow_right (by omega) (Nat.min_le_left _ _))
theorem val_set (b : Nat) (l : List Nat) (k x : Nat) (hk : k < l.length) : val b (l.set k x) + b ^ k * l[k] = val b l + b ^ k * x := by
  induction l generalizing k with
  | nil => simp at hk
  | cons d l ih =>
    cases k with
    | zero => simp [val_cons]; omega
    | succ k =>
      have := ih k (by simpa using hk)
      simp only [List.set_cons_succ, val_cons, List.getElem_cons_succ, Nat.pow_succ]
      grind
theorem val_drop (b : Nat) (l : List Nat) (k : Nat) (hk : k < l.length) : val b (l.drop k) = l[k] + b * val b (l.drop (k + 1)) := by
  rw [List.drop_eq_getElem_cons hk, val_cons]
theorem set_lt {b : Nat} (l : List Nat) (h : ∀ d ∈ l, d < b) (k x : Nat) (hx : x < b) : ∀ d ∈ l.set k x, d < b := by
  intro d hd
  rcases List.mem_or_eq_of_mem_set hd with h1 | rfl
  · exact h d h1
  · exact hx
/-- trimmed: what is left of digits when zeros at the top are cut off -/
theorem trim_done {b : Nat} (hb : 2 ≤ b) (l : List Nat) (h : ∀ d ∈ l, d < b) (k : Nat) (hk : k ≤ l.length) (hv : val b (l.take k) = val b l) (ht : k = 0 ∨ l.getD (k - 1) 0 ≠ 0) : dgs b (val b l) = l.take k := by
  rw [← hv]
  refine dgs_val hb _ (fun d hd => h d (List.mem_of_mem_take hd)) (fun x hx => ?_)
  rcases ht with rfl | ht
  · simp at hx
  · have h0 : k ≠ 0 := by rintro rfl; simp at hx
    obtain ⟨m, rfl⟩ : ∃ m, k = m + 1 := ⟨k - 1, by omega⟩
    rw [getLast_take l m (by omega)] at hx
    have hx' : l[m] = x := by simpa using hx
    subst hx'
    have hg : l.getD m 0 = l[m] := by simp [List.getD_eq_getElem?_getD, show m < l.length by omega]
    rw [Nat.add_sub_cancel, hg] at ht
    exact ht
theorem dgs_take {b : Nat} (hb : 2 ≤ b) (l : List Nat) (h : ∀ d ∈ l, d < b) : l.take (dgs b (val b l)).length = dgs b (val b l) := by
  suffices H : ∀ n (l : List Nat), l.length = n → (∀ d ∈ l, d < b) → l.take (dgs b (val b l)).length = dgs b (val b l) from H _ l rfl h
  intro n
  induction n with
  | zero => intro l hl _; rw [List.length_eq_zero_iff.1 hl]; rfl
  | succ n ih =>
    intro l hl h
    by_cases h0 : l[n]'(by omega) = 0
    · have h1 := val_drop_zero b l n (by omega) h0
      rw [List.take_of_length_le (by omega)] at h1
      have h2 := ih (l.take n) (by simp; omega) (fun d hd => h d (List.mem_of_mem_take hd))
      rw [← h1] at h2
      have h3 : (dgs b (val b l)).length ≤ n := by
        rw [dgs_length_le hb, h1]
        have := val_lt (b := b) (l.take n) (fun d hd => h d (List.mem_of_mem_take hd))
        rwa [List.length_take, Nat.min_eq_left (by omega)] at this
      rw [List.take_take, Nat.min_eq_left h3] at h2
      exact h2
    · have h1 := dgs_val hb l h (fun x hx => by
        rw [List.getLast?_eq_getElem?, hl, Nat.add_sub_cancel, List.getElem?_eq_getElem (by omega)] at hx
        have : l[n]'(by omega) = x := by simpa using hx
        rw [← this]; exact h0)
      rw [h1, List.take_of_length_le (by omega)]
/-- one step of an addition in place -/
theorem raise_step {b : Nat} (ys bs : List Nat) (i c V : Nat) (hi : i < ys.length)
    (hv : val b ys + c * b ^ i = V + val b (bs.take i)) :
    val b (ys.set i ((ys[i] + bs.getD i 0 + c) % b)) + ((ys[i] + bs.getD i 0 + c) / b) * b ^ (i + 1) = V + val b (bs.take (i + 1)) := by
  have h1 := val_set b ys i ((ys[i] + bs.getD i 0 + c) % b) hi
  have h2 := val_take_succD b bs i
  have h3 := Nat.mod_add_div (ys[i] + bs.getD i 0 + c) b
  rw [h2, Nat.pow_succ]
  generalize (ys[i] + bs.getD i 0 + c) % b = r at *
  generalize (ys[i] + bs.getD i 0 + c) / b = q at *
  generalize hx : ys[i] = x at *
  generalize bs.getD i 0 = d at *
  generalize b ^ i = P at *
  have h4 : P * (r + b * q) = P * (x + d + c) := by rw [h3]
  grind
/-- one step of a subtraction in place: y is the new word, r' the new borrow -/
theorem lower_step {b : Nat} (ys bs : List Nat) (i K r f V y r' : Nat) (hi : i < ys.length)
    (hv : V + (K + r) * b ^ i = val b ys + f * val b (bs.take i))
    (hy : ys[i] + r' * b = y + (K + bs.getD i 0 * f) % b + r) :
    V + ((K + bs.getD i 0 * f) / b + r') * b ^ (i + 1) = val b (ys.set i y) + f * val b (bs.take (i + 1)) := by
  have h1 := val_set b ys i y hi
  have h2 := val_take_succD b bs i
  have h3 := Nat.mod_add_div (K + bs.getD i 0 * f) b
  rw [h2, Nat.pow_succ]
  generalize hm : (K + bs.getD i 0 * f) % b = m at *
  generalize hq : (K + bs.getD i 0 * f) / b = q at *
  generalize hx : ys[i] = x at *
  generalize bs.getD i 0 = d at *
  generalize b ^ i = P at *
  generalize val b ys = A at *
  generalize val b (ys.set i y) = A' at *
  generalize val b (bs.take i) = Bv at *
  have h4 : P * (m + b * q) = P * (K + d * f) := by rw [h3]
  have h5 : P * (x + r' * b) = P * (y + m + r) := by rw [hy]
  clear h3 hy hm hq
  grind
theorem lower_bound {b : Nat} (bs : List Nat) (i K f : Nat) (h : K * b ^ i ≤ f * val b (bs.take i)) :
    ((K + bs.getD i 0 * f) / b) * b ^ (i + 1) ≤ f * val b (bs.take (i + 1)) := by
  have h2 := val_take_succD b bs i
  have h3 := Nat.div_mul_le_self (K + bs.getD i 0 * f) b
  rw [h2, Nat.pow_succ]
  generalize (K + bs.getD i 0 * f) / b = q at *
  have h4 : q * b * b ^ i ≤ (K + bs.getD i 0 * f) * b ^ i := Nat.mul_le_mul_right _ h3
  grind
/-- one step of a row of a product -/
theorem times_step {b : Nat} (ps bs : List Nat) (i j x C V : Nat) (hi : i + j < ps.length)
    (hv : val b ps + C * b ^ (i + j) = V + x * b ^ i * val b (bs.take j)) :
    val b (ps.set (i + j) ((C + (ps[i + j] + x * bs.getD j 0)) % b)) + ((C + (ps[i + j] + x * bs.getD j 0)) / b) * b ^ (i + (j + 1)) = V + x * b ^ i * val b (bs.take (j + 1)) := by
  have h1 := val_set b ps (i + j) ((C + (ps[i + j] + x * bs.getD j 0)) % b) hi
  have h2 := val_take_succD b bs j
  have h3 := Nat.mod_add_div (C + (ps[i + j] + x * bs.getD j 0)) b
  have h6 : b ^ (i + j) = b ^ i * b ^ j := Nat.pow_add b i j
  have h7 : b ^ (i + (j + 1)) = b ^ i * b ^ j * b := by rw [← Nat.add_assoc, Nat.pow_succ, h6]
  rw [h2, h7]
  rw [h6] at h1 hv
  generalize (C + (ps[i + j] + x * bs.getD j 0)) % b = r at *
  generalize (C + (ps[i + j] + x * bs.getD j 0)) / b = q at *
  generalize hy : ps[i + j] = y at *
  generalize bs.getD j 0 = d at *
  generalize b ^ i = P at *
  generalize b ^ j = Q at *
  generalize val b (bs.take j) = Bv at *
  have h4 : P * Q * (r + b * q) = P * Q * (C + (y + x * d)) := by rw [h3]
  grind
/-- one step of a division by one digit -/
theorem word_step {b : Nat} (as ws : List Nat) (i d left : Nat) (hi : i < as.length) (hw : i < ws.length)
    (hv : val b (as.drop (i + 1)) = d * val b (ws.drop (i + 1)) + left) :
    val b (as.drop i) = d * val b ((ws.set i ((left * b + as[i]) / d)).drop i) + (left * b + as[i]) % d := by
  rw [val_drop b as i hi, hv, val_drop b (ws.set i _) i (by simpa using hw), drop_set_succ]
  have h3 := Nat.mod_add_div (left * b + as[i]) d
  rw [List.getElem_set_self]
  generalize (left * b + as[i]) % d = r at *
  generalize (left * b + as[i]) / d = q at *
  grind
theorem cmp_val {b : Nat} (l m : List Nat) (hl : ∀ d ∈ l, d < b) (_hm : ∀ d ∈ m, d < b) (i : Nat) (hi : i < l.length) (hi' : i < m.length) (hd : l.drop (i + 1) = m.drop (i + 1)) (h : l[i] < m[i]) : val b l < val b m := by
  have hb : 0 < b := Nat.lt_of_le_of_lt (Nat.zero_le _) (hl l[i] (List.getElem_mem _))
  rw [val_split b l i, val_split b m i, val_drop b l i hi, val_drop b m i hi', hd]
  have h1 : val b (l.take i) < b ^ i := by
    have := val_lt (b := b) (l.take i) (fun d hd => hl d (List.mem_of_mem_take hd))
    rwa [List.length_take, Nat.min_eq_left (by omega)] at this
  generalize val b (l.take i) = u at *
  generalize val b (m.take i) = v at *
  generalize val b (List.drop (i + 1) m) = z at *
  have h2 : b ^ i * (l[i] + 1 + b * z) ≤ b ^ i * (m[i] + b * z) := Nat.mul_le_mul_left _ (by omega)
  grind
theorem cmp_len {b : Nat} (hb : 2 ≤ b) (M N : Nat) (h : (dgs b M).length < (dgs b N).length) : M < N := by
  rcases Nat.lt_or_ge M N with h1 | h1
  · exact h1
  · have := dgs_length_mono hb h1; omega
/-- the guess by the two top digits is never too low -/
theorem guess_ge {B : Nat} (L D P h l d : Nat) (hd : 0 < d) (hL : L < (h * B + l + 1) * P) (hD : d * P ≤ D) : L / D ≤ (h * B + l) / d := by
  rw [Nat.le_div_iff_mul_le hd]
  have h1 : L / D * D ≤ L := Nat.div_mul_le_self L D
  have h2 : L / D * (d * P) ≤ L / D * D := Nat.mul_le_mul_left _ hD
  have h3 : L / D * d * P < (h * B + l + 1) * P := by rw [Nat.mul_assoc]; omega
  have := Nat.lt_of_mul_lt_mul_right h3
  omega
/-- the window of a long division: what stands above it is 0 -/
theorem window {B : Nat} (hB : 0 < B) (lo win hi i n D : Nat) (hD : D ≤ B ^ n) (h : lo + B ^ i * (win + B ^ (n + 1) * hi) < D * B ^ (i + 1)) : hi = 0 ∧ win < D * B := by
  have hPi : 0 < B ^ i := Nat.pow_pos hB
  have h1 : B ^ i * (win + B ^ (n + 1) * hi) < B ^ i * (D * B) := by
    have hp : B ^ (i + 1) = B ^ i * B := Nat.pow_succ ..
    rw [hp] at h
    have : D * (B ^ i * B) = B ^ i * (D * B) := by grind
    omega
  have h2 := Nat.lt_of_mul_lt_mul_left h1
  have h3 : D * B ≤ B ^ (n + 1) := by rw [Nat.pow_succ]; exact Nat.mul_le_mul_right _ hD
  constructor
  · rcases Nat.eq_zero_or_pos hi with h4 | h4
    · exact h4
    · have : B ^ (n + 1) * 1 ≤ B ^ (n + 1) * hi := Nat.mul_le_mul_left _ h4
      omega
  · omega
theorem long_step {B : Nat} (lo win i D V Q : Nat) (hV : V = lo + B ^ i * win + D * (B ^ (i + 1) * Q)) :
    V = lo + B ^ i * (win % D) + D * (B ^ i * (win / D + B * Q)) := by
  have h3 := Nat.mod_add_div win D
  rw [hV, Nat.pow_succ]
  generalize win % D = r at *
  generalize win / D = q at *
  subst h3
  grind
theorem long_bound {B : Nat} (hB : 0 < B) (lo win i D : Nat) (hD : 0 < D) (hlo : lo < B ^ i) : lo + B ^ i * (win % D) < D * B ^ i := by
  have h1 : win % D + 1 ≤ D := Nat.mod_lt _ hD
  have h2 : (win % D + 1) * B ^ i ≤ D * B ^ i := Nat.mul_le_mul_right _ h1
  have := Nat.pow_pos (n := i) hB
  grind
/-- the end of a long division of multiples -/
theorem long_done (a b s Q L : Nat) (hs : 0 < s) (hb : 0 < b) (hV : a * s = L + b * s * Q) (hL : L < b * s) : Q = a / b ∧ L = (a % b) * s := by
  have h1 : a * s / (b * s) = Q := by
    rw [hV, Nat.add_mul_div_left _ _ (Nat.mul_pos hb hs), Nat.div_eq_of_lt hL, Nat.zero_add]
  have h2 : a * s / (b * s) = a / b := Nat.mul_div_mul_right a b hs
  have h3 : a * s % (b * s) = L := by
    rw [hV, Nat.add_mul_mod_self_left, Nat.mod_eq_of_lt hL]
  have h4 : a * s % (b * s) = (a % b) * s := Nat.mul_mod_mul_right s a b
  exact ⟨by rw [← h1, h2], by rw [← h3, h4]⟩
/-- the greatest number whose square is at most N -/
def IsRoot (N r : Nat) : Prop := r * r ≤ N ∧ N < (r + 1) * (r + 1)
theorem isRoot_unique {N r s : Nat} (h : IsRoot N r) (k : IsRoot N s) : r = s := by
  rcases Nat.lt_trichotomy r s with h1 | h1 | h1
  · have : (r + 1) * (r + 1) ≤ s * s := Nat.mul_le_mul h1 h1
    have := h.2; have := k.1; omega
  · exact h1
  · have : (s + 1) * (s + 1) ≤ r * r := Nat.mul_le_mul h1 h1
    have := k.2; have := h.1; omega
theorem newton_ge (N g : Nat) (hg : 0 < g) : N < ((g + N / g) / 2 + 1) * ((g + N / g) / 2 + 1) := by
  have h1 : N < (N / g + 1) * g := by
    have := Nat.mod_add_div N g
    have := Nat.mod_lt N hg
    have h3 : (N / g + 1) * g = g * (N / g) + g := by grind
    omega
  generalize N / g = q at *
  have h2 : g + q ≤ 2 * ((g + q) / 2) + 1 := by omega
  generalize (g + q) / 2 = m at *
  -- (q + 1) * g ≤ (m + 1)^2 as q + 1 + g ≤ 2 (m + 1)
  have h4 : (q + 1) * g ≤ (m + 1) * (m + 1) := by
    have h5 : q + 1 + g ≤ 2 * (m + 1) := by omega
    rcases Nat.le_total g (m + 1) with hle | hle
    · obtain ⟨t, ht⟩ : ∃ t, m + 1 = g + t := ⟨m + 1 - g, by omega⟩
      have h6 : q + 1 ≤ g + 2 * t := by omega
      have h7 : (q + 1) * g ≤ (g + 2 * t) * g := Nat.mul_le_mul_right _ h6
      rw [ht]
      have : (g + t) * (g + t) = (g + 2 * t) * g + t * t := by grind
      omega
    · obtain ⟨t, ht⟩ : ∃ t, g = m + 1 + t := ⟨g - (m + 1), by omega⟩
      have h6 : q + 1 + t ≤ m + 1 := by omega
      obtain ⟨u, hu⟩ : ∃ u, m + 1 = q + 1 + t + u := ⟨m + 1 - (q + 1 + t), by omega⟩
      have h8 : (q + 1) * g = (q + 1) * (m + 1) + (q + 1) * t := by rw [ht]; grind
      have h9 : (m + 1) * (m + 1) = (q + 1) * (m + 1) + t * (m + 1) + u * (m + 1) := by
        conv => lhs; lhs; rw [hu]
        grind
      have h10 : (q + 1) * t ≤ (m + 1) * t := Nat.mul_le_mul_right _ (by omega)
      have h11 : t * (m + 1) = (m + 1) * t := Nat.mul_comm _ _
      omega
  omega
theorem newton_stop (N g : Nat) (h : g ≤ (g + N / g) / 2) : g * g ≤ N := by
  have h1 : g ≤ N / g := by omega
  have h2 : g * g ≤ N / g * g := Nat.mul_le_mul_right _ h1
  exact Nat.le_trans h2 (Nat.div_mul_le_self N g)
theorem start_ge (N k : Nat) (h : N < 2 ^ k) : N < (2 ^ ((k + 1) / 2) + 1) * (2 ^ ((k + 1) / 2) + 1) := by
  have h1 : 2 ^ k ≤ 2 ^ ((k + 1) / 2 + (k + 1) / 2) := Nat.pow_le_pow_right (by omega) (by omega)
  rw [Nat.pow_add] at h1
  have : 2 ^ ((k + 1) / 2) * 2 ^ ((k + 1) / 2) ≤ (2 ^ ((k + 1) / 2) + 1) * (2 ^ ((k + 1) / 2) + 1) := Nat.mul_le_mul (by omega) (by omega)
  omega
/-- isqrt by its word -/
def isqF : Nat → Nat → Nat
  | 0, _ => 0
  | f + 1, N => if (f + 1) * (f + 1) ≤ N then f + 1 else isqF f N
def isq (N : Nat) : Nat := isqF N N
theorem isqF_spec (N : Nat) : ∀ f, N < (f + 1) * (f + 1) → IsRoot N (isqF f N)
  | 0, h => ⟨by simp [isqF], by simpa [isqF] using h⟩
  | f + 1, h => by
    unfold isqF
    split
    · exact ⟨‹_›, h⟩
    · exact isqF_spec N f (by omega)
theorem isq_spec (N : Nat) : IsRoot N (isq N) := isqF_spec N N (by have : (N + 1) * 1 ≤ (N + 1) * (N + 1) := Nat.mul_le_mul_left _ (by omega); omega)
/-- how many binary digits -/
theorem bits_of {N k t m : Nat} (hlo : t * (2 ^ 32) ^ k ≤ N) (hhi : N < (t + 1) * (2 ^ 32) ^ k) (hm0 : t < 2 ^ m) (hm1 : 2 ^ m ≤ 2 * t) (ht : 0 < t) : (dgs 2 N).length = k * 32 + m := by
  have e : (2 ^ 32) ^ k = 2 ^ (k * 32) := by rw [← Nat.pow_mul, Nat.mul_comm]
  rw [e] at hlo hhi
  have hm : m ≠ 0 := by rintro rfl; omega
  have h1 : (dgs 2 N).length ≤ k * 32 + m := by
    rw [dgs_length_le (by omega)]
    have : (t + 1) * 2 ^ (k * 32) ≤ 2 ^ m * 2 ^ (k * 32) := Nat.mul_le_mul_right _ hm0
    rw [Nat.pow_add, Nat.mul_comm (2 ^ (k * 32))]
    omega
  have h2 : k * 32 + (m - 1) < (dgs 2 N).length := by
    apply dgs_length_ge (by omega)
    have h3 : 2 ^ (m - 1) ≤ t := by
      obtain ⟨j, rfl⟩ : ∃ j, m = j + 1 := ⟨m - 1, by omega⟩
      rw [Nat.pow_succ] at hm1
      simp only [Nat.add_sub_cancel]
      omega
    have : 2 ^ (m - 1) * 2 ^ (k * 32) ≤ t * 2 ^ (k * 32) := Nat.mul_le_mul_right _ h3
    rw [Nat.pow_add, Nat.mul_comm (2 ^ (k * 32))]
    omega
  omega
/-- the digits of all bases -/
def syms : List UInt8 := [48, 49, 50, 51, 52, 53, 54, 55, 56, 57, 97, 98, 99, 100, 101, 102, 103, 104, 105, 106, 107, 108, 109, 110, 111, 112, 113, 114, 115, 116, 117, 118, 119, 120, 121, 122]
def chr (d : Nat) : UInt8 := syms.getD d 0
/-- a natural to a base -/
def txt (b N : Nat) : List UInt8 := if N = 0 then [48] else (dgs b N).reverse.map chr
/-- an integer to a base -/
def txtZ (b : Nat) (z : Int) : List UInt8 := if z < 0 then 45 :: txt b z.natAbs else txt b z.natAbs
/-- what a byte is as a digit -/
def lowC (c : UInt8) : UInt8 := if 65 ≤ c.toNat ∧ c.toNat ≤ 90 then c + 32 else c
def digC (b : Nat) (c : UInt8) : Option Nat := (syms.take b).findIdx? (· == lowC c)
/-- reading digits, a _ between two of them is let -/
def rdU (b : Nat) : List UInt8 → Bool → Nat → Option Nat
  | [], bd, acc => if bd then some acc else none
  | c :: l, bd, acc => if c = 95 ∧ bd = true then rdU b l false acc else
      match digC b c with
      | none => none
      | some d => rdU b l true (acc * b + d)
def rdN (b : Nat) (l : List UInt8) : Option Nat := rdU b l false 0

def isD (c : UInt8) : Bool := decide (48 ≤ c.toNat) && decide (c.toNat ≤ 57)
/-- the bytes behind a sign - -/
def unsign (l : List UInt8) : List UInt8 := match l with | 45 :: m => m | _ => l
def vldL (l : List UInt8) : Bool := decide (unsign l ≠ []) && decide ((unsign l).length ≤ 400) && (unsign l).all isD && (decide ((unsign l).head? ≠ some 48) || decide (l = [48]))
/-- a number: at most 400 digits -/
def fits (z : Int) : Prop := (dgs 10 z.natAbs).length ≤ 400
def IsNum (l : List UInt8) (z : Int) : Prop := l = txtZ 10 z ∧ fits z

theorem chr10 : ∀ d, d < 10 → chr d = UInt8.ofNat (48 + d) := by decide
theorem chr10n : ∀ d, d < 10 → (chr d).toNat = 48 + d := by decide
theorem isD_chr (d : Nat) (h : d < 10) : isD (chr d) = true := by
  have := chr10n d h; unfold isD; simp; omega
theorem syms_get : ∀ d, d < 36 → digC 36 (chr d) = some d ∧ chr d ≠ 95 ∧ chr d ≠ 45 ∧ chr d ≠ 43 := by decide
theorem digC_chr : ∀ b, b < 37 → ∀ d, d < b → digC b (chr d) = some d := by decide
theorem digC_lt {b : Nat} {c : UInt8} {d : Nat} (h : digC b c = some d) : d < b := by
  unfold digC at h
  obtain ⟨h1, _⟩ := List.findIdx?_eq_some_iff_getElem.1 h
  rw [List.length_take] at h1
  omega
theorem rdU_append_digits (b : Nat) (hb : b < 37) (ds : List Nat) (h : ∀ d ∈ ds, d < b) (bd : Bool) (acc : Nat) (hne : ds ≠ [] ∨ bd = true) : rdU b (ds.map chr) bd acc = some (ds.foldl (fun a d => a * b + d) acc) := by
  induction ds generalizing bd acc with
  | nil => rcases hne with h | rfl; exact absurd rfl h; rfl
  | cons d ds ih =>
    have h1 := h d (by simp)
    have h2 := (syms_get d (by omega)).2.1
    simp only [List.map_cons, rdU, h2, false_and, if_false, digC_chr b hb d h1, List.foldl_cons]
    exact ih (fun x hx => h x (by simp [hx])) true _ (.inr rfl)
theorem foldl_val (b : Nat) (ds : List Nat) (acc : Nat) : ds.foldl (fun a d => a * b + d) acc = acc * b ^ ds.length + val b ds.reverse := by
  induction ds generalizing acc with
  | nil => simp
  | cons d ds ih => rw [List.foldl_cons, ih, List.reverse_cons, val_snoc, List.length_reverse, List.length_cons, Nat.pow_succ]; grind
/-- what is written is read -/
theorem rdN_txt (b : Nat) (hb : 2 ≤ b) (hb' : b < 37) (N : Nat) : rdN b (txt b N) = some N := by
  unfold txt rdN
  split
  · subst_vars
    have := rdU_append_digits b hb' [0] (by simp; omega) false 0 (.inl (by simp))
    simpa [show chr 0 = 48 from rfl] using this
  · rename_i h0
    rw [rdU_append_digits b hb' (dgs b N).reverse (fun d hd => dgs_lt hb N d (by simpa using hd)) false 0 (.inl (by rw [ne_eq, List.reverse_eq_nil_iff, dgs_nil_iff hb]; exact h0)), foldl_val]
    simp [val_dgs hb]
theorem txt_ne (b N : Nat) (hb : 2 ≤ b) : txt b N ≠ [] := by
  unfold txt; split
  · simp
  · rename_i h0; simpa [dgs_nil_iff hb] using h0
theorem txt_mem {b N : Nat} (hb : 2 ≤ b) (_hb' : b < 37) {c : UInt8} (h : c ∈ txt b N) : ∃ d, d < b ∧ c = chr d := by
  unfold txt at h
  split at h
  · exact ⟨0, by omega, by simpa [show chr 0 = 48 from rfl] using h⟩
  · obtain ⟨d, hd, rfl⟩ := List.mem_map.1 h
    exact ⟨d, dgs_lt hb N d (by simpa using hd), rfl⟩
theorem txt_sign {b N : Nat} (hb : 2 ≤ b) (hb' : b < 37) {c : UInt8} (h : c ∈ txt b N) : c ≠ 45 ∧ c ≠ 43 ∧ c ≠ 95 := by
  obtain ⟨d, hd, rfl⟩ := txt_mem hb hb' h
  have := syms_get d (by omega)
  exact ⟨this.2.2.1, this.2.2.2, this.2.1⟩
theorem txt_length (b N : Nat) (hb : 2 ≤ b) : (txt b N).length = max 1 (dgs b N).length := by
  unfold txt; split
  · subst_vars; rfl
  · rename_i h0
    have : (dgs b N) ≠ [] := by rw [ne_eq, dgs_nil_iff hb]; exact h0
    have := List.length_pos_iff.2 this
    simp; omega
theorem unsign_of_ne {l : List UInt8} (h : l.head? ≠ some 45) : unsign l = l := by
  cases l with
  | nil => rfl
  | cons c m =>
    unfold unsign
    split
    · rename_i heq; cases heq; simp at h
    · rfl
theorem unsign_txtZ (b : Nat) (hb : 2 ≤ b) (hb' : b < 37) (z : Int) : unsign (txtZ b z) = txt b z.natAbs := by
  unfold txtZ
  split
  · rfl
  · apply unsign_of_ne
    intro h
    exact (txt_sign hb hb' (List.mem_of_head? h)).1 rfl
theorem txt_all (N : Nat) : (txt 10 N).all isD = true := by
  rw [List.all_eq_true]
  intro c hc
  obtain ⟨d, hd, rfl⟩ := txt_mem (by omega) (by omega) hc
  exact isD_chr d hd
theorem txt_head (N : Nat) (h : (txt 10 N).head? = some 48) : N = 0 := by
  unfold txt at h
  split at h
  · assumption
  · rename_i h0
    exfalso
    obtain ⟨k, hk⟩ : ∃ k, (dgs 10 N).length = k + 1 := ⟨(dgs 10 N).length - 1, by
      have : (dgs 10 N) ≠ [] := by rw [ne_eq, dgs_nil_iff (by omega)]; exact h0
      have := List.length_pos_iff.2 this
      omega⟩
    have h1 := dgs_last (b := 10) (by omega) k hk
    rw [List.head?_map, List.head?_reverse, List.getLast?_eq_getElem?, hk, Nat.add_sub_cancel, List.getElem?_eq_getElem (by omega)] at h
    have h2 : chr ((dgs 10 N)[k]'(by omega)) = 48 := by simpa using h
    have h3 := chr10n _ (dgs_lt (b := 10) (by omega) N _ (List.getElem_mem (by omega : k < (dgs 10 N).length)))
    rw [h2] at h3
    simp at h3
    omega
/-- digits without a leading 0 are what is written of what they stand for -/
theorem txt_of_digits (l : List UInt8) (hne : l ≠ []) (hd : l.all isD = true) (h0 : l.head? ≠ some 48 ∨ l = [48]) : ∃ N, l = txt 10 N := by
  rcases h0 with h0 | rfl
  · have hmem : ∀ c ∈ l, 48 ≤ c.toNat ∧ c.toNat ≤ 57 := by
      intro c hc
      have := List.all_eq_true.1 hd c hc
      unfold isD at this
      simpa using this
    have hds : ∀ d ∈ (l.map fun c => c.toNat - 48).reverse, d < 10 := by
      intro d hd
      obtain ⟨c, hc, rfl⟩ := List.mem_map.1 (List.mem_reverse.1 hd)
      have := hmem c hc; omega
    have hl : dgs 10 (val 10 (l.map fun c => c.toNat - 48).reverse) = (l.map fun c => c.toNat - 48).reverse := by
      refine dgs_val (by omega) _ hds (fun x hx => ?_)
      rw [List.getLast?_reverse, List.head?_map] at hx
      cases hc : l.head? with
      | none => rw [hc] at hx; simp at hx
      | some c =>
        rw [hc] at hx h0
        have h1 : c.toNat - 48 = x := by simpa using hx
        have h2 := hmem c (List.mem_of_head? hc)
        intro h3
        apply h0
        have : c.toNat = 48 := by omega
        congr 1
        exact UInt8.toNat_inj.1 this
    refine ⟨val 10 (l.map fun c => c.toNat - 48).reverse, ?_⟩
    unfold txt
    rw [if_neg, hl]
    · rw [List.reverse_reverse, List.map_map]
      have : ∀ c ∈ l, (chr ∘ fun c : UInt8 => c.toNat - 48) c = c := by
        intro c hc
        have h2 := hmem c hc
        have h3 := chr10n (c.toNat - 48) (by omega)
        apply UInt8.toNat_inj.1
        show (chr (c.toNat - 48)).toNat = c.toNat
        omega
      rw [List.map_congr_left this]; simp
    · rw [← dgs_nil_iff (b := 10) (by omega), hl]
      simpa using hne
  · exact ⟨0, rfl⟩
theorem vldL_txtZ (z : Int) (h : fits z) : vldL (txtZ 10 z) = true := by
  unfold vldL
  rw [unsign_txtZ 10 (by omega) (by omega) z, txt_all, txt_length 10 _ (by omega)]
  have h1 : (dgs 10 z.natAbs).length ≤ 400 := h
  have h2 := txt_ne 10 z.natAbs (by omega)
  have h3 : max 1 (dgs 10 z.natAbs).length ≤ 400 := by omega
  simp only [h2, h3, ne_eq, not_false_eq_true, decide_true, Bool.and_self, Bool.true_and, Bool.or_eq_true, decide_eq_true_eq]
  by_cases h4 : (txt 10 z.natAbs).head? = some 48
  · have h5 := txt_head _ h4
    obtain rfl : z = 0 := by omega
    exact .inr rfl
  · exact .inl h4
theorem vldL_num (l : List UInt8) (h : vldL l = true) : ∃ z, IsNum l z := by
  unfold vldL at h
  simp only [Bool.and_eq_true, decide_eq_true_eq, Bool.or_eq_true] at h
  obtain ⟨⟨⟨h1, h2⟩, h3⟩, h4⟩ := h
  have hz : (unsign l).head? ≠ some 48 ∨ unsign l = [48] := by
    rcases h4 with h4 | h4
    · exact .inl h4
    · subst h4; exact .inr rfl
  obtain ⟨N, hN⟩ := txt_of_digits (unsign l) h1 h3 hz
  have hlen : (dgs 10 N).length ≤ 400 := by
    rw [hN, txt_length 10 _ (by omega)] at h2
    omega
  by_cases hs : l.head? = some 45
  · obtain ⟨m, rfl⟩ : ∃ m, l = 45 :: m := by
      cases l with
      | nil => simp at hs
      | cons c m => exact ⟨m, by simp at hs; rw [hs]⟩
    have hm : m = txt 10 N := hN
    have h0 : N ≠ 0 := by
      rintro rfl
      rcases h4 with h4 | h4
      · apply h4; rw [hN]; rfl
      · cases h4
    refine ⟨-(N : Int), ?_, by unfold fits; simpa using hlen⟩
    unfold txtZ
    rw [if_pos (by omega), Int.natAbs_neg, Int.natAbs_natCast, hm]
  · rw [unsign_of_ne hs] at hN
    refine ⟨N, ?_, by unfold fits; simpa using hlen⟩
    unfold txtZ
    rw [if_neg (by omega), Int.natAbs_natCast, hN]
theorem txt_inj {b M N : Nat} (hb : 2 ≤ b) (hb' : b < 37) (h : txt b M = txt b N) : M = N := by
  have h1 := rdN_txt b hb hb' M
  rw [h, rdN_txt b hb hb' N] at h1
  exact (Option.some.inj h1).symm
theorem txtZ_inj {b : Nat} {y z : Int} (hb : 2 ≤ b) (hb' : b < 37) (h : txtZ b y = txtZ b z) : y = z := by
  have h1 := congrArg unsign h
  rw [unsign_txtZ b hb hb', unsign_txtZ b hb hb'] at h1
  have h2 := txt_inj hb hb' h1
  unfold txtZ at h
  by_cases hy : y < 0 <;> by_cases hz : z < 0
  · omega
  · rw [if_pos hy, if_neg hz] at h
    have : (45 : UInt8) ∈ txt b z.natAbs := by rw [← h]; simp
    exact absurd rfl (txt_sign hb hb' this).1
  · rw [if_neg hy, if_pos hz] at h
    have : (45 : UInt8) ∈ txt b y.natAbs := by rw [h]; simp
    exact absurd rfl (txt_sign hb hb' this).1
  · omega
theorem vldL_iff (l : List UInt8) : vldL l = true ↔ ∃ z, IsNum l z :=
  ⟨vldL_num l, fun ⟨z, h, hz⟩ => by rw [h]; exact vldL_txtZ z hz⟩

/-- the n lowest digits -/
def pads (b : Nat) : Nat → Nat → List Nat
  | 0, _ => []
  | n + 1, v => v % b :: pads b n (v / b)
@[simp] theorem pads_length (b n v : Nat) : (pads b n v).length = n := by
  induction n generalizing v with
  | zero => rfl
  | succ n ih => simp [pads, ih]
theorem pads_lt {b : Nat} (hb : 0 < b) (n v : Nat) : ∀ d ∈ pads b n v, d < b := by
  induction n generalizing v with
  | zero => intro d hd; cases hd
  | succ n ih =>
    intro d hd
    rcases List.mem_cons.1 hd with rfl | hd
    · exact Nat.mod_lt _ hb
    · exact ih _ d hd
theorem val_pads {b : Nat} (_hb : 0 < b) (n v : Nat) : val b (pads b n v) = v % b ^ n := by
  induction n generalizing v with
  | zero => simp [pads, Nat.mod_one]
  | succ n ih =>
    simp only [pads, val_cons, ih]
    rw [Nat.pow_succ, Nat.mul_comm (b ^ n) b, Nat.mod_mul]
theorem val_pads_of_lt {b : Nat} (hb : 0 < b) {n v : Nat} (h : v < b ^ n) : val b (pads b n v) = v := by
  rw [val_pads hb, Nat.mod_eq_of_lt h]
theorem pads_val {b : Nat} (hb : 0 < b) (l : List Nat) (h : ∀ d ∈ l, d < b) : pads b l.length (val b l) = l := by
  induction l with
  | nil => rfl
  | cons d l ih =>
    have h2 := h d (by simp)
    rw [List.length_cons, pads, val_cons, Nat.add_mul_mod_self_left, Nat.mod_eq_of_lt h2, Nat.add_mul_div_left _ _ hb, Nat.div_eq_of_lt h2, Nat.zero_add, ih (fun x hx => h x (by simp [hx]))]
theorem val_inj {b : Nat} (hb : 0 < b) {l m : List Nat} (hl : ∀ d ∈ l, d < b) (hm : ∀ d ∈ m, d < b) (hlen : l.length = m.length) (h : val b l = val b m) : l = m := by
  rw [← pads_val hb l hl, h, hlen, pads_val hb m hm]
theorem pads_eq {b : Nat} (hb : 0 < b) {l : List Nat} {n v : Nat} (hl : ∀ d ∈ l, d < b) (hn : l.length = n) (h : val b l = v) : l = pads b n v := by
  subst hn; subst h; exact (pads_val hb l hl).symm
theorem pads_zero (b n : Nat) : pads b n 0 = List.replicate n 0 := by
  induction n with
  | zero => rfl
  | succ n ih => simp [pads, ih, List.replicate_succ]
/-- a sum and its carry -/
theorem carry_out {P X V c : Nat} (hX : X < P) (h : X + c * P = V) (hc : c ≤ 1) (_hV : V < 2 * P) : X = V % P ∧ (c = if P ≤ V then 1 else 0) := by
  have : c = 0 ∨ c = 1 := by omega
  rcases this with rfl | rfl
  · have : V < P := by omega
    rw [Nat.mod_eq_of_lt this, if_neg (by omega)]
    omega
  · have : P ≤ V := by omega
    rw [if_pos this, Nat.mod_eq_sub_mod this, Nat.mod_eq_of_lt (by omega)]
    omega

/-- how many words a natural has -/
def Lw (n : Nat) : Nat := (dgs 4294967296 n).length
theorem Lw_le {n k : Nat} : Lw n ≤ k ↔ n < 4294967296 ^ k := dgs_length_le (by omega) n k
theorem Lw_mono {m n : Nat} (h : m ≤ n) : Lw m ≤ Lw n := dgs_length_mono (by omega) h
theorem lt_Lw (n : Nat) : n < 4294967296 ^ Lw n := Lw_le.1 (Nat.le_refl _)
theorem Lw_mul (m n : Nat) : Lw (m * n) ≤ Lw m + Lw n := by
  rw [Lw_le, Nat.pow_add]
  exact Nat.mul_lt_mul'' (lt_Lw m) (lt_Lw n)
theorem Lw_add (m n : Nat) : Lw (m + n) ≤ max (Lw m) (Lw n) + 1 := by
  rw [Lw_le, Nat.pow_succ]
  have h1 : m < 4294967296 ^ (max (Lw m) (Lw n)) := Lw_le.1 (by omega)
  have h2 : n < 4294967296 ^ (max (Lw m) (Lw n)) := Lw_le.1 (by omega)
  omega
theorem Lw_zero : Lw 0 = 0 := rfl
theorem Lw_pos {n : Nat} (h : 0 < n) : 0 < Lw n := by
  unfold Lw; rw [List.length_pos_iff, ne_eq, dgs_nil_iff (by omega)]; omega
theorem Lw_small {n : Nat} (h : n < 4294967296) : Lw n ≤ 1 := by rw [Lw_le]; simpa using h
end Go.Proofs.YtifhiefdhhmdeaaGreatDoor
