/- The characters of a string, turned round and turned round again. No program here. -/
import Derived.Test.YtjdnpgknamhnlaaDoorW
import Derived.Lib.ValidLaws
import Derived.Lib.TrimUEq
namespace Go.Proofs.YtjdnpgknamhnlaaDoor
open Go Go.RowKit Go.Shelf

/-- Bytes that make a character make it whatever follows. -/
theorem oneN_local (n b0 b1 b2 b3 n' c0 c1 c2 c3 : Nat) (hc : 0 ≤ (oneN n b0 b1 b2 b3).2) (hn : (oneN n b0 b1 b2 b3).1 ≤ n') (h0 : c0 = b0)
    (h1 : 1 < (oneN n b0 b1 b2 b3).1 → c1 = b1) (h2 : 2 < (oneN n b0 b1 b2 b3).1 → c2 = b2) (h3 : 3 < (oneN n b0 b1 b2 b3).1 → c3 = b3) :
    oneN n' c0 c1 c2 c3 = oneN n b0 b1 b2 b3 := by
  subst h0
  revert hc hn h1 h2 h3
  unfold oneN
  by_cases e1 : c0 < 128
  · simp [e1]
  by_cases e2 : c0 < 194
  · simp [e1, e2]
  by_cases e3 : c0 < 224
  · simp only [if_neg e1, if_neg e2, if_pos e3]
    by_cases k1 : 1 < n ∧ okC b1 = true
    · simp only [if_pos k1]
      intro _ hn h1 _ _
      obtain rfl := h1 (by decide)
      rw [if_pos ⟨by omega, k1.2⟩]
    · simp only [if_neg k1]; intro h; omega
  by_cases e4 : c0 < 240
  · simp only [if_neg e1, if_neg e2, if_neg e3, if_pos e4]
    by_cases k1 : 1 < n ∧ ok2 c0 b1 = true
    · simp only [if_pos k1]
      by_cases k2 : 2 < n ∧ okC b2 = true
      · simp only [if_pos k2]
        intro _ hn h1 h2 _
        obtain rfl := h1 (by decide)
        obtain rfl := h2 (by decide)
        rw [if_pos ⟨by omega, k1.2⟩, if_pos ⟨by omega, k2.2⟩]
      · simp only [if_neg k2]; intro h; omega
    · simp only [if_neg k1]; intro h; omega
  by_cases e5 : c0 < 245
  · simp only [if_neg e1, if_neg e2, if_neg e3, if_neg e4, if_pos e5]
    by_cases k1 : 1 < n ∧ ok2 c0 b1 = true
    · simp only [if_pos k1]
      by_cases k2 : 2 < n ∧ okC b2 = true
      · simp only [if_pos k2]
        by_cases k3 : 3 < n ∧ okC b3 = true
        · simp only [if_pos k3]
          intro _ hn h1 h2 h3
          obtain rfl := h1 (by decide)
          obtain rfl := h2 (by decide)
          obtain rfl := h3 (by decide)
          rw [if_pos ⟨by omega, k1.2⟩, if_pos ⟨by omega, k2.2⟩, if_pos ⟨by omega, k3.2⟩]
        · simp only [if_neg k3]; intro h; omega
      · simp only [if_neg k2]; intro h; omega
    · simp only [if_neg k1]; intro h; omega
  · simp [e1, e2, e3, e4, e5]

theorem get!_glue (p t : ByteArray) (i : Nat) (h : i < p.size) : (p ++ t).get! i = p.get! i := by
  have h2 : i < (p ++ t).size := by rw [ByteArray.size_append]; omega
  rw [Utf8W.get!_of_lt p i h, Utf8W.get!_of_lt (p ++ t) i h2]
  exact ByteArray.getElem_append_left h
theorem get!_cut (s : ByteArray) (m i : Nat) (hm : m ≤ s.size) (h : i < m) : (s.extract 0 m).get! i = s.get! i := by
  have h1 : i < (s.extract 0 m).size := by simp; omega
  rw [Utf8W.get!_of_lt _ i h1, Utf8W.get!_of_lt s i (by omega), ByteArray.getElem_extract]
  congr 1
  omega

/-- A character is read alike whatever follows it. -/
def Firm (nx : ByteArray → Nat × Int) (p : ByteArray × Int) : Prop := 1 ≤ p.1.size ∧ ∀ t, nx (p.1 ++ t) = (p.1.size, p.2)
theorem firm_first (e : Int) (s : ByteArray) (hs : 0 < s.size) (hc : e = 2 → 0 ≤ (nxOf e s).2) : Firm (nxOf e) (s.extract 0 (nxOf e s).1, (nxOf e s).2) := by
  have hlo := (nxOf_ok e).lo s hs
  have hhi := (nxOf_ok e).hi s hs
  have hz : (s.extract 0 (nxOf e s).1).size = (nxOf e s).1 := by simp; omega
  refine ⟨by rw [hz]; exact hlo, fun t => ?_⟩
  show nxOf e (s.extract 0 (nxOf e s).1 ++ t) = ((s.extract 0 (nxOf e s).1).size, (nxOf e s).2)
  rw [hz]
  obtain ⟨m, hm⟩ : ∃ m, (nxOf e s).1 = m := ⟨_, rfl⟩
  rw [hm] at hz hlo hhi ⊢
  have hg : ∀ i, i < m → (s.extract 0 m ++ t).get! i = s.get! i := fun i hi => by
    rw [get!_glue _ _ _ (by rw [hz]; exact hi), get!_cut s m i hhi hi]
  by_cases h2 : e = 2
  · have hc' := hc h2
    have hx : ∀ u, nxOf e u = one u := fun u => by unfold nxOf; rw [if_pos h2]
    rw [hx] at hm hc' ⊢
    rw [hx]
    unfold one at hm hc' ⊢
    rw [oneN_local _ _ _ _ _ _ _ _ _ _ hc' (by rw [hm, ByteArray.size_append, hz]; omega) (by rw [hg 0 (by omega)]) (fun h => by rw [hg 1 (by omega)]) (fun h => by rw [hg 2 (by omega)]) (fun h => by rw [hg 3 (by omega)])]
    rw [← hm]
  · have hx : ∀ u, nxOf e u = (1, bcode (limOf e) (u.get! 0)) := fun u => by unfold nxOf; rw [if_neg h2]
    rw [hx] at hm ⊢
    rw [hx, hg 0 (by omega)]
    rw [← hm]
theorem firm_parts (e : Int) : ∀ (n : Nat) (s : ByteArray), s.size = n → (e = 2 → ∀ p ∈ parts (nxOf e) s, 0 ≤ p.2) → ∀ p ∈ parts (nxOf e) s, Firm (nxOf e) p := fun n => by
  induction n using Nat.strongRecOn with
  | _ n ih =>
    intro s hs hv p hp
    by_cases h0 : s.size = 0
    · rw [parts_nil _ s h0] at hp; cases hp
    · have h1 : 0 < s.size := by omega
      have hlo := (nxOf_ok e).lo s h1
      rw [parts_cons (nxOf_ok e) s h1] at hp hv
      rcases List.mem_cons.1 hp with rfl | hp
      · exact firm_first e s h1 (fun h2 => hv h2 _ List.mem_cons_self)
      · exact ih _ (by simp; omega) (s.extract (nxOf e s).1 s.size) rfl (fun h2 q hq => hv h2 q (List.mem_cons_of_mem _ hq)) p hp

def glue (l : List ByteArray) : ByteArray := ⟨(cat l).toArray⟩
theorem glue_cons (a : ByteArray) (l : List ByteArray) : glue (a :: l) = a ++ glue l := by
  have h : (glue (a :: l)).data = (a ++ glue l).data := by simp [glue, cat]
  cases hx : glue (a :: l); cases hy : a ++ glue l
  rw [hx, hy] at h
  simpa using h
theorem parts_glue {nx : ByteArray → Nat × Int} (ok : NxOk nx) : ∀ (l : List (ByteArray × Int)), (∀ p ∈ l, Firm nx p) → parts nx (glue (textsP l)) = l := fun l => by
  induction l with
  | nil => intro _; exact parts_nil _ _ rfl
  | cons p l ih =>
    intro h
    obtain ⟨h1, h2⟩ := h p List.mem_cons_self
    have e1 : glue (textsP (p :: l)) = p.1 ++ glue (textsP l) := by simp [textsP, glue_cons]
    have hz : (p.1 ++ glue (textsP l)).size = p.1.size + (glue (textsP l)).size := ByteArray.size_append
    rw [e1, parts_cons ok _ (by omega), h2, ByteArray.extract_append_eq_left rfl, ByteArray.extract_append_eq_right rfl hz, ih (fun q hq => h q (List.mem_cons_of_mem _ hq))]
theorem glue_parts {nx : ByteArray → Nat × Int} (ok : NxOk nx) (s : ByteArray) : glue (textsP (parts nx s)) = s := by
  have h := cat_parts ok s 0 (parts nx s).length (by omega)
  rw [List.drop_zero, List.take_of_length_le (Nat.le_refl _), Nat.zero_add, offN_zero, parts_total ok s.size s rfl, ByteArray.extract_zero_size] at h
  unfold glue
  rw [h]
/-- A string, its characters in the opposite order. -/
def turn (nx : ByteArray → Nat × Int) (s : ByteArray) : ByteArray := glue (textsP (parts nx s).reverse)
theorem cat_reverse_length (l : List ByteArray) : (cat l.reverse).length = (cat l).length := by
  induction l with
  | nil => rfl
  | cons a l ih =>
    have : cat (a :: l).reverse = cat l.reverse ++ a.data.toList := by simp [cat]
    rw [this, List.length_append, ih]
    simp [cat]; omega
theorem turn_size {nx : ByteArray → Nat × Int} (ok : NxOk nx) (s : ByteArray) : (turn nx s).size = s.size := by
  have h := congrArg ByteArray.size (glue_parts ok s)
  rw [← h]
  have h2 := cat_reverse_length (textsP (parts nx s))
  have h3 : textsP (parts nx s).reverse = (textsP (parts nx s)).reverse := by simp [textsP]
  unfold turn
  rw [h3]
  exact h2
theorem turn_turn (e : Int) (s : ByteArray) (hv : e = 2 → ∀ p ∈ parts (nxOf e) s, 0 ≤ p.2) : turn (nxOf e) (turn (nxOf e) s) = s := by
  have hf := firm_parts e s.size s rfl hv
  show glue (textsP (parts (nxOf e) (turn (nxOf e) s)).reverse) = s
  have h1 : parts (nxOf e) (turn (nxOf e) s) = (parts (nxOf e) s).reverse := parts_glue (nxOf_ok e) _ (fun p hp => hf p (List.mem_reverse.1 hp))
  rw [h1, List.reverse_reverse, glue_parts (nxOf_ok e)]

/-! What ValidString says of the characters. -/
theorem getD_get! (s : ByteArray) (k : Nat) : s.data.toList.getD k 0 = s.get! k := by
  by_cases h : k < s.size
  · rw [Utf8W.get!_of_lt s k h]
    have : k < s.data.toList.length := h
    rw [List.getD_eq_getElem?_getD, List.getElem?_eq_getElem this]; rfl
  · have hz : ¬ k < s.data.size := h
    have e1 : s.data.toList[k]? = none := List.getElem?_eq_none (by simp; omega)
    rw [List.getD_eq_getElem?_getD, e1]
    show 0 = s.data[k]!
    rw [getElem!_neg s.data k hz]; rfl
theorem decodeL_one (s : ByteArray) : Lib.decodeL s.data.toList = Lib.decodeN s.size (s.get! 0).toNat (s.get! 1).toNat (s.get! 2).toNat (s.get! 3).toNat := by
  rw [Lib.decodeL_N, getD_get!, getD_get!, getD_get!, getD_get!]; rfl
theorem drop_cut (s : ByteArray) (m : Nat) : s.data.toList.drop m = (s.extract m s.size).data.toList := by
  rw [ByteArray.data_extract, Array.toList_extract, List.extract_eq_take_drop, List.take_of_length_le]
  rw [List.length_drop]
  exact Nat.le_refl _
theorem valid_parts : ∀ (n : Nat) (s : ByteArray), s.size = n → (Lib.validD s.data.toList = true ↔ ∀ p ∈ parts one s, 0 ≤ p.2) := fun n => by
  have ok : NxOk one := by have := nxOf_ok 2; exact ⟨fun s h => (one_bounds s h).1, fun s h => (one_bounds s h).2.1⟩
  induction n using Nat.strongRecOn with
  | _ n ih =>
    intro s hs
    by_cases h0 : s.size = 0
    · have : s.data.toList = [] := List.eq_nil_of_length_eq_zero h0
      rw [parts_nil _ s h0, this]
      simp [Lib.validD_nil]
    · have h1 : 0 < s.size := by omega
      have hlo := ok.lo s h1
      have hne : s.data.toList ≠ [] := fun h => h0 (by have := congrArg List.length h; simpa using this)
      rw [Lib.validD_step _ hne, decodeL_one, parts_cons ok s h1]
      have b0 := (s.get! 0).toNat_lt
      have b1 := (s.get! 1).toNat_lt
      have b2 := (s.get! 2).toNat_lt
      have b3 := (s.get! 3).toNat_lt
      by_cases hc : 0 ≤ (one s).2
      · have hd := Lib.hid (decode_one s.size _ _ _ _ h1 b0 b1 b2 b3 hc)
        rw [if_neg hd.out.2, hd.out.1.2, drop_cut]
        have := ih _ (by simp; omega) (s.extract (one s).1 s.size) rfl
        show Lib.validD (s.extract (one s).1 s.size).data.toList = true ↔ _
        rw [this]
        constructor
        · intro h p hp
          rcases List.mem_cons.1 hp with rfl | hp
          · exact hc
          · exact h p hp
        · exact fun h p hp => h p (List.mem_cons_of_mem _ hp)
      · have hd := decode_none s.size _ _ _ _ h1 b0 b1 b2 b3 (show (one s).2 < 0 by omega)
        rw [if_pos (by rw [hd.1]; exact ⟨rfl, rfl⟩)]
        constructor
        · intro h; cases h
        · intro h; exact absurd (h _ List.mem_cons_self) hc
theorem vldOf_parts (e : Int) (s : ByteArray) (h : vldOf e s = true) : e = 2 → ∀ p ∈ parts (nxOf e) s, 0 ≤ p.2 := by
  rintro rfl
  exact (valid_parts s.size s rfl).1 h
end Go.Proofs.YtjdnpgknamhnlaaDoor
