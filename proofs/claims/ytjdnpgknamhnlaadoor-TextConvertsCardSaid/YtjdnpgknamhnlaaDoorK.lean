/- The places of a string's characters. -/
import Derived.Test.YtjdnpgknamhnlaaDoorJ
namespace Go.Proofs.YtjdnpgknamhnlaaDoor
open Go Go.RowKit Go.Shelf

/-- The place at which the k-th character begins. -/
def offN (ps : List (ByteArray × Int)) (k : Nat) : Nat := ((ps.take k).map fun p => p.1.size).sum
theorem offN_zero (ps : List (ByteArray × Int)) : offN ps 0 = 0 := by simp [offN]
theorem offN_cons (p : ByteArray × Int) (ps : List (ByteArray × Int)) (k : Nat) : offN (p :: ps) (k + 1) = p.1.size + offN ps k := by simp [offN]
theorem offN_succ (ps : List (ByteArray × Int)) (k : Nat) (h : k < ps.length) : offN ps (k + 1) = offN ps k + ps[k].1.size := by
  unfold offN
  rw [List.take_succ_eq_append_getElem h, List.map_append, List.sum_append]
  simp
theorem offN_mono (ps : List (ByteArray × Int)) {j k : Nat} (h : j ≤ k) : offN ps j ≤ offN ps k := by
  induction k with
  | zero => rw [show j = 0 by omega]; exact Nat.le_refl _
  | succ k ih =>
    rcases Nat.lt_or_ge j (k + 1) with h1 | h1
    · refine Nat.le_trans (ih (by omega)) ?_
      rcases Nat.lt_or_ge k ps.length with h2 | h2
      · rw [offN_succ ps k h2]; omega
      · unfold offN; rw [List.take_of_length_le h2, List.take_of_length_le (by omega)]; exact Nat.le_refl _
    · rw [show j = k + 1 by omega]; exact Nat.le_refl _
theorem extract_sub (s : ByteArray) (n a b : Nat) : (s.extract n s.size).extract a b = s.extract (n + a) (min (n + b) s.size) := by
  rw [ByteArray.extract_extract]
theorem parts_total {nx : ByteArray → Nat × Int} (h : NxOk nx) : ∀ (n : Nat) (s : ByteArray), s.size = n → offN (parts nx s) (parts nx s).length = s.size := fun n => by
  induction n using Nat.strongRecOn with
  | _ n ih =>
    intro s hs
    by_cases h0 : s.size = 0
    · rw [parts_nil nx s h0, h0]; rfl
    · have h1 := h.lo s (by omega)
      have h2 := h.hi s (by omega)
      rw [parts_cons h s (by omega), List.length_cons, offN_cons, ih (s.extract (nx s).1 s.size).size (by simp; omega) _ rfl]
      simp; omega
theorem parts_le {nx : ByteArray → Nat × Int} (h : NxOk nx) (s : ByteArray) (k : Nat) : offN (parts nx s) k ≤ s.size := by
  rcases Nat.lt_or_ge k (parts nx s).length with h1 | h1
  · have := offN_mono (parts nx s) (Nat.le_of_lt h1)
    rw [parts_total h s.size s rfl] at this; exact this
  · have : offN (parts nx s) k = offN (parts nx s) (parts nx s).length := by
      unfold offN; rw [List.take_of_length_le h1, List.take_of_length_le (Nat.le_refl _)]
    rw [this, parts_total h s.size s rfl]; exact Nat.le_refl _
theorem parts_extract {nx : ByteArray → Nat × Int} (h : NxOk nx) : ∀ (k : Nat) (s : ByteArray) (hk : k < (parts nx s).length), s.extract (offN (parts nx s) k) (offN (parts nx s) (k + 1)) = (parts nx s)[k].1 := fun k => by
  induction k with
  | zero =>
    intro s hk
    have h0 : 0 < s.size := by
      rcases Nat.eq_zero_or_pos s.size with h0 | h0
      · rw [parts_nil nx s h0] at hk; simp at hk
      · exact h0
    have hc := parts_cons h s h0
    have h2 := h.hi s h0
    have hz : (s.extract 0 (nx s).1).size = (nx s).1 := by simp; omega
    simp only [hc, offN_zero, offN_cons, List.getElem_cons_zero]
    rw [Nat.add_zero, hz]
  | succ k ih =>
    intro s hk
    have h0 : 0 < s.size := by
      rcases Nat.eq_zero_or_pos s.size with h0 | h0
      · rw [parts_nil nx s h0] at hk; simp at hk
      · exact h0
    have hc := parts_cons h s h0
    have h2 := h.hi s h0
    have hk' : k < (parts nx (s.extract (nx s).1 s.size)).length := by rw [hc] at hk; simpa using hk
    have hi := ih (s.extract (nx s).1 s.size) hk'
    have hle := parts_le h (s.extract (nx s).1 s.size) (k + 1)
    simp only [hc, offN_cons, List.getElem_cons_succ]
    rw [← hi, extract_sub]
    have hz : (s.extract 0 (nx s).1).size = (nx s).1 := by simp; omega
    have hsz : (s.extract (nx s).1 s.size).size = s.size - (nx s).1 := by simp
    rw [hsz] at hle
    rw [hz, Nat.min_eq_left (by omega)]

theorem offW_eq (ps : List (ByteArray × Int)) (n : Nat) (hn : n ≤ 100000) : ∀ k, k ≤ ps.length → offN ps k ≤ n → offW (ps.take k) = offN ps k := fun k => by
  induction k with
  | zero => intro _ _; simp [offW, offN]
  | succ k ih =>
    intro hk hle
    have hk' : k < ps.length := hk
    have h1 := offN_succ ps k hk'
    obtain ⟨b, hb⟩ : ∃ b, ps[k].1.size = b := ⟨_, rfl⟩
    rw [hb] at h1
    have h2 : offW (ps.take k) = offN ps k := ih (Nat.le_of_lt hk') (Nat.le_trans (by rw [h1]; exact Nat.le_add_right _ _) hle)
    rw [List.take_succ_eq_append_getElem hk', offW_snoc, h2, hb, h1]
    rw [h1] at hle
    clear ih h1 h2 hb
    generalize offN ps k = a at hle ⊢
    rw [IntWalk.wrap64_in _ (by omega)]
    omega

/-- bounds hands back the places. -/
theorem c52' {w0 : World} {nx : ByteArray → Nat × Int} {kn : Nat} {lb : Array Value} (hN : NextOk w0 nx kn lb) (c1 c3 : Value) (s : ByteArray) (hs : s.size ≤ 100000) (w : World) (hb0 : Below w0.heap.size w0 w) (hw0 : w0.heap.size ≤ w.heap.size) :
    Calls Tryd.prog 52 #[.agg #[c1, .func (.func kn) #[] lb, c3], .string s] w fun e W' => ∃ g cap, e = .returned (.slice (some ⟨g, 0, none⟩) ((parts nx s).length + 1) cap) ∧ w.heap.size ≤ g ∧ g < W'.heap.size ∧
      (∀ k, k ≤ (parts nx s).length → W'.cell? ⟨g, k, none⟩ = some (.int .i64 (offN (parts nx s) k))) ∧ Below w.heap.size w W' := by
  refine (c52 hN c1 c3 s hs w hb0 hw0).mono ?_
  rintro e W' ⟨v, rfl, hrow, hb⟩
  obtain ⟨g, cap, rfl⟩ := ownsRow_succ hrow
  refine ⟨g, cap, rfl, ?_, ?_, ?_, hb⟩
  · exact (hrow.lt g rfl).1
  · exact (hrow.lt g rfl).2
  · intro k hk
    rw [hrow.cellAt k (by omega)]
    have hle := parts_le hN.toNxOk s k
    have := offW_eq (parts nx s) s.size hs k hk hle
    simp [offsW, List.getElem?_map, List.getElem?_range (show k < (parts nx s).length + 1 by omega), this]
end Go.Proofs.YtjdnpgknamhnlaaDoor
