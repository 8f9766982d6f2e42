/- Plain mathematics: a round of a long division. -/
import Derived.Test.YtifhiefdhhmdeaaGreatDoorMa
namespace Go.Proofs.YtifhiefdhhmdeaaGreatDoor
/-- the window of a round: what is in it, and what the round leaves -/
theorem longw (B m r j L D : Nat) (hB2 : 2 ≤ B) (hD : D ≤ B ^ (m + 1)) (hD0 : 0 < D) (hj : j ≤ r) (hL : L < D * B ^ (j + 1)) :
    ∃ pre xs post : List Nat, pads B (m + 1 + r + 1) L = pre ++ xs ++ post ∧ pre.length = j ∧ xs.length = m + 2 ∧ (∀ d ∈ xs, d < B) ∧
      (val B xs < D * B ∧ val B xs / D < B) ∧ ∃ L', pre ++ pads B (m + 2) (val B xs % D) ++ post = pads B (m + 1 + r + 1) L' ∧ L' < D * B ^ j ∧ ∀ Q, L + D * (B ^ (j + 1) * Q) = L' + D * (B ^ j * (val B xs / D + B * Q)) := by
  have hB : 0 < B := by omega
  have hlt := pads_lt (b := B) hB (m + 1 + r + 1) L
  have hlen := pads_length B (m + 1 + r + 1) L
  have hLb : L < B ^ (m + 1 + r + 1) := by
    have h1 : D * B ^ (j + 1) ≤ B ^ (m + 1) * B ^ (r + 1) := Nat.mul_le_mul hD (Nat.pow_le_pow_right (by omega) (by omega))
    rw [← Nat.pow_add, show m + 1 + (r + 1) = m + 1 + r + 1 by omega] at h1
    omega
  have hval := val_pads_of_lt (b := B) hB hLb
  generalize pads B (m + 1 + r + 1) L = l at hlt hlen hval
  refine ⟨l.take j, (l.drop j).take (m + 2), (l.drop j).drop (m + 2), by rw [List.append_assoc, List.take_append_drop, List.take_append_drop], by simp; omega, by simp; omega, fun d hd => hlt d (List.mem_of_mem_drop (List.mem_of_mem_take hd)), ?_⟩
  have e1 := val_split B l j
  have e2 := val_split B (l.drop j) (m + 2)
  rw [hval] at e1
  have hxl : ∀ d ∈ (l.drop j).take (m + 2), d < B := fun d hd => hlt d (List.mem_of_mem_drop (List.mem_of_mem_take hd))
  have hpl : val B (l.take j) < B ^ j := val_take_lt hB2 l hlt j
  have hpd : ∀ d ∈ l.take j, d < B := fun d hd => hlt d (List.mem_of_mem_take hd)
  have hqd : ∀ d ∈ (l.drop j).drop (m + 2), d < B := fun d hd => hlt d (List.mem_of_mem_drop (List.mem_of_mem_drop hd))
  have hpn : (l.take j).length = j := by simp; omega
  have hqn : ((l.drop j).drop (m + 2)).length = r - j := by simp; omega
  rw [e2] at e1
  obtain ⟨w1, w2⟩ := window (B := B) hB _ _ _ j (m + 1) D hD (by rw [← e1]; exact hL)
  generalize (l.drop j).drop (m + 2) = post at *
  generalize l.take j = pre at *
  generalize (l.drop j).take (m + 2) = xs at *
  rw [w1] at e1
  refine ⟨⟨w2, ?_⟩, val B pre + B ^ j * (val B xs % D), ?_, ?_, ?_⟩
  · rw [Nat.div_lt_iff_lt_mul hD0, Nat.mul_comm]; exact w2
  · apply pads_eq hB
    · intro d hd
      rcases List.mem_append.1 hd with hd | hd
      · rcases List.mem_append.1 hd with hd | hd
        · exact hpd d hd
        · exact pads_lt hB _ _ d hd
      · exact hqd d hd
    · rw [List.length_append, List.length_append, pads_length, hpn, hqn]; omega
    · have hmod : val B xs % D < B ^ (m + 2) := by
        have h1 := Nat.mod_lt (val B xs) hD0
        have h2 : B ^ (m + 1) ≤ B ^ (m + 2) := Nat.pow_le_pow_right (by omega) (by omega)
        omega
      rw [val_append, val_append, val_pads_of_lt hB hmod, w1, hpn]; simp
  · exact long_bound hB _ _ j D hD0 hpl
  · intro Q
    refine long_step (B := B) (val B pre) (val B xs) j D _ Q ?_
    rw [e1]; simp
theorem start_lt (B A C s m r : Nat) (h1 : A < B ^ (m + 1 + r)) (h2 : B ^ m ≤ C) (hs : 0 < s) : A * s < C * s * B ^ (r + 1) := by
  have h3 : A * s < B ^ (m + 1 + r) * s := Nat.mul_lt_mul_of_pos_right h1 hs
  have h4 : B ^ (m + 1 + r) * s = B ^ m * s * B ^ (r + 1) := by
    rw [show m + 1 + r = m + (r + 1) by omega, Nat.pow_add, Nat.mul_right_comm]
  have h5 : B ^ m * s * B ^ (r + 1) ≤ C * s * B ^ (r + 1) := Nat.mul_le_mul_right _ (Nat.mul_le_mul_right _ h2)
  omega
/-- the relation at a round's end -/
theorem round_val (B D L' j q V : Nat) (ws : List Nat) (hj : j < ws.length) (h : V = L' + D * (B ^ j * (q + B * val B (ws.drop (j + 1))))) : V = L' + D * (B ^ j * val B ((ws.set j q).drop j)) := by
  rw [h, val_drop B (ws.set j q) j (by simpa using hj), List.getElem_set_self, drop_set_succ]
/-- the end of the division -/
theorem div_end (B A C s L : Nat) (ws : List Nat) (hs : 0 < s) (hc : 0 < C) (h : A * s = L + C * s * (B ^ 0 * val B (ws.drop 0))) (hL : L < C * s * B ^ 0) : val B ws = A / C ∧ L = (A % C) * s := by
  rw [Nat.pow_zero, Nat.one_mul, List.drop_zero] at h
  rw [Nat.pow_zero, Nat.mul_one] at hL
  exact long_done A C s (val B ws) L hs hc h hL
end Go.Proofs.YtifhiefdhhmdeaaGreatDoor
