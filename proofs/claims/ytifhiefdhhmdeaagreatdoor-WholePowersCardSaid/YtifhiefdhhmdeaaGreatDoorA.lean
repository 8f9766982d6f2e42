/- Contracts of trimmed, comparing and the words' sums. -/
import Derived.Test.YtifhiefdhhmdeaaGreatDoorMm
import Derived.Test.YtifhiefdhhmdeaaGreatDoorProg
import Derived.WalkLawsBesides
import Derived.WalkSpells
import Derived.Outline
import Derived.BigQuiet
import Derived.Deep.QuietTactic
import Derived.IntWalk
namespace Go.Proofs.YtifhiefdhhmdeaaGreatDoor
open Go Go.RowKit

theorem ret_slice {a : Option Addr} {n m c : Nat} (h : n = m) : Ending.returned (.slice a n c) = .returned (.slice a m c) := by rw [h]

set_option maxHeartbeats 400000 in
theorem t161 (g n cap : Nat) (xs : List Nat) (w : World) (hn : xs.length = n) (hc : n ≤ cap) (hm : cap ≤ maxLen) (hd : ∀ d ∈ xs, d < 4294967296) (hr : ∀ (k x : Nat), xs[k]? = some x → w.cell? ⟨g, k, none⟩ = some (.int .u32 x)) :
    Calls Tryz.prog 161 #[.slice (some ⟨g, 0, none⟩) n cap] w fun e w' => e = .returned (.slice (some ⟨g, 0, none⟩) (dgs 4294967296 (val 4294967296 xs)).length cap) ∧ w = w' := by
  unfold maxLen at hm
  have HR := Lib.hid hr
  clear hr
  go_enter Tryz.func161, Tryz.ntmps161
  go_wp2
  go_loop [0] (fun v => ∃ k : Nat, k ≤ n ∧ Hid (val 4294967296 (xs.take k) = val 4294967296 xs) ∧ v = .slice (some ⟨g, 0, none⟩) k cap) (fun v => match v with | .slice _ k _ => k | _ => 0)
  case atStart => exact ⟨n, Nat.le_refl _, by show _ = _; rw [List.take_of_length_le (by omega)], rfl⟩
  case round =>
    obtain ⟨k, hk, hv, rfl⟩ := hrel
    by_cases h0 : k = 0
    · subst h0
      go_wp2
      go_ret
      refine ⟨ret_slice ?_, rfl⟩
      rw [trim_done (by omega) xs hd 0 (by omega) hv.out (.inl rfl)]
      rfl
    · obtain ⟨j, rfl⟩ : ∃ j, k = j + 1 := ⟨k - 1, by omega⟩
      have hj : j < xs.length := by omega
      have hcell := HR.out j xs[j] (List.getElem?_eq_getElem hj)
      have hz : Hid (xs[j] = xs[j]) := rfl
      generalize hx : xs[j] = x at hcell hz
      have HX := Lib.hid hx
      clear hx hn hz
      by_cases hx0 : x = 0
      · subst hx0
        go_wp2
        go_round
        case rel =>
          refine ⟨j, by omega, ?_, rfl⟩
          show _ = _
          rw [← hv.out, val_drop_zero 4294967296 xs j hj HX.out]
        case measure => show j < j + 1; omega
      · go_wp2
        go_ret
        refine ⟨ret_slice ?_, rfl⟩
        rw [trim_done (by omega) xs hd (j + 1) (by omega) hv.out (.inr (by
          have := HX.out
          simp [List.getD_eq_getElem?_getD, List.getElem?_eq_getElem hj, this, hx0]))]
        simp; omega

/-- what trimmed leaves reads as the natural -/
theorem Blk.nt {w : World} {g : Nat} {xs : List Nat} (h : Blk w g 143 (c32 xs)) (hm : xs.length ≤ maxLen) (hd : ∀ d ∈ xs, d < 4294967296) :
    Nt w (.slice (some ⟨g, 0, none⟩) (dgs 4294967296 (val 4294967296 xs)).length xs.length) (val 4294967296 xs) := by
  have hl : (dgs 4294967296 (val 4294967296 xs)).length ≤ xs.length := by
    rw [dgs_length_le (by omega)]; exact val_lt xs hd
  have h1 := h.row (base := 0) (n := (dgs 4294967296 (val 4294967296 xs)).length) (Nat.zero_le _) (by simpa using hl) (by simpa using hm)
  have h2 : (c32 xs).take (dgs 4294967296 (val 4294967296 xs)).length = c32 (dgs 4294967296 (val 4294967296 xs)) := by
    have := dgs_take (b := 4294967296) (by omega) xs hd
    rw [← List.map_take, this]
  rw [h2] at h1
  simpa [Nt] using h1
theorem Blk.dg {w : World} {g : Nat} {xs : List Nat} (h : Blk w g 3 (c64 xs)) (hm : xs.length ≤ maxLen) (hd : ∀ d ∈ xs, d < 10) :
    Dg w (.slice (some ⟨g, 0, none⟩) (dgs 10 (val 10 xs)).length xs.length) (val 10 xs) := by
  have hl : (dgs 10 (val 10 xs)).length ≤ xs.length := by
    rw [dgs_length_le (by omega)]; exact val_lt xs hd
  have h1 := h.row (base := 0) (n := (dgs 10 (val 10 xs)).length) (Nat.zero_le _) (by simpa using hl) (by simpa using hm)
  have h2 : (c64 xs).take (dgs 10 (val 10 xs)).length = c64 (dgs 10 (val 10 xs)) := by
    have := dgs_take (b := 10) (by omega) xs hd
    rw [← List.map_take, this]
  rw [h2] at h1
  simpa [Dg] using h1
end Go.Proofs.YtifhiefdhhmdeaaGreatDoor
