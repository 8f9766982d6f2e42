/- Contract of slices.Reverse of bytes. -/
import Derived.Test.YtifhiefdhhmdeaaGreatDoorY
import Derived.Test.YtifhiefdhhmdeaaGreatDoorI
import Derived.Lib.SlBytesConst
namespace Go.Proofs.YtifhiefdhhmdeaaGreatDoor
open Go Go.RowKit

/-- bytes in cells -/
abbrev c8 (l : List UInt8) : List Value := l.map fun c => Value.int .u8 (c.toNat : Int)
/-- from outside in, the first k pairs are exchanged -/
def swp (l : List UInt8) (k i : Nat) : UInt8 := if i < k ∨ l.length < i + 1 + k then l.getD (l.length - 1 - i) 0 else l.getD i 0
def swpL (l : List UInt8) (k : Nat) : List UInt8 := (List.range l.length).map (swp l k)
theorem swpL_length (l : List UInt8) (k : Nat) : (swpL l k).length = l.length := by simp [swpL]
theorem swpL_zero (l : List UInt8) : swpL l 0 = l := by
  apply List.ext_getElem
  · simp [swpL]
  · intro i h1 h2
    simp [swpL, swp, h2]
    intro h; omega
theorem swpL_end (l : List UInt8) (k : Nat) (h : l.length ≤ 2 * k + 1) : swpL l k = l.reverse := by
  apply List.ext_getElem
  · simp [swpL]
  · intro i h1 h2
    simp only [List.length_reverse] at h2
    simp only [swpL, List.getElem_map, List.getElem_range, swp, List.getElem_reverse]
    split
    · simp [List.getD_eq_getElem?_getD, show l.length - 1 - i < l.length by omega]
    · have : i = l.length - 1 - i := by omega
      rw [List.getD_eq_getElem?_getD, List.getElem?_eq_getElem h2, Option.getD_some]
      congr 1
theorem swpL_get (l : List UInt8) (k i : Nat) (hi : i < l.length) : (swpL l k)[i]? = some (swp l k i) := by
  simp [swpL, hi]
theorem swpL_step (l : List UInt8) (k : Nat) (h : 2 * k + 1 < l.length) : ((swpL l k).set k (swp l k (l.length - 1 - k))).set (l.length - 1 - k) (swp l k k) = swpL l (k + 1) := by
  apply List.ext_getElem
  · simp [swpL]
  · intro i h1 h2
    have hi : i < l.length := by simpa [swpL] using h2
    rw [List.getElem_set, List.getElem_set]
    have e : ∀ m, (swpL l m)[i]'(by rw [swpL_length]; exact hi) = swp l m i := fun m => by simp [swpL]
    rw [e, e]
    unfold swp
    split
    · subst i
      rw [if_neg (by omega), if_pos (by omega), show l.length - 1 - (l.length - 1 - k) = k by omega]
    · split
      · subst i
        rw [if_neg (by omega), if_pos (by omega)]
      · by_cases hc : i < k ∨ l.length < i + 1 + k
        · rw [if_pos hc, if_pos (by omega)]
        · rw [if_neg hc, if_neg (by omega)]

def RevR (g : Nat) (l : List UInt8) (post : List Value) (w : World) (e : Ending) (w' : World) : Prop := (∃ v, e = .returned v) ∧ Blk w' g 5 (c8 l.reverse ++ post) ∧ w.grownBy w' (some g)
set_option maxRecDepth 100000 in
set_option maxHeartbeats 2000000 in
theorem t151 (g n cap : Nat) (l : List UInt8) (post : List Value) (w : World) (hn : l.length = n) (hs : n ≤ 1000000000) (hB : Blk w g 5 (c8 l ++ post)) :
    Calls Tryz.prog 151 #[.slice (some ⟨g, 0, none⟩) n cap] w (RevR g l post w) := by
  have HB := Lib.hid hB
  have HN := Lib.hid hn
  have HSL := Lib.hid (fun k => swpL_length l k)
  have H0 := Lib.hid (swpL_zero l)
  clear hB hn
  go_enter Tryz.func151, Tryz.ntmps151
  go_wp2
  go_loopw [2, 3] (fun i j wr => ∃ k : Nat, 2 * k ≤ n + 1 ∧ i = .int .i64 k ∧ j = .int .i64 ((n : Int) - 1 - k) ∧ Hid (Blk wr g 5 (c8 (swpL l k) ++ post)) ∧ w.grownBy wr (some g)) (fun i _ _ => n - (intOf i).toNat)
  case atStart => exact ⟨0, by omega, rfl, congrArg (Value.int .i64) (by omega), by rw [H0.out]; exact HB, grown_refl _ _⟩
  case round =>
    obtain ⟨k, hk, rfl, rfl, hb, hgr⟩ := hrel
    by_cases hlt : 2 * k + 1 < n
    · obtain ⟨j, hj⟩ : ∃ j : Nat, j = n - 1 - k := ⟨_, rfl⟩
      have hji : (n : Int) - 1 - k = j := by omega
      have hjn : (j : Int) < n := by omega
      have hkn : (k : Int) < n := by omega
      have hkj : k < j := by omega
      have HJ := Lib.hid hj
      rw [hji]
      have hck : wr.cell? ⟨g, k, none⟩ = some (.int .u8 ((swp l k k).toNat : Int)) := hb.out.cell k (by rw [List.getElem?_append_left (by rw [List.length_map, HSL.out, HN.out]; omega), List.getElem?_map, swpL_get l k k (by rw [HN.out]; omega)]; rfl)
      have hcj : wr.cell? ⟨g, j, none⟩ = some (.int .u8 ((swp l k j).toNat : Int)) := hb.out.cell j (by rw [List.getElem?_append_left (by rw [List.length_map, HSL.out, HN.out]; omega), List.getElem?_map, swpL_get l k j (by rw [HN.out]; omega)]; rfl)
      have hfk : wr.frozen? ⟨g, k, none⟩ = false := hb.out.free _
      have hfj : wr.frozen? ⟨g, j, none⟩ = false := hb.out.free _
      have hne : k ≠ j := by omega
      have hne2 : j ≠ k := by omega
      have hz0 : (0 : Int) ≤ k := by omega
      have hz1 : (0 : Int) ≤ j := by omega
      have hkj2 : (k : Int) < j := by omega
      clear hji hj hlt hk
      go_wp2
      go_region
      go_wp2
      go_roundw
      case rel =>
        have hblk : Blk ((wr.setCell ⟨g, k, none⟩ (.int .u8 ((swp l k j).toNat : Int))).setCell ⟨g, j, none⟩ (.int .u8 ((swp l k k).toNat : Int))) g 5 (c8 (swpL l (k + 1)) ++ post) := by
          have h1 := (hb.out.set k (.int .u8 ((swp l k j).toNat : Int))).set j (.int .u8 ((swp l k k).toNat : Int))
          rw [List.set_append_left _ _ (by rw [List.length_map, HSL.out, HN.out]; omega), List.set_append_left _ _ (by rw [List.length_set, List.length_map, HSL.out, HN.out]; omega)] at h1
          have h2 := swpL_step l k (by rw [HN.out]; have := HJ.out; omega)
          rw [HN.out, ← HJ.out] at h2
          rw [← h2, c8, List.map_set, List.map_set]
          exact h1
        exact ⟨k + 1, by have := HJ.out; omega, by go_num, congrArg (Value.int .i64) (by have := HJ.out; omega), hblk, grown_trans (grown_set (grown_set hgr _ _) _ _) ⟨rfl, rfl, rfl, Nat.le_refl _, fun _ _ _ => rfl⟩⟩
      case measure => first | (simp [intOf]; omega) | simp [intOf]
    · have hE := swpL_end l k (by rw [HN.out]; omega)
      have hge : (n : Int) - 1 - k ≤ k := by omega
      have HE := Lib.hid hE
      clear hE hlt
      go_wp2
      go_end0
      exact ⟨⟨_, rfl⟩, by rw [← HE.out]; exact hb.out, hgr⟩
end Go.Proofs.YtifhiefdhhmdeaaGreatDoor
