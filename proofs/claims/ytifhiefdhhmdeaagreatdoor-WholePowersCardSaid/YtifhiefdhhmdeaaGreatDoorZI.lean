/- Contracts of isBase and Base. -/
import Derived.Test.YtifhiefdhhmdeaaGreatDoorZF
namespace Go.Proofs.YtifhiefdhhmdeaaGreatDoor
open Go Go.RowKit

theorem t68_in (b : Nat) (w : World) (h0 : 2 ≤ b) (h1 : b ≤ 36) : Calls Tryz.prog 68 #[.int .i64 b] w fun e w' => e = .returned (.bool true) ∧ w = w' := by
  have h0i : (2 : Int) ≤ b := by omega
  have h1i : (b : Int) ≤ 36 := by omega
  clear h0 h1
  go_enter Tryz.func68, Tryz.ntmps68
  go_wp2
  go_ret
  exact ⟨rfl, rfl⟩
theorem t68_out (b : Int) (w : World) (h : b < 2 ∨ 36 < b) : Calls Tryz.prog 68 #[.int .i64 b] w fun e w' => e = .returned (.bool false) ∧ w = w' := by
  rcases h with h | h
  · go_enter Tryz.func68, Tryz.ntmps68
    go_wp2
    go_ret
    exact ⟨rfl, rfl⟩
  · have h2 : (2 : Int) ≤ b := by omega
    have h3 : decide (b ≤ 36) = false := by simp; omega
    go_enter Tryz.func68, Tryz.ntmps68
    go_wp2
    go_ret
    exact ⟨rfl, rfl⟩
/-- what Base returns -/
def BaseR (l : List UInt8) (b : Int) (w : World) (e : Ending) (w' : World) : Prop :=
  ((vldL l = false ∨ b < 2 ∨ 36 < b) ∧ e = .returned (.tuple #[.string ⟨#[]⟩, .int .i64 1]) ∧ Below w.heap.size w w') ∨
  (∃ z, IsNum l z ∧ 2 ≤ b ∧ b ≤ 36 ∧ e = .returned (.tuple #[.string ⟨(txtZ b.toNat z).toArray⟩, .int .i64 0]) ∧ Below w.heap.size w w')
set_option maxRecDepth 100000 in
set_option maxHeartbeats 1000000 in
theorem t22 (s : ByteArray) (b : Int) (w : World) : Calls Tryz.prog 22 #[.string s, .int .i64 b] w (BaseR s.data.toList b w) := by
  by_cases hb : 2 ≤ b ∧ b ≤ 36
  · obtain ⟨n, rfl⟩ := Int.eq_ofNat_of_zero_le (show 0 ≤ b by omega)
    have h0 : 2 ≤ n := by omega
    have h1 : n ≤ 36 := by omega
    have HB := Lib.hid hb
    clear hb
    go_enter Tryz.func22, Tryz.ntmps22
    go_wp2_with fail
    refine (t56 s w).mono ?_
    rintro e w1 (⟨hv, rfl, hb1⟩ | ⟨z, v, hz, rfl, hn, hb1⟩)
    · have HV := Lib.hid hv
      have HB1 := Lib.hid (hb1.alloc hb1.size (.cells #[.bool false, .slice none 0 0] 67))
      clear hv hb1
      go_wp2_with fail
      go_ret2
      exact .inl ⟨.inl HV.out, rfl, HB1.out⟩
    · have HZ := Lib.hid hz
      obtain ⟨p1, c1, rfl, -, -, -⟩ := hn.cells
      obtain ⟨c, hc⟩ : ∃ c : Bool, c = decide (z < 0) := ⟨_, rfl⟩
      rw [← hc]
      have hB1 := hb1.alloc hb1.size (.cells #[.bool c, .slice p1 (Lw z.natAbs) c1] 67)
      have cc := t69 z c _ n (w1.alloc (.cells #[.bool c, .slice p1 (Lw z.natAbs) c1] 67)) hc (hn.below ((Below.refl _ _).alloc (Nat.le_refl _) _)) (Nat.le_trans (fits_Lw hz.2) (by omega)) h0 h1
      have C := Lib.hid cc
      have HB1 := Lib.hid hB1
      have D := Lib.hid (fun W => t68_in n W h0 h1)
      clear hz hn hb1 hB1 cc hc h0 h1
      go_wp2_with fail
      refine (D.out _).mono ?_
      rintro e w2 ⟨rfl, rfl⟩
      go_wp2_with fail
      refine C.out.mono ?_
      rintro e w3 ⟨rfl, hb3⟩
      go_wp2_with fail
      go_ret2
      exact .inr ⟨z, HZ.out, HB.out.1, HB.out.2, rfl, HB1.out.trans (hb3.mono HB1.out.size)⟩
  · have hb2 : b < 2 ∨ 36 < b := by omega
    have D := Lib.hid (fun W => t68_out b W hb2)
    have HB2 := Lib.hid hb2
    clear hb hb2
    go_enter Tryz.func22, Tryz.ntmps22
    go_wp2_with fail
    refine (t56 s w).mono ?_
    rintro e w1 (⟨hv, rfl, hb1⟩ | ⟨z, v, hz, rfl, hn, hb1⟩)
    · have HB1 := Lib.hid (hb1.alloc hb1.size (.cells #[.bool false, .slice none 0 0] 67))
      clear hv hb1
      go_wp2_with fail
      go_ret2
      exact .inl ⟨.inr HB2.out, rfl, HB1.out⟩
    · obtain ⟨p1, c1, rfl, -, -, -⟩ := hn.cells
      have HB1 := Lib.hid (hb1.alloc hb1.size (.cells #[.bool (decide (z < 0)), .slice p1 (Lw z.natAbs) c1] 67))
      clear hz hn hb1
      go_wp2_with fail
      refine (D.out _).mono ?_
      rintro e w2 ⟨rfl, rfl⟩
      go_wp2_with fail
      go_ret2
      exact .inl ⟨.inr HB2.out, rfl, HB1.out⟩
end Go.Proofs.YtifhiefdhhmdeaaGreatDoor
