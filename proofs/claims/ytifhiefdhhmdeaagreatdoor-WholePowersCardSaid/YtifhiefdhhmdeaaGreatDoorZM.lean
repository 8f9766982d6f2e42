/- Contracts of sane and long. -/
import Derived.Test.YtifhiefdhhmdeaaGreatDoorZL
import Derived.Test.YtifhiefdhhmdeaaGreatDoorZI
namespace Go.Proofs.YtifhiefdhhmdeaaGreatDoor
open Go Go.RowKit

theorem rat_one {l : List UInt8} {t t' : Int} {m m' : Nat} (h : IsRat l t m) (k : IsRat l t' m') : t = t' ∧ m = m' := by
  rcases h with ⟨h1, h2, h3⟩ | ⟨h1, h2, h3, _⟩ <;> rcases k with ⟨k1, k2, k3⟩ | ⟨k1, k2, k3, _⟩
  · exact ⟨num_one h2 k2, by rw [h3, k3]⟩
  · rw [h1] at k1; cases k1
  · rw [h1] at k1; cases k1
  · exact ⟨num_one h2 k2, Int.ofNat_inj.1 (num_one h3 k3)⟩
theorem num_of {l : List UInt8} {z : Int} (h : txtZ 10 z = l) (hf : fits z) : IsNum l z := ⟨h.symm, hf⟩
theorem sane1 (w : World) : Calls Tryz.prog 36 #[.string ⟨#[45, 55]⟩, .string ⟨#[50]⟩] w fun e w' => e = .returned (.tuple #[.string ⟨#[45, 52]⟩, .string ⟨#[49]⟩, .int .i64 0]) ∧ Below w.heap.size w w' := by
  have n1 : IsNum [45, 55] (-7) := num_of (by decide) (by decide)
  have n2 : IsNum [50] 2 := num_of (by decide) (by decide)
  refine (t36 ⟨#[45, 55]⟩ ⟨#[50]⟩ w).mono ?_
  rintro e w' (⟨hv, -, -⟩ | ⟨x, y, hx, hy, rfl, hb⟩)
  · rcases hv with hv | hv
    · exact absurd n1 (not_num hv _)
    · exact absurd n2 (not_num hv _)
  · obtain rfl := num_one hx n1
    obtain rfl := num_one hy n2
    exact ⟨congrArg Ending.returned (by kernel_rfl), hb⟩
theorem sane2 (w : World) : Calls Tryz.prog 22 #[.string ⟨#[50, 53, 53]⟩, .int .i64 16] w fun e w' => e = .returned (.tuple #[.string ⟨#[102, 102]⟩, .int .i64 0]) ∧ Below w.heap.size w w' := by
  have n1 : IsNum [50, 53, 53] 255 := num_of (by decide) (by decide)
  refine (t22 ⟨#[50, 53, 53]⟩ 16 w).mono ?_
  rintro e w' (⟨hv, -, -⟩ | ⟨x, hx, -, -, rfl, hb⟩)
  · rcases hv with hv | hv | hv
    · exact absurd n1 (not_num hv _)
    · exact absurd hv (by decide)
    · exact absurd hv (by decide)
  · obtain rfl := num_one hx n1
    exact ⟨congrArg Ending.returned (by kernel_rfl), hb⟩
theorem sane3 (m0 : Int) (w : World) (hm : w.cell? ⟨0, 0, none⟩ = some (.int .i64 m0)) : Calls Tryz.prog 43 #[.string ⟨#[50, 47, 51]⟩, .int .i64 2] w fun e w' => e = .returned (.tuple #[.string ⟨#[48, 46, 54, 55]⟩, .int .i64 0]) ∧ Below w.heap.size w w' := by
  have n1 : IsRat [50, 47, 51] 2 3 := .inr ⟨by decide, num_of (by decide) (by decide), num_of (by decide) (by decide), by decide, by decide⟩
  refine (t43 ⟨#[50, 47, 51]⟩ 2 m0 w (by decide) hm).mono ?_
  rintro e w' (⟨hv, -, -⟩ | ⟨t, m, hx, -, -, rfl, hb⟩)
  · rcases hv with hv | hv | hv
    · exact absurd n1 (hv _ _)
    · exact absurd hv (by decide)
    · exact absurd hv (by decide)
  · obtain ⟨rfl, rfl⟩ := rat_one hx n1
    exact ⟨congrArg Ending.returned (by kernel_rfl), hb⟩
set_option maxRecDepth 100000 in
set_option maxHeartbeats 2000000 in
theorem t14 (m0 : Int) (w : World) (hm : w.cell? ⟨0, 0, none⟩ = some (.int .i64 m0)) : Calls Tryz.prog 14 #[] w fun e w' => e = .returned (.bool true) ∧ Below w.heap.size w w' := by
  have HM := Lib.hid hm
  clear hm
  go_enter Tryz.func14, Tryz.ntmps14
  go_wp2_with fail
  refine (sane1 w).mono ?_
  rintro e w1 ⟨rfl, hb1⟩
  go_wp2_with fail
  refine (sane2 w1).mono ?_
  rintro e w2 ⟨rfl, hb2⟩
  have hB2 := bThen hb1 hb2
  go_wp2_with fail
  refine (sane3 m0 w2 (below_cell hB2 HM.out)).mono ?_
  rintro e w3 ⟨rfl, hb3⟩
  have HB3 := Lib.hid (bThen hB2 hb3)
  clear hB2 hb1 hb2 hb3
  go_wp2_with fail
  go_ret
  exact ⟨rfl, HB3.out⟩
end Go.Proofs.YtifhiefdhhmdeaaGreatDoor
