/- Contracts of fromNumber and fits, of every letter. -/
import Derived.Test.YtmbnckmhngijdaaGreatDoorK
namespace Go.Proofs.YtmbnckmhngijdaaGreatDoor
open Go Go.RowKit

theorem num_cases {c : UInt8} (h : numC c = true) : c = 67 ∨ c = 99 ∨ c = 83 ∨ c = 115 ∨ c = 76 ∨ c = 108 ∨ c = 81 ∨ c = 113 ∨ c = 110 ∨ c = 78 ∨ c = 119 ∨ c = 85 := by
  have : ∀ n : Fin 256, numC (UInt8.ofNat n.val) = true → (UInt8.ofNat n.val) = 67 ∨ (UInt8.ofNat n.val) = 99 ∨ (UInt8.ofNat n.val) = 83 ∨ (UInt8.ofNat n.val) = 115 ∨ (UInt8.ofNat n.val) = 76 ∨ (UInt8.ofNat n.val) = 108 ∨ (UInt8.ofNat n.val) = 81 ∨ (UInt8.ofNat n.val) = 113 ∨ (UInt8.ofNat n.val) = 110 ∨ (UInt8.ofNat n.val) = 78 ∨ (UInt8.ofNat n.val) = 119 ∨ (UInt8.ofNat n.val) = 85 := by decide +kernel
  have h2 := this ⟨c.toNat, c.toNat_lt⟩
  dsimp only at h2
  rw [UInt8.ofNat_toNat] at h2
  exact h2 h
theorem t124 (c : UInt8) (hc : numC c = true) (nb gr al : Bool) (k n : Int) (w : World) (hn : -9223372036854775808 ≤ n ∧ n ≤ 9223372036854775807) :
    Calls Tryz.prog 124 #[.agg #[.int .u8 c.toNat, .bool nb, .int .i64 (sizeC c), .bool gr, .bool al, .int .i64 k], .int .i64 n] w fun e w' => e = .returned (.bool (fitsC c n)) ∧ Below w.heap.size w w' := by
  rcases num_cases hc with rfl | rfl | rfl | rfl | rfl | rfl | rfl | rfl | rfl | rfl | rfl | rfl
  · exact t124_67 nb gr al k n w hn
  · exact t124_99 nb gr al k n w hn
  · exact t124_83 nb gr al k n w hn
  · exact t124_115 nb gr al k n w hn
  · exact t124_76 nb gr al k n w hn
  · exact t124_108 nb gr al k n w hn
  · exact t124_81 nb gr al k n w hn
  · exact t124_113 nb gr al k n w hn
  · exact t124_110 nb gr al k n w hn
  · exact t124_78 nb gr al k n w hn
  · exact t124_w nb gr al k n w
  · exact t124_u nb gr al k n w
theorem rune_utf (r : Nat) (h : r ≤ 1114111) (h2 : ¬ (55296 ≤ r ∧ r ≤ 57343)) : Lib.runeCells r = c8 (utfL r) := by
  unfold Lib.runeCells utfL
  by_cases h3 : r < 128
  · rw [Lib.encodeRuneZ_one (by omega) (by omega), if_pos h3]
    simp [c8, Nat.mod_eq_of_lt (show r < 256 by omega)]
  · rw [if_neg h3]
    by_cases h4 : r < 2048
    · rw [Lib.encodeRuneZ_two (by omega) (by omega), if_pos h4]
      simp only [c8, List.map_cons, List.map_nil, UInt8.toNat_ofNat']
      rw [show (192 + (r : Int) / 64) = (((192 + r / 64) % 2 ^ 8 : Nat) : Int) by omega, show (128 + (r : Int) % 64) = (((128 + r % 64) % 2 ^ 8 : Nat) : Int) by omega]
    · rw [if_neg h4]
      by_cases h5 : r < 65536
      · rw [Lib.encodeRuneZ_three (by omega), if_pos h5]
        simp only [c8, List.map_cons, List.map_nil, UInt8.toNat_ofNat']
        rw [show (224 + (r : Int) / 4096) = (((224 + r / 4096) % 2 ^ 8 : Nat) : Int) by omega, show (128 + (r : Int) / 64 % 64) = (((128 + r / 64 % 64) % 2 ^ 8 : Nat) : Int) by omega, show (128 + (r : Int) % 64) = (((128 + r % 64) % 2 ^ 8 : Nat) : Int) by omega]
      · rw [Lib.encodeRuneZ_four (by omega) (by omega), if_neg h5]
        simp only [c8, List.map_cons, List.map_nil, UInt8.toNat_ofNat']
        rw [show (240 + (r : Int) / 262144) = (((240 + r / 262144) % 2 ^ 8 : Nat) : Int) by omega, show (128 + (r : Int) / 4096 % 64) = (((128 + r / 4096 % 64) % 2 ^ 8 : Nat) : Int) by omega, show (128 + (r : Int) / 64 % 64) = (((128 + r / 64 % 64) % 2 ^ 8 : Nat) : Int) by omega, show (128 + (r : Int) % 64) = (((128 + r % 64) % 2 ^ 8 : Nat) : Int) by omega]
theorem utfL_pos (r : Nat) : 0 < (utfL r).length ∧ (utfL r).length ≤ 4 := by
  unfold utfL; repeat' split
  all_goals simp
theorem btsR_row {w w1 : World} {B : Nat} {v : Value} {l : List UInt8} (h : w1.ownsRow B 5 1 v l.length (c8 l)) (hl : 0 < l.length) (hb : Below w.heap.size w w1) (hB : w.heap.size ≤ B) : BtsR l w (.returned v) w1 := by
  obtain ⟨g, cap, post, rfl, hg, hblk, _, _⟩ := row_blk h hl
  exact ⟨g, cap, rfl, hblk.rdp, hb, Nat.le_trans hB hg⟩
set_option maxRecDepth 100000 in
set_option maxHeartbeats 1000000 in
theorem t125_u (nb gr al : Bool) (k : Int) (n : Nat) (w : World) (h : n ≤ 1114111) (h2 : ¬ (55296 ≤ n ∧ n ≤ 57343)) :
    Calls Tryz.prog 125 #[.agg #[.int .u8 85, .bool nb, .int .i64 0, .bool gr, .bool al, .int .i64 k], .int .i64 n] w (BtsR (utfL n) w) := by
  have hni : (n : Int) ≤ 1114111 := by omega
  have HR := Lib.hid (rune_utf n h h2)
  have hp := utfL_pos n
  have hb0 := bSelf w (.cells #[.int .u8 85, .bool nb, .int .i64 0, .bool gr, .bool al, .int .i64 k] 81)
  have C := fun W => Tryz.utf8_AppendRune_plain W.heap.size (.slice none 0 0) 0 [] n (by omega) (by omega) W (World.ownsRow_nil W W.heap.size 5 1) (by omega) (Nat.le_refl _)
  have HC := Lib.hid C
  clear C h2
  go_enter Tryz.func125, Tryz.ntmps125
  go_wp2_with fail
  refine (HC.out _).mono ?_
  rintro e w1 ⟨v1, rfl, hown, o1, hgr⟩
  have HOWN := Lib.hid hown
  have HGR := Lib.hid hgr
  clear hown hgr
  generalize w.alloc (.cells #[.int .u8 85, .bool nb, .int .i64 0, .bool gr, .bool al, .int .i64 k] 81) = W at *
  go_wp2
  go_ret
  have hown := HOWN.out
  rw [HR.out, List.nil_append, Nat.zero_add, show (c8 (utfL n)).length = (utfL n).length by simp] at hown
  have hbl : Below W.heap.size W w1 := (bSelf W o1).grown HGR.out (by simp) (fun i hi => by simp [Value.ownBlock] at hi)
  exact btsR_row hown hp.1 (bThen hb0 hbl) hb0.size
set_option maxRecDepth 100000 in
set_option maxHeartbeats 1000000 in
theorem t125_w (nb gr al : Bool) (k : Int) (n : Nat) (w : World) (h : n ≤ 9223372036854775807) :
    Calls Tryz.prog 125 #[.agg #[.int .u8 119, .bool nb, .int .i64 0, .bool gr, .bool al, .int .i64 k], .int .i64 n] w (BtsR (sevL n) w) := by
  have hb0 := bSelf w (.cells #[.int .u8 119, .bool nb, .int .i64 0, .bool gr, .bool al, .int .i64 k] 81)
  have C := fun W => t136 n W h
  have HC := Lib.hid C
  clear C
  go_enter Tryz.func125, Tryz.ntmps125
  go_wp2_with fail
  refine (HC.out _).mono ?_
  rintro e w1 ⟨g, c, rfl, h1, h2, h3⟩
  have H1 := Lib.hid h1
  have H2 := Lib.hid h2
  clear h1 h2
  generalize w.alloc (.cells #[.int .u8 119, .bool nb, .int .i64 0, .bool gr, .bool al, .int .i64 k] 81) = W at *
  go_wp2
  go_ret
  exact ⟨g, c, rfl, H1.out, bThen hb0 H2.out, Nat.le_trans hb0.size h3⟩
end Go.Proofs.YtmbnckmhngijdaaGreatDoor
