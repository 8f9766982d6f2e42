/- Contract of fromNumber. -/
import Derived.Test.YtmbnckmhngijdaaGreatDoorJ
namespace Go.Proofs.YtmbnckmhngijdaaGreatDoor
open Go Go.RowKit

theorem leL_length : ∀ (k u : Nat), (leL k u).length = k
  | 0, _ => rfl
  | k + 1, u => by simp [leL, leL_length k]
theorem leL_get : ∀ (k u i : Nat), i < k → (leL k u)[i]? = some (UInt8.ofNat (u / 256 ^ i))
  | 0, _, _, h => absurd h (by omega)
  | k + 1, u, 0, _ => by simp [leL]
  | k + 1, u, i + 1, h => by
    rw [leL, List.getElem?_cons_succ, leL_get k (u / 256) i (by omega), Nat.div_div_eq_div_mul, Nat.pow_succ, Nat.mul_comm]
/-- the bytes so far -/
def part (l : List UInt8) (k : Nat) : List UInt8 := l.take k ++ List.replicate (l.length - k) 0
theorem part_zero (l : List UInt8) : part l 0 = List.replicate l.length 0 := by simp [part]
theorem part_end (l : List UInt8) : part l l.length = l := by simp [part]
theorem part_length (l : List UInt8) (k : Nat) (h : k ≤ l.length) : (part l k).length = l.length := by simp [part]; omega
theorem part_step (l : List UInt8) (k : Nat) (h : k < l.length) : (part l k).set k l[k] = part l (k + 1) := by
  apply List.ext_getElem
  · simp [part]; omega
  · intro i h1 h2
    simp only [part, List.getElem_set, List.getElem_append, List.length_take, List.getElem_take, List.getElem_replicate]
    repeat' split
    all_goals first | rfl | (subst_vars; rfl) | omega | (exfalso; omega)
theorem byte_at (n : Int) (j : Nat) (hj : j < 8) : n / 2 ^ (8 * j) % 256 = ((UInt8.ofNat (u64 n / 256 ^ j)).toNat : Int) := by
  rw [UInt8.toNat_ofNat']
  unfold u64
  rcases (by omega : j = 0 ∨ j = 1 ∨ j = 2 ∨ j = 3 ∨ j = 4 ∨ j = 5 ∨ j = 6 ∨ j = 7) with rfl | rfl | rfl | rfl | rfl | rfl | rfl | rfl
  all_goals simp
  all_goals omega
set_option maxRecDepth 100000 in
set_option maxHeartbeats 2000000 in
theorem t125_n (c : UInt8) (nb gr al : Bool) (sz : Nat) (k n : Int) (w : World) (h85 : c ≠ 85) (h119 : c ≠ 119) (hsz : sz ≤ 8) (_hn : -9223372036854775808 ≤ n ∧ n ≤ 9223372036854775807) :
    Calls Tryz.prog 125 #[.agg #[.int .u8 c.toNat, .bool nb, .int .i64 sz, .bool gr, .bool al, .int .i64 k], .int .i64 n] w (BtsR (if gr then (leL sz (u64 n)).reverse else leL sz (u64 n)) w) := by
  obtain ⟨R, hR⟩ : ∃ R, (if gr then (leL sz (u64 n)).reverse else leL sz (u64 n)) = R := ⟨_, rfl⟩
  rw [hR]
  have HR := Lib.hid hR
  clear hR
  have d1 := u8_ne (n := 85) (k := 85) rfl h85
  have d2 := u8_ne (n := 119) (k := 119) rfl h119
  have hk0 := Blk.new w #[.int .u8 c.toNat, .bool nb, .int .i64 sz, .bool gr, .bool al, .int .i64 k] 81
  have hb0 := bSelf w (.cells #[.int .u8 c.toNat, .bool nb, .int .i64 sz, .bool gr, .bool al, .int .i64 k] 81)
  have hs0 : (w.alloc (.cells #[.int .u8 c.toNat, .bool nb, .int .i64 sz, .bool gr, .bool al, .int .i64 k] 81)).heap.size = w.heap.size + 1 := by simp
  have HL := Lib.hid (leL_length sz (u64 n))
  have HGET := Lib.hid (leL_get sz (u64 n))
  clear h85 h119
  go_enter Tryz.func125, Tryz.ntmps125
  go_wp2_with (at_make; refine mk8 _ rfl _ _ rfl _ _ sz rfl rfl rfl rfl (by omega) ?_; intro w1 hb1 hbl1)
  generalize w.alloc (.cells #[.int .u8 c.toNat, .bool nb, .int .i64 sz, .bool gr, .bool al, .int .i64 k] 81) = W at *
  rw [hs0] at hb1
  have HB0 := Lib.hid (hb0.trans (hbl1.mono (by omega)))
  have k1 := Lib.hid (blkDown hk0 hbl1)
  have HS := Lib.hid (show w.heap.size + 1 < w1.heap.size from by have := hb1.out.lt; omega)
  clear hk0 hb0 hs0 hbl1
  go_loopw [25] (fun i wr => ∃ j : Nat, j ≤ sz ∧ i = .int .i64 j ∧ Hid (Blk wr (w.heap.size + 1) 5 (c8 (part (leL sz (u64 n)) j))) ∧ Hid (Below (w.heap.size + 1) w1 wr)) (fun i _ => sz - (intOf i).toNat)
  case atStart => exact ⟨0, by omega, rfl, by show Blk _ _ _ _; rw [part_zero, HL.out]; exact hb1.out, Below.refl _ _⟩
  case round =>
    obtain ⟨j, hj, rfl, hb, hbl⟩ := hrel
    by_cases hlt : j < sz
    · have hlti : (j : Int) < sz := by omega
      have hf := hb.out.free j
      have hcj : wr.cell? ⟨w.heap.size + 1, j, none⟩ = some (.int .u8 (((part (leL sz (u64 n)) j).getD j 0).toNat : Int)) := hb.out.cell j (by
        rw [c8, List.getElem?_map, List.getElem?_eq_getElem (by rw [part_length _ _ (by rw [HL.out]; omega), HL.out]; exact hlt)]
        simp [List.getD_eq_getElem?_getD, part_length, HL.out, hlt, hj])
      have HBY := Lib.hid (byte_at n j (by omega))
      have HJL : Hid (j < (leL sz (u64 n)).length) := by show _ < _; rw [HL.out]; exact hlt
      have hst := part_step (leL sz (u64 n)) j HJL.out
      have hge := List.getElem?_eq_some_iff.1 (HGET.out j hlt)
      obtain ⟨hge1, hge2⟩ := hge
      have HST := Lib.hid hst
      have HGE := Lib.hid hge2
      clear hst hge2
      go_wp2
      go_roundw
      case rel =>
        refine ⟨j + 1, by omega, by go_num, ?_, bSet hbl.out _ _ (Nat.le_refl _) _⟩
        have h1 := hb.out.set j (.int .u8 (n / 2 ^ (8 * j) % 256))
        rw [HBY.out] at h1 ⊢
        show Blk _ _ _ _
        rw [← HST.out, c8, List.map_set, HGE.out]
        exact h1
      case measure => simp [intOf]; omega
    · obtain rfl : j = sz := by omega
      have kd := (k1.out.below hbl.out (Nat.lt_succ_self _))
      have c3 := kd.cell 3 rfl
      have hpe := part_end (leL j (u64 n))
      rw [HL.out] at hpe
      have hb2 := hb.out
      rw [hpe] at hb2
      have HBL := Lib.hid (HB0.out.trans (hbl.out.mono (Nat.le_succ _)))
      have HB2 := Lib.hid hb2
      clear kd hpe hb2 hlt
      cases gr with
      | true =>
        have C := t137 (w.heap.size + 1) j j (leL j (u64 n)) [] wr HL.out (by omega) (by rw [List.append_nil]; exact HB2.out)
        have HC := Lib.hid C
        clear C
        go_wp2_with fail
        refine HC.out.mono ?_
        rintro e w2 ⟨⟨v2, rfl⟩, hb3, hg3⟩
        have HB3 := Lib.hid hb3
        have HG3 := Lib.hid hg3
        clear hb3 hg3
        go_wp2
        go_ret
        have hr : (leL j (u64 n)).reverse = R := HR.out
        have hbl3 : Below w.heap.size w w2 := HBL.out.grown HG3.out HBL.out.size (fun i hi => by cases hi; omega)
        rw [← hr]
        exact ⟨w.heap.size + 1, j, by rw [List.length_reverse, HL.out]; rfl, HB3.out.rdp, hbl3, by omega⟩
      | false =>
        go_wp2
        go_ret
        have hr : leL j (u64 n) = R := HR.out
        rw [← hr]
        exact ⟨w.heap.size + 1, j, by rw [HL.out]; rfl, HB2.out.rd, HBL.out, by omega⟩
end Go.Proofs.YtmbnckmhngijdaaGreatDoor
