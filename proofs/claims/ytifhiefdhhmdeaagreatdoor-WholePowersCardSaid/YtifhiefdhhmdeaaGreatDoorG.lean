/- Contract of overWord. -/
import Derived.Test.YtifhiefdhhmdeaaGreatDoorE
import Derived.Lib.EndianBits
namespace Go.Proofs.YtifhiefdhhmdeaaGreatDoor
open Go Go.RowKit

theorem bits_or_comm (k : IntKind) (x y : Int) : bits .or k x y = bits .or k y x := by
  unfold bits; simp only [BitVec.or_comm]
theorem hi_castB (l x B : Nat) : ((l * B + x : Nat) : Int) = (l : Int) * (B : Int) + x := by rw [Int.natCast_add, Int.natCast_mul]
theorem hi_cast (l x : Nat) : ((l * 4294967296 + x : Nat) : Int) = (l : Int) * 4294967296 + x := hi_castB l x 4294967296
theorem or_hi (x y : Nat) (hx : x < 4294967296) (hy : y < 4294967296) : bits .or .u64 ((x : Int) * 4294967296) y = ((x * 4294967296 + y : Nat) : Int) := by
  rw [bits_or_comm, u64_or32 _ _ (by omega) (by omega) (by omega) (by omega) (by omega)]
  rw [hi_cast]; omega
/-- the quotient of one step is a word -/
theorem word_q {l a d : Nat} (h : l < d) (ha : a < 4294967296) : (l * 4294967296 + a) / d < 4294967296 := by
  rw [Nat.div_lt_iff_lt_mul (by omega)]
  have : (l + 1) * 4294967296 ≤ d * 4294967296 := Nat.mul_le_mul_right _ h
  omega
def OverWordR (A d : Nat) (w : World) (e : Ending) (w' : World) : Prop := ∃ v, e = .returned (.tuple #[v, .int .u32 ((A % d : Nat) : Int)]) ∧ Nt w' v (A / d) ∧ Below w.heap.size w w'

set_option maxRecDepth 100000 in
set_option maxHeartbeats 1000000 in
theorem t144s (p : Option Addr) (ca A d : Nat) (w : World) (hl : Lw A ≤ 1000000) (hd0 : 0 < d) (hd : d < 4294967296) (hA : ∀ (w' : World) (g : Nat), Below w.heap.size w w' → w.heap.size ≤ g → Src w' g p (dgs 4294967296 A)) :
    Calls Tryz.prog 144 #[.slice p (Lw A) ca, .int .u32 d] w (OverWordR A d w) := by
  have HA := Lib.hid hA
  have HAL : Hid ((dgs 4294967296 A).length = Lw A) := rfl
  have HAV : Hid (val 4294967296 (dgs 4294967296 A) = A) := val_dgs (by omega) A
  have hlt : Hid (A < 4294967296 ^ Lw A) := lt_Lw A
  clear hA
  have hdz : ((d : Int) == 0) = false := by simp; omega
  generalize Lw A = x at *
  go_enter Tryz.func144, Tryz.ntmps144
  go_wp2_with (at_make; refine mk32 _ rfl _ _ rfl _ _ x rfl rfl (by omega) (by omega) (by omega) ?_; intro w1 hb1 hbl1)
  go_loopw [8, 7] (fun i l wr => ∃ (k lv : Nat) (ws : List Nat), k ≤ x ∧ i = .int .i64 ((k : Int) - 1) ∧ l = .int .u64 lv ∧ lv < d ∧ Hid (ws.length = x) ∧ Hid (∀ z ∈ ws, z < 4294967296) ∧ Hid (val 4294967296 ((dgs 4294967296 A).drop k) = d * val 4294967296 (ws.drop k) + lv) ∧ Hid (Blk wr w.heap.size 143 (c32 ws)) ∧ Below w.heap.size w wr) (fun i _ _ => (intOf i + 1).toNat)
  case atStart => exact ⟨x, 0, List.replicate x 0, Nat.le_refl _, rfl, rfl, hd0, by show _ = _; simp, by intro z hz; rw [(List.mem_replicate.1 hz).2]; omega, by show _ = _; rw [List.drop_of_length_le (by rw [HAL.out]; omega), List.drop_of_length_le (by simp)]; simp, hb1, hbl1⟩
  case round =>
    obtain ⟨k, lv, ws, hk, rfl, rfl, hlv, hwl, hwd, hwv, hwb, hbl⟩ := hrel
    by_cases h0 : k = 0
    · subst h0
      have hd : d * val 4294967296 ws + lv = A := by have := hwv.out; simp only [List.drop_zero] at this; rw [← this, HAV.out]
      have hq : val 4294967296 ws = A / d := by
        rw [← hd, Nat.mul_add_div hd0, Nat.div_eq_of_lt hlv, Nat.add_zero]
      have hr : A % d = lv := by rw [← hd, Nat.mul_add_mod, Nat.mod_eq_of_lt hlv]
      have hqx : A / d < 4294967296 ^ x := Nat.lt_of_le_of_lt (Nat.div_le_self _ _) hlt.out
      have hpd := pads_eq (b := 4294967296) (by omega) hwd.out hwl.out hq
      have hwb2 := hwb.out
      rw [hpd] at hwb2
      have c := t161f w.heap.size x (A / d) wr (by unfold maxLen; omega) hqx hwb2
      have C := Lib.hid c
      have HN := Lib.hid (nt_pads hwb2 (by unfold maxLen; omega) hqx)
      have HR := Lib.hid hr
      clear hd hq hr hqx hpd hwb2 c
      go_wp2_with (go_at_call 161; (with_reducible refine C.out.mono ?_); rintro e w' ⟨rfl, rfl⟩)
      go_ret2
      refine ⟨_, ?_, HN.out, hbl⟩
      rw [HR.out]; simp
    · obtain ⟨j, rfl⟩ : ∃ j, k = j + 1 := ⟨k - 1, by omega⟩
      have hja : j < (dgs 4294967296 A).length := by rw [HAL.out]; omega
      have hjw : j < ws.length := by rw [hwl.out]; omega
      obtain ⟨ga, rfl, hne, hca⟩ := HA.out wr w.heap.size hbl (Nat.le_refl _) j _ (List.getElem?_eq_getElem hja)
      have hfree : wr.frozen? ⟨w.heap.size, j, none⟩ = false := hwb.out.free _
      have hset : ∀ y : Nat, Blk (wr.setCell ⟨w.heap.size, j, none⟩ (.int .u32 y)) w.heap.size 143 (c32 (ws.set j y)) := fun y => by
        have := hwb.out.set j (.int .u32 y)
        rw [c32, ← List.map_set] at this
        exact this
      have HSET := Lib.hid hset
      have hstep := word_step (b := 4294967296) _ ws j d lv hja hjw hwv.out
      have hXl := dgs32_lt A _ (List.getElem_mem hja)
      generalize (dgs 4294967296 A)[j] = X at hca hstep hXl
      have hq := word_q hlv hXl
      have hor := or_hi lv X (by omega) hXl
      have he : ((lv : Int) * 4294967296 + X) / d = (((lv * 4294967296 + X) / d : Nat) : Int) := by rw [Int.natCast_ediv, hi_cast]
      have hq1 : ((lv : Int) * 4294967296 + X) / d < 4294967296 := by rw [he]; omega
      have hq0 : 0 ≤ ((lv : Int) * 4294967296 + X) / d := by rw [he]; exact Int.natCast_nonneg _
      have HE := Lib.hid he
      clear he
      have HST := Lib.hid hstep
      have hcell : ∃ u, wr.cell? ⟨w.heap.size, j, none⟩ = some u := ⟨_, hwb.out.cell j (c32_get (List.getElem?_eq_getElem hjw))⟩
      obtain ⟨u, hcell⟩ := hcell
      clear hset hstep
      go_wp2
      go_roundw
      case rel => exact ⟨j, (lv * 4294967296 + X) % d, ws.set j ((lv * 4294967296 + X) / d), by omega, rfl, by go_num, Nat.mod_lt _ hd0, by show _ = _; rw [List.length_set]; exact hwl.out, set_lt ws hwd.out _ _ hq, HST.out, by show Blk _ _ _ _; rw [HE.out]; exact HSET.out _, hbl.setCell (Nat.le_refl _) _⟩
      case measure => first | (simp [intOf]; omega) | simp [intOf]
theorem t144 (va : Value) (A d : Nat) (w : World) (hA : Nt w va A) (hl : Lw A ≤ 1000000) (hd0 : 0 < d) (hd : d < 4294967296) :
    Calls Tryz.prog 144 #[va, .int .u32 d] w (OverWordR A d w) := by
  obtain ⟨p, ca, rfl, _, _, h1⟩ := hA.later
  exact t144s p ca A d w hl hd0 hd h1
end Go.Proofs.YtifhiefdhhmdeaaGreatDoor
