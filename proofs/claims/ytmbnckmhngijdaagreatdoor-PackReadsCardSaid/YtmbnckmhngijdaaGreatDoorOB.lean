/- Contracts of the reference's codes and begins. -/
import Derived.Test.YtmbnckmhngijdaaGreatDoorOA
import Derived.Test.YtmbnckmhngijdaaGreatDoorRA
import Derived.WalkLawsBesides
import Derived.Handy
namespace Go.Proofs.YtmbnckmhngijdaaGreatDoor.One1
open Go Go.RowKit Go.Shelf

theorem wb (b : UInt8) : wrap64 (b.toNat : Int) = b.toNat := by
  have := b.toNat_lt; unfold wrap64; omega
def leastN (long : Nat) : Nat := if long = 2 then 128 else if long = 3 then 2048 else 65536
def mulN (bits : Nat) : Nat → Nat
  | 0 => bits
  | d + 1 => mulN (bits * 64) d
def topN (bits : Nat) : Nat → Nat
  | 0 => bits
  | d + 1 => topN (bits * 64 + 63) d
def loN (bits n long : Nat) : Nat := max (mulN bits (long - n)) (leastN long)
def hiN (bits n long : Nat) : Nat := min (topN bits (long - n)) 1114111
def beginsN (bits n long : Nat) : Bool := decide (loN bits n long ≤ hiN bits n long) && !(decide (55296 ≤ loN bits n long) && decide (hiN bits n long ≤ 57343))

theorem tup2 {a b c d : Int} (h1 : a = c) (h2 : b = d) : Ending.returned (.tuple #[.int .i64 a, .int .i64 b]) = Ending.returned (.tuple #[.int .i64 c, .int .i64 d]) := by rw [h1, h2]

set_option maxRecDepth 100000 in
set_option maxHeartbeats 1000000 in
theorem c94_1_2 (bits : Nat) (hb : bits < 32) (w : World) :
    Calls Tryz.prog 98 #[.int .i64 bits, .int .i64 1, .int .i64 2] w fun e w' => e = .returned (.tuple #[.int .i64 (loN bits 1 2), .int .i64 (hiN bits 1 2)]) ∧ Below w.heap.size w w' := by
  go_enter Tryz.func98, Tryz.ntmps98
  go_wp2
  go_rounds 2
  go_ret2
  exact ⟨tup2 (by simp [loN, mulN, leastN]; try omega) (by simp [hiN, topN]; try omega), (Below.refl _ _).alloc (Nat.le_refl _) _⟩

set_option maxRecDepth 100000 in
set_option maxHeartbeats 1000000 in
theorem c94_2_2 (bits : Nat) (hb : bits < 2048) (w : World) :
    Calls Tryz.prog 98 #[.int .i64 bits, .int .i64 2, .int .i64 2] w fun e w' => e = .returned (.tuple #[.int .i64 (loN bits 2 2), .int .i64 (hiN bits 2 2)]) ∧ Below w.heap.size w w' := by
  go_enter Tryz.func98, Tryz.ntmps98
  go_wp2
  go_rounds 1
  go_ret2
  exact ⟨tup2 (by simp [loN, mulN, leastN]; try omega) (by simp [hiN, topN]; try omega), (Below.refl _ _).alloc (Nat.le_refl _) _⟩

set_option maxRecDepth 100000 in
set_option maxHeartbeats 1000000 in
theorem c94_1_3 (bits : Nat) (hb : bits < 32) (w : World) :
    Calls Tryz.prog 98 #[.int .i64 bits, .int .i64 1, .int .i64 3] w fun e w' => e = .returned (.tuple #[.int .i64 (loN bits 1 3), .int .i64 (hiN bits 1 3)]) ∧ Below w.heap.size w w' := by
  go_enter Tryz.func98, Tryz.ntmps98
  go_wp2
  go_rounds 3
  go_ret2
  exact ⟨tup2 (by simp [loN, mulN, leastN]; try omega) (by simp [hiN, topN]; try omega), (Below.refl _ _).alloc (Nat.le_refl _) _⟩

set_option maxRecDepth 100000 in
set_option maxHeartbeats 1000000 in
theorem c94_2_3 (bits : Nat) (hb : bits < 2048) (w : World) :
    Calls Tryz.prog 98 #[.int .i64 bits, .int .i64 2, .int .i64 3] w fun e w' => e = .returned (.tuple #[.int .i64 (loN bits 2 3), .int .i64 (hiN bits 2 3)]) ∧ Below w.heap.size w w' := by
  go_enter Tryz.func98, Tryz.ntmps98
  go_wp2
  go_rounds 2
  go_ret2
  exact ⟨tup2 (by simp [loN, mulN, leastN]; try omega) (by simp [hiN, topN]; try omega), (Below.refl _ _).alloc (Nat.le_refl _) _⟩

set_option maxRecDepth 100000 in
set_option maxHeartbeats 1000000 in
theorem c94_3_3 (bits : Nat) (hb : bits < 131072) (w : World) :
    Calls Tryz.prog 98 #[.int .i64 bits, .int .i64 3, .int .i64 3] w fun e w' => e = .returned (.tuple #[.int .i64 (loN bits 3 3), .int .i64 (hiN bits 3 3)]) ∧ Below w.heap.size w w' := by
  go_enter Tryz.func98, Tryz.ntmps98
  go_wp2
  go_rounds 1
  go_ret2
  exact ⟨tup2 (by simp [loN, mulN, leastN]; try omega) (by simp [hiN, topN]; try omega), (Below.refl _ _).alloc (Nat.le_refl _) _⟩

set_option maxRecDepth 100000 in
set_option maxHeartbeats 1000000 in
theorem c94_1_4 (bits : Nat) (hb : bits < 32) (w : World) :
    Calls Tryz.prog 98 #[.int .i64 bits, .int .i64 1, .int .i64 4] w fun e w' => e = .returned (.tuple #[.int .i64 (loN bits 1 4), .int .i64 (hiN bits 1 4)]) ∧ Below w.heap.size w w' := by
  go_enter Tryz.func98, Tryz.ntmps98
  go_wp2
  go_rounds 4
  go_ret2
  exact ⟨tup2 (by simp [loN, mulN, leastN]; try omega) (by simp [hiN, topN]; try omega), (Below.refl _ _).alloc (Nat.le_refl _) _⟩

set_option maxRecDepth 100000 in
set_option maxHeartbeats 1000000 in
theorem c94_2_4 (bits : Nat) (hb : bits < 2048) (w : World) :
    Calls Tryz.prog 98 #[.int .i64 bits, .int .i64 2, .int .i64 4] w fun e w' => e = .returned (.tuple #[.int .i64 (loN bits 2 4), .int .i64 (hiN bits 2 4)]) ∧ Below w.heap.size w w' := by
  go_enter Tryz.func98, Tryz.ntmps98
  go_wp2
  go_rounds 3
  go_ret2
  exact ⟨tup2 (by simp [loN, mulN, leastN]; try omega) (by simp [hiN, topN]; try omega), (Below.refl _ _).alloc (Nat.le_refl _) _⟩

set_option maxRecDepth 100000 in
set_option maxHeartbeats 1000000 in
theorem c94_3_4 (bits : Nat) (hb : bits < 131072) (w : World) :
    Calls Tryz.prog 98 #[.int .i64 bits, .int .i64 3, .int .i64 4] w fun e w' => e = .returned (.tuple #[.int .i64 (loN bits 3 4), .int .i64 (hiN bits 3 4)]) ∧ Below w.heap.size w w' := by
  go_enter Tryz.func98, Tryz.ntmps98
  go_wp2
  go_rounds 2
  go_ret2
  exact ⟨tup2 (by simp [loN, mulN, leastN]; try omega) (by simp [hiN, topN]; try omega), (Below.refl _ _).alloc (Nat.le_refl _) _⟩

set_option maxRecDepth 100000 in
set_option maxHeartbeats 1000000 in
theorem c94_4_4 (bits : Nat) (hb : bits < 8388608) (w : World) :
    Calls Tryz.prog 98 #[.int .i64 bits, .int .i64 4, .int .i64 4] w fun e w' => e = .returned (.tuple #[.int .i64 (loN bits 4 4), .int .i64 (hiN bits 4 4)]) ∧ Below w.heap.size w w' := by
  go_enter Tryz.func98, Tryz.ntmps98
  go_wp2
  go_rounds 1
  go_ret2
  exact ⟨tup2 (by simp [loN, mulN, leastN]; try omega) (by simp [hiN, topN]; try omega), (Below.refl _ _).alloc (Nat.le_refl _) _⟩

theorem bret2 {a b : Bool} (h : a = b) : Ending.returned (.bool a) = Ending.returned (.bool b) := by rw [h]
set_option maxRecDepth 100000 in
set_option maxHeartbeats 1000000 in
theorem c88_of (bits n long : Nat) (w : World) (c : Calls Tryz.prog 98 #[.int .i64 bits, .int .i64 n, .int .i64 long] w fun e w' => e = .returned (.tuple #[.int .i64 (loN bits n long), .int .i64 (hiN bits n long)]) ∧ Below w.heap.size w w') :
    Calls Tryz.prog 74 #[.int .i64 bits, .int .i64 n, .int .i64 long] w fun e w' => e = .returned (.bool (beginsN bits n long)) ∧ Below w.heap.size w w' := by
  unfold beginsN
  obtain ⟨lo, hlo⟩ : ∃ lo, loN bits n long = lo := ⟨_, rfl⟩
  obtain ⟨hi, hhi⟩ : ∃ hi, hiN bits n long = hi := ⟨_, rfl⟩
  rw [hlo, hhi] at c ⊢
  clear hlo hhi
  by_cases h1 : lo ≤ hi
  · have h1' : (lo : Int) ≤ hi := by omega
    have d1 : decide ((lo : Int) ≤ hi) = true := by simp [h1]
    by_cases h2 : 55296 ≤ lo
    · have h2' : (55296 : Int) ≤ lo := by omega
      have d2 : decide ((55296 : Int) ≤ lo) = true := by simp; omega
      by_cases h3 : hi ≤ 57343
      · have h3' : (hi : Int) ≤ 57343 := by omega
        have d3 : decide ((hi : Int) ≤ 57343) = true := by simp; omega
        go_enter Tryz.func74, Tryz.ntmps74
        go_wp2_with (go_at_call 98; refine c.mono ?_; rintro e w1 ⟨rfl, hb1⟩)
        go_ret
        exact ⟨bret2 (by simp [h1, h2, h3]), hb1⟩
      · have h3' : (57343 : Int) < hi := by omega
        have d3 : decide ((hi : Int) ≤ 57343) = false := by simp; omega
        go_enter Tryz.func74, Tryz.ntmps74
        go_wp2_with (go_at_call 98; refine c.mono ?_; rintro e w1 ⟨rfl, hb1⟩)
        go_ret
        exact ⟨bret2 (by simp [h1, h2, h3]), hb1⟩
    · have h2' : (lo : Int) < 55296 := by omega
      have d2 : decide ((55296 : Int) ≤ lo) = false := by simp; omega
      go_enter Tryz.func74, Tryz.ntmps74
      go_wp2_with (go_at_call 98; refine c.mono ?_; rintro e w1 ⟨rfl, hb1⟩)
      go_ret
      exact ⟨bret2 (by simp [h1, h2]), hb1⟩
  · have h1' : (hi : Int) < lo := by omega
    have d1 : decide ((lo : Int) ≤ hi) = false := by simp; omega
    go_enter Tryz.func74, Tryz.ntmps74
    go_wp2_with (go_at_call 98; refine c.mono ?_; rintro e w1 ⟨rfl, hb1⟩)
    go_ret
    exact ⟨bret2 (by simp [h1]), hb1⟩
def bndN (n : Nat) : Nat := if n = 1 then 32 else if n = 2 then 2048 else if n = 3 then 131072 else 8388608
theorem c88 (bits n long : Nat) (h1 : 1 ≤ n) (h2 : n ≤ long) (h3 : 2 ≤ long) (h4 : long ≤ 4) (hb : bits < bndN n) (w : World) :
    Calls Tryz.prog 74 #[.int .i64 bits, .int .i64 n, .int .i64 long] w fun e w' => e = .returned (.bool (beginsN bits n long)) ∧ Below w.heap.size w w' := by
  refine c88_of bits n long w ?_
  rcases (by omega : (n = 1 ∧ long = 2) ∨ (n = 2 ∧ long = 2) ∨ (n = 1 ∧ long = 3) ∨ (n = 2 ∧ long = 3) ∨ (n = 3 ∧ long = 3) ∨ (n = 1 ∧ long = 4) ∨ (n = 2 ∧ long = 4) ∨ (n = 3 ∧ long = 4) ∨ (n = 4 ∧ long = 4)) with ⟨rfl, rfl⟩ | ⟨rfl, rfl⟩ | ⟨rfl, rfl⟩ | ⟨rfl, rfl⟩ | ⟨rfl, rfl⟩ | ⟨rfl, rfl⟩ | ⟨rfl, rfl⟩ | ⟨rfl, rfl⟩ | ⟨rfl, rfl⟩
  · exact c94_1_2 bits hb w
  · exact c94_2_2 bits hb w
  · exact c94_1_3 bits hb w
  · exact c94_2_3 bits hb w
  · exact c94_3_3 bits hb w
  · exact c94_1_4 bits hb w
  · exact c94_2_4 bits hb w
  · exact c94_3_4 bits hb w
  · exact c94_4_4 bits hb w
end Go.Proofs.YtmbnckmhngijdaaGreatDoor.One1
