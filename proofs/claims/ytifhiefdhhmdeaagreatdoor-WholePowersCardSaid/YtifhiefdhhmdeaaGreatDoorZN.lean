/- The functions over strings, of two numbers that fit. -/
import Derived.Test.YtifhiefdhhmdeaaGreatDoorZM
import Derived.Test.YtifhiefdhhmdeaaGreatDoorZJ
import Derived.Test.YtifhiefdhhmdeaaGreatDoorZH
namespace Go.Proofs.YtifhiefdhhmdeaaGreatDoor
open Go Go.RowKit

theorem fqr (x y : Int) (hy : y ≠ 0) : fq x y * y + fr x y = x ∧ (0 < y → 0 ≤ fr x y ∧ fr x y < y) ∧ (y < 0 → fr x y ≤ 0 ∧ y < fr x y) := by
  have hd := Nat.mod_add_div x.natAbs y.natAbs
  have hl := Nat.mod_lt x.natAbs (show 0 < y.natAbs by omega)
  unfold fq fr
  generalize x.natAbs / y.natAbs = Q at *
  generalize x.natAbs % y.natAbs = R at *
  have hI : (R : Int) + (y.natAbs : Int) * Q = x.natAbs := by exact_mod_cast hd
  refine ⟨?_, fun h => ?_, fun h => ?_⟩
  · by_cases hx : x < 0 <;> by_cases hyn : y < 0 <;> by_cases hR : R = 0
    · rw [show (y.natAbs : Int) = -y by omega, show (x.natAbs : Int) = -x by omega] at hI
      simp [hx, hyn, hR]
      grind
    · rw [show (y.natAbs : Int) = -y by omega, show (x.natAbs : Int) = -x by omega] at hI
      simp [hx, hyn, hR]
      grind
    · rw [show (y.natAbs : Int) = y by omega, show (x.natAbs : Int) = -x by omega] at hI
      simp [hx, hyn, hR]
      grind
    · rw [show (y.natAbs : Int) = y by omega, show (x.natAbs : Int) = -x by omega] at hI
      simp [hx, hyn, hR]
      grind
    · rw [show (y.natAbs : Int) = -y by omega, show (x.natAbs : Int) = x by omega] at hI
      simp [hx, hyn, hR]
      grind
    · rw [show (y.natAbs : Int) = -y by omega, show (x.natAbs : Int) = x by omega] at hI
      simp [hx, hyn, hR]
      grind
    · rw [show (y.natAbs : Int) = y by omega, show (x.natAbs : Int) = x by omega] at hI
      simp [hx, hyn, hR]
      grind
    · rw [show (y.natAbs : Int) = y by omega, show (x.natAbs : Int) = x by omega] at hI
      simp [hx, hyn, hR]
      grind
  · by_cases hx : x < 0 <;> by_cases hyn : y < 0 <;> by_cases hR : R = 0
    · omega
    · omega
    · rw [show (y.natAbs : Int) = y by omega, show (x.natAbs : Int) = -x by omega] at hI
      simp [hx, hyn, hR]
      try omega
    · rw [show (y.natAbs : Int) = y by omega, show (x.natAbs : Int) = -x by omega] at hI
      simp [hx, hyn, hR]
      try omega
    · omega
    · omega
    · rw [show (y.natAbs : Int) = y by omega, show (x.natAbs : Int) = x by omega] at hI
      simp [hx, hyn, hR]
      try omega
    · rw [show (y.natAbs : Int) = y by omega, show (x.natAbs : Int) = x by omega] at hI
      simp [hx, hyn, hR]
      try omega
  · by_cases hx : x < 0 <;> by_cases hyn : y < 0 <;> by_cases hR : R = 0
    · rw [show (y.natAbs : Int) = -y by omega, show (x.natAbs : Int) = -x by omega] at hI
      simp [hx, hyn, hR]
      try omega
    · rw [show (y.natAbs : Int) = -y by omega, show (x.natAbs : Int) = -x by omega] at hI
      simp [hx, hyn, hR]
      try omega
    · omega
    · omega
    · rw [show (y.natAbs : Int) = -y by omega, show (x.natAbs : Int) = x by omega] at hI
      simp [hx, hyn, hR]
      try omega
    · rw [show (y.natAbs : Int) = -y by omega, show (x.natAbs : Int) = x by omega] at hI
      simp [hx, hyn, hR]
      try omega
    · omega
    · omega

/-- at most so many decimal digits -/
def Dl (z : Int) (n : Nat) : Prop := (dgs 10 z.natAbs).length ≤ n
theorem Dl_iff {z : Int} {n : Nat} : Dl z n ↔ z.natAbs < 10 ^ n := dgs_length_le (by omega) _ _
theorem Dl.le {z : Int} {m n : Nat} (h : Dl z m) (k : m ≤ n) : Dl z n := Nat.le_trans h k
theorem Dl.fits {z : Int} {m : Nat} (h : Dl z m) (k : m ≤ 400) : fits z := Nat.le_trans h k
theorem Dl_mul {x y : Int} {m n : Nat} (hx : Dl x m) (hy : Dl y n) : Dl (x * y) (m + n) := by
  rw [Dl_iff] at *
  rw [Int.natAbs_mul, Nat.pow_add]
  exact Nat.mul_lt_mul'' hx hy
theorem Dl_abs {x y : Int} {n : Nat} (h : x.natAbs ≤ y.natAbs) (hy : Dl y n) : Dl x n := by
  rw [Dl_iff] at *; omega
theorem Dl_sum {x y z : Int} {n : Nat} (hx : Dl x n) (hy : Dl y n) (h : z.natAbs ≤ x.natAbs + y.natAbs) : Dl z (n + 1) := by
  rw [Dl_iff] at *
  rw [Nat.pow_succ]; omega
theorem Dl_add {x y : Int} {n : Nat} (hx : Dl x n) (hy : Dl y n) : Dl (x + y) (n + 1) := Dl_sum hx hy (by omega)
theorem Dl_sub {x y : Int} {n : Nat} (hx : Dl x n) (hy : Dl y n) : Dl (x - y) (n + 1) := Dl_sum hx hy (by omega)

/-- a number as a string -/
def numS (z : Int) : ByteArray := ⟨(txtZ 10 z).toArray⟩
theorem num_numS {z : Int} (h : fits z) : IsNum (numS z).data.toList z := ⟨by simp [numS], h⟩
theorem numS_inj {x y : Int} (h : numS x = numS y) : x = y := by
  have h1 := congrArg (fun b : ByteArray => b.data.toList) h
  simp [numS] at h1
  exact txtZ_inj (b := 10) (by omega) (by omega) h1
theorem toldS_fits {z : Int} (h : fits z) : toldS z = numS z := if_pos h
theorem toldE_fits {z : Int} (h : fits z) : toldE z = 0 := if_pos h
theorem rk_num {x y : Int} {none : Value} {R : Int → Int → Value} {w w' : World} {e : Ending} (hx : fits x) (hy : fits y) (h : RkR (numS x).data.toList (numS y).data.toList none R w e w') : e = .returned (R x y) ∧ Below w.heap.size w w' := by
  rcases h with ⟨hv, -, -⟩ | ⟨x', y', hx', hy', rfl, hb⟩
  · rcases hv with hv | hv
    · exact absurd (num_numS hx) (not_num hv _)
    · exact absurd (num_numS hy) (not_num hv _)
  · obtain rfl := num_one hx' (num_numS hx)
    obtain rfl := num_one hy' (num_numS hy)
    exact ⟨rfl, hb⟩
theorem r1_num {x : Int} {none : Value} {R : Int → Value} {w w' : World} {e : Ending} (hx : fits x) (h : R1 (numS x).data.toList none R w e w') : e = .returned (R x) ∧ Below w.heap.size w w' := by
  rcases h with ⟨hv, -, -⟩ | ⟨x', hx', rfl, hb⟩
  · exact absurd (num_numS hx) (not_num hv _)
  · obtain rfl := num_one hx' (num_numS hx)
    exact ⟨rfl, hb⟩
/-- a number and no error -/
def NumR (z : Int) (w : World) (e : Ending) (w' : World) : Prop := e = .returned (.tuple #[.string (numS z), .int .i64 0]) ∧ Below w.heap.size w w'
theorem a33 {x y : Int} (w : World) (hx : fits x) (hy : fits y) (hz : fits (x + y)) : Calls Tryz.prog 33 #[.string (numS x), .string (numS y)] w (NumR (x + y) w) :=
  (t33 _ _ w).mono fun e w' h => by have := rk_num hx hy h; rw [toldS_fits hz, toldE_fits hz] at this; exact this
theorem a34 {x y : Int} (w : World) (hx : fits x) (hy : fits y) (hz : fits (x - y)) : Calls Tryz.prog 34 #[.string (numS x), .string (numS y)] w (NumR (x - y) w) :=
  (t34 _ _ w).mono fun e w' h => by have := rk_num hx hy h; rw [toldS_fits hz, toldE_fits hz] at this; exact this
theorem a35 {x y : Int} (w : World) (hx : fits x) (hy : fits y) (hz : fits (x * y)) : Calls Tryz.prog 35 #[.string (numS x), .string (numS y)] w (NumR (x * y) w) :=
  (t35 _ _ w).mono fun e w' h => by have := rk_num hx hy h; rw [toldS_fits hz, toldE_fits hz] at this; exact this
def CmpR (x y : Int) (w : World) (e : Ending) (w' : World) : Prop := e = .returned (.tuple #[.int .i64 (cmpZ x y), .int .i64 0]) ∧ Below w.heap.size w w'
theorem a37 {x y : Int} (w : World) (hx : fits x) (hy : fits y) : Calls Tryz.prog 37 #[.string (numS x), .string (numS y)] w (CmpR x y w) :=
  (t37 _ _ w).mono fun _ _ h => rk_num hx hy h
theorem a36 {x y : Int} (w : World) (hx : fits x) (hy : fits y) (h0 : y ≠ 0) : Calls Tryz.prog 36 #[.string (numS x), .string (numS y)] w fun e w' => e = .returned (.tuple #[.string (numS (fq x y)), .string (numS (fr x y)), .int .i64 0]) ∧ Below w.heap.size w w' :=
  (t36 _ _ w).mono fun e w' h => by have := rk_num hx hy h; unfold DivT at this; rw [if_neg h0] at this; exact this
theorem a36z {x : Int} (w : World) (hx : fits x) : Calls Tryz.prog 36 #[.string (numS x), .string (numS 0)] w fun e w' => e = .returned (.tuple #[.string ⟨#[]⟩, .string ⟨#[]⟩, .int .i64 11]) ∧ Below w.heap.size w w' :=
  (t36 _ _ w).mono fun e w' h => by have := rk_num hx (by decide) h; unfold DivT at this; rw [if_pos rfl] at this; exact this
theorem a39 {x y : Int} (w : World) (hx : fits x) (hy : fits y) : Calls Tryz.prog 39 #[.string (numS x), .string (numS y)] w (NumR ((Nat.gcd x.natAbs y.natAbs : Nat) : Int) w) := by
  refine (t39 _ _ w).mono fun e w' h => ?_
  have h1 := rk_num hx hy h
  have hz : fits ((Nat.gcd x.natAbs y.natAbs : Nat) : Int) := by
    show (dgs 10 (Int.natAbs _)).length ≤ 400
    rw [Int.natAbs_natCast]
    rcases Nat.eq_zero_or_pos x.natAbs with h0 | h0
    · rw [h0, Nat.gcd_zero_left]; exact hy
    · exact Nat.le_trans (dgs_length_mono (by omega) (Nat.gcd_le_left _ h0)) hx
  rw [toldS_fits hz, toldE_fits hz] at h1
  exact h1
theorem a38 {x : Int} (w : World) (hx : fits x) (h0 : 0 ≤ x) : Calls Tryz.prog 38 #[.string (numS x)] w (NumR ((isq x.natAbs : Nat) : Int) w) := by
  refine (t38 _ w).mono fun e w' h => ?_
  have h1 := r1_num hx h
  have hz : fits ((isq x.natAbs : Nat) : Int) := by
    show (dgs 10 (Int.natAbs _)).length ≤ 400
    rw [Int.natAbs_natCast]
    refine Nat.le_trans (dgs_length_mono (by omega) ?_) hx
    have h2 := (isq_spec x.natAbs).1
    rcases Nat.eq_zero_or_pos (isq x.natAbs) with h | h
    · omega
    · have : isq x.natAbs * 1 ≤ isq x.natAbs * isq x.natAbs := Nat.mul_le_mul_left _ h
      omega
  unfold rootZ at h1
  rw [if_neg (by omega), toldS_fits hz, toldE_fits hz] at h1
  exact h1
/-- what Made says of ints -/
theorem a16 (v : Value) (xs : List Int) (n : Nat) (w : World) (hv : IntsRead w v xs) (hx : ∀ x ∈ xs, InInt x) (hT : TabOk w) (hl : xs.length ≤ 9223372036854775807) (h1 : 1 ≤ n) (hn : n ≤ 1000) :
    Calls Tryz.prog 16 #[v, .int .i64 n] w fun e w' => ∃ z : Int, Dl z n ∧ e = .returned (.string (numS z)) ∧ Below w.heap.size w w' := by
  obtain ⟨z, h2, h3⟩ := made_num n h1 xs
  refine (t16 v xs n w hv hx hT hl hn).mono fun e w' h => ⟨z, h3, ?_, h.2⟩
  rw [h.1, h2]; rfl
theorem numS_zero : numS 0 = ⟨#[48]⟩ := rfl
theorem numS_one : numS 1 = ⟨#[49]⟩ := rfl
theorem numS_ne_zero {z : Int} (h : z ≠ 0) : numS z ≠ (⟨#[48]⟩ : ByteArray) := by
  intro h1
  exact h (numS_inj (h1.trans numS_zero.symm))
theorem numS_pos (z : Int) : 0 < (numS z).size := by
  have h1 := txt_ne 10 z.natAbs (by omega)
  have h2 : 0 < (txtZ 10 z).length := by
    unfold txtZ
    split
    · simp
    · exact List.length_pos_iff.2 h1
  simpa [numS, ByteArray.size] using h2
theorem numS_first (z : Int) : ((numS z)[0]'(numS_pos z) = 45) ↔ z < 0 := by
  have h := @num_sign z
  have h2 : (txtZ 10 z).head? = some ((numS z)[0]'(numS_pos z)) := by
    have h3 : (numS z)[0]'(numS_pos z) = (numS z).data[0]'(numS_pos z) := rfl
    rw [List.head?_eq_getElem?, h3]
    simp only [numS]
    have hp := numS_pos z
    simp [numS, ByteArray.size] at hp
    simp [hp]
  rw [h2] at h
  simpa using h
end Go.Proofs.YtifhiefdhhmdeaaGreatDoor
