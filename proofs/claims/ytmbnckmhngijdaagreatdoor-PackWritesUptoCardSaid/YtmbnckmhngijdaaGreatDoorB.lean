/- Contracts of is, withoutBlanks, readOrder. -/
import Derived.Test.YtmbnckmhngijdaaGreatDoorA
import Derived.Test.YtmbnckmhngijdaaGreatDoorShelf
namespace Go.Proofs.YtmbnckmhngijdaaGreatDoor
open Go Go.RowKit

theorem indexByte_mem (l : List UInt8) (c : UInt8) : decide (0 ≤ Lib.indexByte l c) = l.contains c := by
  induction l with
  | nil => rfl
  | cons b l ih =>
    have hge := Lib.indexByte_ge l c
    rw [List.contains_cons, ← ih]
    rw [show Lib.indexByte (b :: l) c = if b == c then 0 else if Lib.indexByte l c == -1 then -1 else Lib.indexByte l c + 1 from rfl]
    by_cases h : b = c
    · subst h; simp
    · have h1 : (b == c) = false := by simpa using h
      have h2 : (c == b) = false := by simpa using fun e : c = b => h e.symm
      rw [h1, h2]
      by_cases h3 : Lib.indexByte l c = -1
      · simp [h3]
      · have h4 : (Lib.indexByte l c == -1) = false := by simpa using h3
        simp [h4]
        omega
theorem u8_ne {c n : UInt8} {k : Int} (hk : (n.toNat : Int) = k) (h : c ≠ n) : ((c.toNat : Int) == k) = false := by
  subst hk; rw [beq_eq_false_iff_ne]; intro e; exact h (UInt8.toNat_inj.1 (by omega))
theorem u8_eq {c n : UInt8} {k : Int} (hk : (n.toNat : Int) = k) (h : c = n) : ((c.toNat : Int) == k) = true := by
  subst hk; subst h; simp
theorem u8_back (c : UInt8) : ((c.toNat : Int)).toNat.toUInt8 = c := by
  simp

/-- the six cells of a directive -/
theorem Blk.six {w : World} {g : Nat} {a b c d e f : Value} (h : Blk w g 81 [a, b, c, d, e, f]) :
    w.cell? ⟨g, 0, none⟩ = some a ∧ w.cell? ⟨g, 1, none⟩ = some b ∧ w.cell? ⟨g, 2, none⟩ = some c ∧ w.cell? ⟨g, 3, none⟩ = some d ∧ w.cell? ⟨g, 4, none⟩ = some e ∧ w.cell? ⟨g, 5, none⟩ = some f :=
  ⟨h.cell 0 rfl, h.cell 1 rfl, h.cell 2 rfl, h.cell 3 rfl, h.cell 4 rfl, h.cell 5 rfl⟩

theorem t67 (c : UInt8) (v1 v2 v3 v4 v5 : Value) (t : ByteArray) (q : Bool) (hq : t.data.toList.contains c = q) (w : World) :
    Calls Tryz.prog 67 #[.agg #[.int .u8 c.toNat, v1, v2, v3, v4, v5], .string t] w fun e w' => e = .returned (.bool q) ∧ Below w.heap.size w w' := by
  subst hq
  have cI := Tryz.strings_IndexByte t c.toNat
  rw [u8_back] at cI
  have hm := indexByte_mem t.data.toList c
  have hge := Lib.indexByte_ge t.data.toList c
  generalize Lib.indexByte t.data.toList c = i at *
  have HM := Lib.hid hm
  clear hm
  go_enter Tryz.func67, Tryz.ntmps67
  go_wp2_with fail
  refine (cI _).mono ?_
  rintro e w' ⟨rfl, rfl⟩
  go_wp2
  go_ret
  exact ⟨ret_bool HM.out, (Below.refl _ _).alloc (Nat.le_refl _) _⟩

theorem t66 (s : ByteArray) (w : World) :
    Calls Tryz.prog 66 #[.string s] w fun e w' => e = .returned (.string ⟨(blanksL s.data.toList).toArray⟩) ∧ w = w' := by
  have c := Tryz.strings_TrimLeft_one s 32 (by decide) w
  go_enter Tryz.func66, Tryz.ntmps66
  go_wp2_with fail
  refine c.mono ?_
  rintro e w' ⟨rfl, rfl⟩
  go_wp2
  go_ret
  exact ⟨rfl, rfl⟩

/-- what stands behind > -/
theorem order_cases (c : UInt8) (l : List UInt8) : (orderL c l = (true, Lib.trimPrefix l [62]) ∧ Lib.hasPrefix l [62] = true ∧ turnsL.contains c = true) ∨ (orderL c l = (false, l) ∧ (Lib.hasPrefix l [62] = false ∨ (Lib.hasPrefix l [62] = true ∧ turnsL.contains c = false))) := by
  cases l with
  | nil => right; exact ⟨rfl, .inl rfl⟩
  | cons b l =>
    by_cases hb : b = 62
    · subst hb
      have hp : Lib.hasPrefix (62 :: l) [62] = true := by simp [Lib.hasPrefix]
      cases ht : turnsL.contains c with
      | true => left; exact ⟨by unfold orderL; simp only [ht, if_true, Lib.trimPrefix, hp]; rfl, hp, rfl⟩
      | false => right; exact ⟨by unfold orderL; simp only [ht]; rfl, .inr ⟨hp, rfl⟩⟩
    · right
      have h1 : orderL c (b :: l) = (false, b :: l) := by
        unfold orderL
        split
        · rename_i e; cases e; exact absurd rfl hb
        · rfl
      have h2 : ((62 : UInt8) == b) = false := by rw [beq_eq_false_iff_ne]; exact fun h => hb h.symm
      exact ⟨h1, .inl (by simp [Lib.hasPrefix, List.isPrefixOf, h2])⟩
theorem great_eq (c : UInt8) (gt : Bool) : (⟨c, gt, -2⟩ : Dir).great = (gt || ([110, 78] : List UInt8).contains c) := by
  show (gt || c == 110 || c == 78) = _
  rw [Bool.or_assoc]; congr 1
  simp only [List.contains_cons, List.contains_nil, Bool.or_false]
def OrdR (g : Nat) (c : UInt8) (a b d e : Value) (l : List UInt8) (w : World) (en : Ending) (w' : World) : Prop :=
  en = .returned (.string ⟨(orderL c l).2.toArray⟩) ∧ Blk w' g 81 [.int .u8 c.toNat, a, b, .bool (⟨c, (orderL c l).1, -2⟩ : Dir).great, d, e] ∧ Below g w w'
set_option maxRecDepth 100000 in
set_option maxHeartbeats 1000000 in
theorem t68 (g : Nat) (c : UInt8) (a b x d e : Value) (s : ByteArray) (w : World) (h : Blk w g 81 [.int .u8 c.toNat, a, b, x, d, e]) :
    Calls Tryz.prog 68 #[.pointer (some ⟨g, 0, none⟩), .string s] w (OrdR g c a b d e s.data.toList w) := by
  obtain ⟨q, hq⟩ : ∃ q, (⟨#[110, 78]⟩ : ByteArray).data.toList.contains c = q := ⟨_, rfl⟩
  obtain ⟨q2, hq2⟩ : ∃ q, (⟨#[83, 115, 76, 108, 81, 113]⟩ : ByteArray).data.toList.contains c = q := ⟨_, rfl⟩
  have hG := great_eq c
  have hO := order_cases c s.data.toList
  rw [show ([110, 78] : List UInt8).contains c = q from hq] at hG
  rw [show turnsL.contains c = q2 from hq2] at hO
  have cP := Tryz.strings_CutPrefix s ⟨#[62]⟩
  have c1 := fun x => t67 c a b x d e ⟨#[110, 78]⟩ q hq
  have c2 := fun x => t67 c a b x d e ⟨#[83, 115, 76, 108, 81, 113]⟩ q2 hq2
  obtain ⟨h0, h1, h2, h3, h4, h5⟩ := h.six
  have HB := Lib.hid h
  have HG := Lib.hid hG
  clear hG hq hq2 h
  rw [show (⟨#[62]⟩ : ByteArray).data.toList = [62] from rfl] at cP
  rcases hO with ⟨hO, hp, ht⟩ | ⟨hO, hp | ⟨hp, ht⟩⟩
  · have HO := Lib.hid hO
    subst ht
    rw [hp] at cP
    generalize Lib.trimPrefix s.data.toList [62] = T at *
    clear hp hO
    go_enter Tryz.func68, Tryz.ntmps68
    go_wp2_with fail
    refine (c1 _ _).mono ?_
    rintro e1 w1 ⟨rfl, hb1⟩
    have k1 := HB.out.below hb1 HB.out.lt
    have f1 := k1.free 3
    obtain ⟨h0, h1, h2, h3, h4, h5⟩ := k1.six
    have B1 := hb1.mono (Nat.le_of_lt HB.out.lt)
    clear hb1
    go_wp2_with fail
    refine (cP _).mono ?_
    rintro e2 w2 ⟨rfl, rfl⟩
    have k2 := k1.set 3 (.bool q)
    have B2 := bSet B1 g 3 (Nat.le_refl g) (.bool q)
    generalize w1.setCell ⟨g, 3, none⟩ (.bool q) = w2 at *
    have K2 := Lib.hid k2
    obtain ⟨h0, h1, h2, h3, h4, h5⟩ := k2.six
    clear k2 k1 f1
    go_wp2_with fail
    refine (c2 _ _).mono ?_
    rintro e3 w3 ⟨rfl, hb3⟩
    have k3 := K2.out.below hb3 K2.out.lt
    have f3 := k3.free 3
    have B3 := B2.trans (hb3.mono (Nat.le_of_lt K2.out.lt))
    obtain ⟨h0, h1, h2, h3, h4, h5⟩ := k3.six
    go_wp2
    go_ret
    refine ⟨by rw [HO.out]; rfl, ?_, bSet B3 g 3 (Nat.le_refl g) _⟩
    have k4 := k3.set 3 (.bool true)
    rw [HO.out, HG.out]
    exact k4
  · have HO := Lib.hid hO
    rw [hp] at cP
    generalize Lib.trimPrefix s.data.toList [62] = T at *
    clear hp hO
    go_enter Tryz.func68, Tryz.ntmps68
    go_wp2_with fail
    refine (c1 _ _).mono ?_
    rintro e1 w1 ⟨rfl, hb1⟩
    have k1 := HB.out.below hb1 HB.out.lt
    have f1 := k1.free 3
    obtain ⟨h0, h1, h2, h3, h4, h5⟩ := k1.six
    have B1 := hb1.mono (Nat.le_of_lt HB.out.lt)
    clear hb1
    go_wp2_with fail
    refine (cP _).mono ?_
    rintro e2 w2 ⟨rfl, rfl⟩
    have k2 := k1.set 3 (.bool q)
    have B2 := bSet B1 g 3 (Nat.le_refl g) (.bool q)
    generalize w1.setCell ⟨g, 3, none⟩ (.bool q) = w2 at *
    have K2 := Lib.hid k2
    obtain ⟨h0, h1, h2, h3, h4, h5⟩ := k2.six
    clear k2 k1 f1
    go_wp2
    go_ret
    refine ⟨by rw [HO.out]; rfl, ?_, B2⟩
    rw [HO.out, HG.out]
    exact K2.out
  · have HO := Lib.hid hO
    subst ht
    rw [hp] at cP
    generalize Lib.trimPrefix s.data.toList [62] = T at *
    clear hp hO
    go_enter Tryz.func68, Tryz.ntmps68
    go_wp2_with fail
    refine (c1 _ _).mono ?_
    rintro e1 w1 ⟨rfl, hb1⟩
    have k1 := HB.out.below hb1 HB.out.lt
    have f1 := k1.free 3
    obtain ⟨h0, h1, h2, h3, h4, h5⟩ := k1.six
    have B1 := hb1.mono (Nat.le_of_lt HB.out.lt)
    clear hb1
    go_wp2_with fail
    refine (cP _).mono ?_
    rintro e2 w2 ⟨rfl, rfl⟩
    have k2 := k1.set 3 (.bool q)
    have B2 := bSet B1 g 3 (Nat.le_refl g) (.bool q)
    generalize w1.setCell ⟨g, 3, none⟩ (.bool q) = w2 at *
    have K2 := Lib.hid k2
    obtain ⟨h0, h1, h2, h3, h4, h5⟩ := k2.six
    clear k2 k1 f1
    go_wp2_with fail
    refine (c2 _ _).mono ?_
    rintro e3 w3 ⟨rfl, hb3⟩
    have k3 := K2.out.below hb3 K2.out.lt
    have f3 := k3.free 3
    have B3 := B2.trans (hb3.mono (Nat.le_of_lt K2.out.lt))
    obtain ⟨h0, h1, h2, h3, h4, h5⟩ := k3.six
    go_wp2
    go_ret
    refine ⟨by rw [HO.out]; rfl, ?_, B3⟩
    rw [HO.out, HG.out]
    exact k3
end Go.Proofs.YtmbnckmhngijdaaGreatDoor
