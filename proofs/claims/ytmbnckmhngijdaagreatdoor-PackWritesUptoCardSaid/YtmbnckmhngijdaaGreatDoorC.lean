/- Contract of readCount. -/
import Derived.Test.YtmbnckmhngijdaaGreatDoorB
import Derived.Shelf.Strings.SlTrimAscii
namespace Go.Proofs.YtmbnckmhngijdaaGreatDoor
open Go Go.RowKit

/-- what package-level variables hold -/
structure Gl (w : World) : Prop where
  mx : ∃ m, w.cell? ⟨0, 0, none⟩ = some (.int .i64 m)
  er : ∃ te pe, w.cell? ⟨2, 0, none⟩ = some (.iface te pe)
  u8 : Lib.Utf8Tabs 3 4 w
theorem Gl.below {w w' : World} (h : Gl w) (hb : Below w.heap.size w w') : Gl w' := by
  obtain ⟨⟨m, h1⟩, ⟨te, pe, h2⟩, h3, h4⟩ := h
  exact ⟨⟨m, below_cell hb h1⟩, ⟨te, pe, below_cell hb h2⟩, fun c hc => below_cell hb (h3 c hc), fun i hi => ⟨below_cell hb (h4 i hi).1, below_cell hb (h4 i hi).2⟩⟩

theorem digset (b : UInt8) : ([48, 49, 50, 51, 52, 53, 54, 55, 56, 57] : List UInt8).contains b = isDig b := by
  have : ∀ n : Fin 256, ([48, 49, 50, 51, 52, 53, 54, 55, 56, 57] : List UInt8).contains (UInt8.ofNat n.val) = isDig (UInt8.ofNat n.val) := by decide +kernel
  have h := this ⟨b.toNat, b.toNat_lt⟩
  dsimp only at h
  rw [UInt8.ofNat_toNat] at h
  exact h
theorem trim_digits (l : List UInt8) : Lib.trimLeftS l [48, 49, 50, 51, 52, 53, 54, 55, 56, 57] = l.dropWhile isDig := by
  unfold Lib.trimLeftS
  congr 1
  funext b
  exact digset b
theorem numL_mono : ∀ (l : List UInt8) (a : Nat), a ≤ numL l a := fun l => numL_ge l
theorem parse_digits : ∀ (l : List UInt8) (acc : Nat), (∀ b ∈ l, isDig b = true) → acc < 18446744073709551616 → Lib.parseUint10 acc l = if numL l acc < 18446744073709551616 then .ok (numL l acc) else .range
  | [], acc, _, h => by unfold Lib.parseUint10 numL; rw [if_pos h]
  | b :: l, acc, hd, h => by
    have hb := hd b (List.mem_cons_self ..)
    unfold isDig at hb
    simp only [decide_eq_true_eq] at hb
    unfold Lib.parseUint10
    rw [if_pos hb]
    have hm := numL_ge l (acc * 10 + (b.toNat - 48))
    show (if 1844674407370955162 ≤ acc then Lib.NumEnd.range else if 18446744073709551616 ≤ acc * 10 + (b.toNat - 48) then .range else Lib.parseUint10 (acc * 10 + (b.toNat - 48)) l) = if numL l (acc * 10 + (b.toNat - 48)) < 18446744073709551616 then .ok (numL l (acc * 10 + (b.toNat - 48))) else .range
    by_cases h1 : 1844674407370955162 ≤ acc
    · rw [if_pos h1, if_neg (by omega)]
    · rw [if_neg h1]
      by_cases h2 : 18446744073709551616 ≤ acc * 10 + (b.toNat - 48)
      · rw [if_pos h2, if_neg (by omega)]
      · rw [if_neg h2]
        exact parse_digits l _ (fun x hx => hd x (List.mem_cons_of_mem _ hx)) (by omega)
theorem atoi_digits (b : UInt8) (l : List UInt8) (hd : ∀ x ∈ b :: l, isDig x = true) : Lib.atoiAll (b :: l) = if numL (b :: l) 0 < 9223372036854775808 then .ok (numL (b :: l) 0 : Nat) else .range := by
  have hb := hd b (List.mem_cons_self ..)
  unfold isDig at hb
  simp only [decide_eq_true_eq] at hb
  unfold Lib.atoiAll
  have e1 : ¬ (b.toNat = 43 ∨ b.toNat = 45) := by omega
  have e2 : ¬ (b.toNat = 45) := by omega
  dsimp only
  rw [if_neg e1]
  unfold Lib.parseMag
  rw [if_neg (by simp), parse_digits _ _ hd (by omega)]
  by_cases h1 : numL (b :: l) 0 < 18446744073709551616
  · rw [if_pos h1]
    dsimp only
    by_cases h2 : numL (b :: l) 0 < 9223372036854775808
    · rw [if_pos h2, if_neg (by omega)]
      simp [e2]
    · rw [if_neg h2, if_pos ⟨e2, by omega⟩]
  · rw [if_neg h1, if_neg (by omega)]

theorem all_takeWhile (p : UInt8 → Bool) (l : List UInt8) : ∀ x ∈ l.takeWhile p, p x = true := by
  induction l with
  | nil => intro x hx; cases hx
  | cons b l ih =>
    intro x hx
    rw [List.takeWhile_cons] at hx
    split at hx
    · rcases List.mem_cons.1 hx with rfl | hx
      · assumption
      · exact ih x hx
    · cases hx
theorem star_cases (c : UInt8) (l : List UInt8) : (Lib.hasPrefix l [42] = true ∧ countL c l = if c = 120 ∨ c = 64 then none else some (-1, Lib.trimPrefix l [42])) ∨
    (Lib.hasPrefix l [42] = false ∧ countL c l = if l.takeWhile isDig = [] then some ((-2 : Int), l) else if numOk c (l.takeWhile isDig) then some (((numL (l.takeWhile isDig) 0 : Nat) : Int), l.dropWhile isDig) else none) := by
  cases l with
  | nil => right; exact ⟨rfl, rfl⟩
  | cons b l =>
    by_cases hb : b = 42
    · subst hb
      left
      have hp : Lib.hasPrefix (42 :: l) [42] = true := by simp [Lib.hasPrefix]
      exact ⟨hp, by unfold countL; simp only [Lib.trimPrefix, hp, if_true]; rfl⟩
    · right
      have h2 : ((42 : UInt8) == b) = false := by rw [beq_eq_false_iff_ne]; exact fun h => hb h.symm
      refine ⟨by simp [Lib.hasPrefix, List.isPrefixOf, h2], ?_⟩
      unfold countL
      split
      · rename_i e; cases e; exact absurd rfl hb
      · rfl
def cntN (c : UInt8) (k : Int) : Nat := (⟨c, false, k⟩ : Dir).n
def CntR (g : Nat) (c : UInt8) (a b d : Value) (l : List UInt8) (w : World) (en : Ending) (w' : World) : Prop :=
  Below g w w' ∧
  match countL c l with
  | none => ∃ r, en = .returned (.tuple #[.string r, .bool false])
  | some (k, r) => en = .returned (.tuple #[.string ⟨r.toArray⟩, .bool true]) ∧ Blk w' g 81 [.int .u8 c.toNat, a, b, d, .bool (decide (k = -1)), .int .i64 (cntN c k)]
theorem CntR.bad {g : Nat} {c : UInt8} {a b d : Value} {l : List UInt8} {w w' : World} {r : ByteArray} (h : Hid (countL c l = none)) (hb : Below g w w') : CntR g c a b d l w (.returned (.tuple #[.string r, .bool false])) w' := by
  unfold CntR; rw [h.out]; exact ⟨hb, r, rfl⟩
theorem CntR.good {g : Nat} {c : UInt8} {a b d : Value} {l r : List UInt8} {k : Int} {w w' : World} (h : Hid (countL c l = some (k, r))) (hb : Below g w w')
    (hk : Blk w' g 81 [.int .u8 c.toNat, a, b, d, .bool (decide (k = -1)), .int .i64 (cntN c k)]) : CntR g c a b d l w (.returned (.tuple #[.string ⟨r.toArray⟩, .bool true])) w' := by
  unfold CntR; rw [h.out]; exact ⟨hb, rfl, hk⟩
set_option maxRecDepth 100000 in
set_option maxHeartbeats 1000000 in
theorem t69_star (g : Nat) (c : UInt8) (a b d : Value) (s : ByteArray) (w : World) (h : Blk w g 81 [.int .u8 c.toNat, a, b, d, .bool false, .int .i64 0]) (hp : Lib.hasPrefix s.data.toList [42] = true)
    (hc : countL c s.data.toList = if c = 120 ∨ c = 64 then none else some (-1, Lib.trimPrefix s.data.toList [42])) :
    Calls Tryz.prog 69 #[.pointer (some ⟨g, 0, none⟩), .string s] w (CntR g c a b d s.data.toList w) := by
  obtain ⟨q, hq⟩ : ∃ q, (⟨#[120, 64]⟩ : ByteArray).data.toList.contains c = q := ⟨_, rfl⟩
  have c1 := fun x y => t67 c a b d x y ⟨#[120, 64]⟩ q hq
  have cP := Tryz.strings_CutPrefix s ⟨#[42]⟩
  rw [show (⟨#[42]⟩ : ByteArray).data.toList = [42] from rfl, hp] at cP
  have hq2 : q = decide (c = 120 ∨ c = 64) := by
    rw [← hq]
    show ([120, 64] : List UInt8).contains c = _
    simp only [List.contains_cons, List.contains_nil, Bool.or_false]
    by_cases h1 : c = 120 <;> by_cases h2 : c = 64 <;> simp [h1, h2]
  generalize Lib.trimPrefix s.data.toList [42] = T at *
  obtain ⟨h0, h1, h2, h3, h4, h5⟩ := h.six
  have f4 := h.free 4
  have k2 := h.set 4 (.bool true)
  have B2 := bSet (Below.refl g w) g 4 (Nat.le_refl g) (.bool true)
  have HB := Lib.hid h
  clear h hq hp
  cases q with
  | true =>
    have HC : Hid (countL c s.data.toList = none) := by
      show _ = _; rw [hc, if_pos (of_decide_eq_true hq2.symm)]
    clear hc hq2
    go_enter Tryz.func69, Tryz.ntmps69
    go_wp2_with fail
    refine (cP _).mono ?_
    rintro e1 w1 ⟨rfl, rfl⟩
    go_upto_region 4 with fail
    generalize w1.setCell ⟨g, 4, none⟩ (.bool true) = w2 at *
    have K2 := Lib.hid k2
    obtain ⟨h0, h1, h2, h3, h4, h5⟩ := k2.six
    go_wp2_with fail
    refine (c1 _ _ _).mono ?_
    rintro e3 w3 ⟨rfl, hb3⟩
    have B3 := B2.trans (hb3.mono (Nat.le_of_lt K2.out.lt))
    go_wp2
    go_ret2
    exact CntR.bad HC B3
  | false =>
    have HC : Hid (countL c s.data.toList = some (-1, T)) := by
      show _ = _; rw [hc, if_neg (of_decide_eq_false hq2.symm)]
    clear hc hq2
    go_enter Tryz.func69, Tryz.ntmps69
    go_wp2_with fail
    refine (cP _).mono ?_
    rintro e1 w1 ⟨rfl, rfl⟩
    go_upto_region 4 with fail
    generalize w1.setCell ⟨g, 4, none⟩ (.bool true) = w2 at *
    have K2 := Lib.hid k2
    obtain ⟨h0, h1, h2, h3, h4, h5⟩ := k2.six
    go_wp2_with fail
    refine (c1 _ _ _).mono ?_
    rintro e3 w3 ⟨rfl, hb3⟩
    have B3 := B2.trans (hb3.mono (Nat.le_of_lt K2.out.lt))
    have K3 := K2.out.below hb3 K2.out.lt
    go_wp2
    go_ret2
    exact CntR.good HC B3 K3

theorem digit_str (s : ByteArray) : s.extract 0 (s.data.toList.takeWhile isDig).length = ⟨(s.data.toList.takeWhile isDig).toArray⟩ := by
  apply ByteArray.ext
  apply Array.ext'
  rw [ByteArray.data_extract, Array.toList_extract]
  simp only [List.extract_eq_take_drop, List.drop_zero, Nat.sub_zero]
  have h := List.takeWhile_append_dropWhile (p := isDig) (l := s.data.toList)
  conv => lhs; arg 2; rw [← h]
  rw [List.take_left]
set_option maxRecDepth 100000 in
set_option maxHeartbeats 1000000 in
theorem t69_none (g : Nat) (c : UInt8) (a b d : Value) (s : ByteArray) (w : World) (h : Blk w g 81 [.int .u8 c.toNat, a, b, d, .bool false, .int .i64 0]) (hp : Lib.hasPrefix s.data.toList [42] = false)
    (hc : countL c s.data.toList = some (-2, s.data.toList)) (hn : s.data.toList.takeWhile isDig = []) :
    Calls Tryz.prog 69 #[.pointer (some ⟨g, 0, none⟩), .string s] w (CntR g c a b d s.data.toList w) := by
  have cP := Tryz.strings_CutPrefix s ⟨#[42]⟩
  rw [show (⟨#[42]⟩ : ByteArray).data.toList = [42] from rfl, hp] at cP
  generalize Lib.trimPrefix s.data.toList [42] = T at *
  have cT := fun w => Any.strings_TrimLeft_laid Tryz.lays161 (by kernel_rfl) s ⟨#[48, 49, 50, 51, 52, 53, 54, 55, 56, 57]⟩ w (by decide) (ascii_of_all (by decide))
  rw [show (⟨#[48, 49, 50, 51, 52, 53, 54, 55, 56, 57]⟩ : ByteArray).data.toList = [48, 49, 50, 51, 52, 53, 54, 55, 56, 57] from rfl, trim_digits] at cT
  have hd := List.takeWhile_append_dropWhile (p := isDig) (l := s.data.toList)
  rw [hn, List.nil_append] at hd
  rw [hd, Array.toArray_toList] at cT
  obtain ⟨h0, h1, h2, h3, h4, h5⟩ := h.six
  have HB := Lib.hid h
  have HC := Lib.hid hc
  clear hd hn hp h hc
  by_cases h64 : c = 64
  · have d1 : ((c.toNat : Int) == 64) = true := by rw [h64]; rfl
    have HN : Hid (cntN c (-2) = 0) := by show _ = _; rw [h64]; rfl
    clear h64
    go_enter Tryz.func69, Tryz.ntmps69
    go_wp2_with fail
    refine (cP _).mono ?_
    rintro e1 w1 ⟨rfl, rfl⟩
    go_wp2_with fail
    refine (cT _).mono ?_
    rintro e2 w2 ⟨rfl, hb2⟩
    have K2 := HB.out.below hb2 HB.out.lt
    have B2 := hb2.mono (Nat.le_of_lt HB.out.lt)
    obtain ⟨h0, h1, h2, h3, h4, h5⟩ := K2.six
    have f5 := K2.free 5
    have HK := Lib.hid K2
    go_wp2_with fail
    go_ret2
    have k3 := HK.out.set 5 (.int .i64 0)
    exact CntR.good HC (bSet B2 g 5 (Nat.le_refl g) _) (by rw [HN.out]; exact k3)
  · have d1 : ((c.toNat : Int) == 64) = false := u8_ne (n := 64) rfl h64
    have HN : Hid (cntN c (-2) = 1) := by
      show (if (-2 : Int) = -1 then 0 else if (-2 : Int) = -2 then (if c = 64 then 0 else 1) else (-2 : Int).toNat) = 1
      rw [if_neg (by decide), if_pos rfl, if_neg h64]
    clear h64
    go_enter Tryz.func69, Tryz.ntmps69
    go_wp2_with fail
    refine (cP _).mono ?_
    rintro e1 w1 ⟨rfl, rfl⟩
    go_wp2_with fail
    refine (cT _).mono ?_
    rintro e2 w2 ⟨rfl, hb2⟩
    have K2 := HB.out.below hb2 HB.out.lt
    have B2 := hb2.mono (Nat.le_of_lt HB.out.lt)
    obtain ⟨h0, h1, h2, h3, h4, h5⟩ := K2.six
    have f5 := K2.free 5
    have HK := Lib.hid K2
    go_wp2_with fail
    go_ret2
    have k3 := HK.out.set 5 (.int .i64 1)
    exact CntR.good HC (bSet B2 g 5 (Nat.le_refl g) _) (by rw [HN.out]; exact k3)

theorem isDig_bounds {b : UInt8} (h : isDig b = true) : 48 ≤ b.toNat ∧ b.toNat ≤ 57 := by
  unfold isDig at h; simpa using h
end Go.Proofs.YtmbnckmhngijdaaGreatDoor
