/- Base and Parse, the program's and the reference's; the walk of WholeBases. -/
import Derived.Test.YtifhiefdhhmdeaaGreatDoorWA
import Derived.Test.YtifhiefdhhmdeaaGreatDoorWD
import Derived.Test.YtifhiefdhhmdeaaGreatDoorXC
import Derived.Test.YtifhiefdhhmdeaaGreatDoorXD
import Derived.Test.YtifhiefdhhmdeaaGreatDoorZI
import Derived.Test.YtifhiefdhhmdeaaGreatDoorZO
namespace Go.Proofs.YtifhiefdhhmdeaaGreatDoor
open Go Go.RowKit

/-- what stands behind a sign -/
def parD (l : List UInt8) : List UInt8 := if l.head? = some 45 ∨ l.head? = some 43 then l.tail else l
def parZ (neg : Bool) (n : Nat) : Int := if neg then -(n : Int) else n
def ParQ (l : List UInt8) (b : Int) (w : World) (e : Ending) (w' : World) : Prop :=
  ((b < 2 ∨ 36 < b ∨ 2000 < l.length ∨ rdN b.toNat (parD l) = none) ∧ e = .returned (.tuple #[.string ⟨#[]⟩, .int .i64 1]) ∧ Below w.heap.size w w') ∨
  (∃ n, 2 ≤ b ∧ b ≤ 36 ∧ l.length ≤ 2000 ∧ rdN b.toNat (parD l) = some n ∧ e = .returned (.tuple #[.string (toldS (parZ (decide (l.head? = some 45)) n)), .int .i64 (toldE (parZ (decide (l.head? = some 45)) n))]) ∧ Below w.heap.size w w')
theorem trimG (l : List UInt8) (c : UInt8) : Lib.trimPrefix l [c] = if l.head? = some c then l.tail else l := by
  unfold Lib.trimPrefix Lib.hasPrefix
  cases l with
  | nil => rfl
  | cons x m =>
    by_cases h : x = c
    · subst h; simp [List.isPrefixOf]
    · rw [if_neg, if_neg (by simpa using h)]
      simp [List.isPrefixOf]
      intro h2; exact h h2.symm
theorem prefG (l : List UInt8) (c : UInt8) : Lib.hasPrefix l [c] = decide (l.head? = some c) := by
  unfold Lib.hasPrefix
  cases l with
  | nil => rfl
  | cons x m =>
    rw [Bool.eq_iff_iff]
    simp [List.isPrefixOf]
    exact ⟨fun h => h.symm, fun h => h.symm⟩
theorem rdU_lt (b : Nat) (hb : 1 ≤ b) : ∀ (l : List UInt8) (bd : Bool) (acc n : Nat), rdU b l bd acc = some n → n < (acc + 1) * b ^ l.length
  | [], bd, acc, n, h => by
    unfold rdU at h
    split at h
    · obtain rfl := Option.some.inj h
      simp
    · cases h
  | c :: l, bd, acc, n, h => by
    unfold rdU at h
    rw [List.length_cons, Nat.pow_succ]
    split at h
    · have h1 := rdU_lt b hb l false acc n h
      refine Nat.lt_of_lt_of_le h1 (Nat.mul_le_mul_left _ ?_)
      exact Nat.le_mul_of_pos_right _ hb
    · cases hd : digC b c with
      | none => rw [hd] at h; cases h
      | some d =>
        rw [hd] at h
        have h1 := rdU_lt b hb l true (acc * b + d) n h
        have h2 := digC_lt hd
        refine Nat.lt_of_lt_of_le h1 ?_
        have h3 : (acc * b + d + 1) * b ^ l.length ≤ ((acc + 1) * b) * b ^ l.length := Nat.mul_le_mul_right _ (by rw [Nat.add_mul]; omega)
        refine Nat.le_trans h3 ?_
        rw [Nat.mul_assoc, Nat.mul_comm b]
        exact Nat.le_refl _
theorem rdN_lw {b n : Nat} {l : List UInt8} (hb : 1 ≤ b) (hb' : b ≤ 36) (h : rdN b l = some n) : Lw n ≤ l.length := by
  have h1 := rdU_lt b hb l false 0 n h
  rw [Lw_le]
  refine Nat.lt_of_lt_of_le h1 ?_
  rw [Nat.zero_add, Nat.one_mul]
  exact Nat.pow_le_pow_left (by omega) _
theorem parD_len (l : List UInt8) : (parD l).length ≤ l.length := by
  unfold parD
  split
  · rw [List.length_tail]; omega
  · exact Nat.le_refl _
theorem parZ_sign (b : Bool) (n : Nat) : (b && decide (0 < n)) = decide (parZ b n < 0) ∧ (parZ b n).natAbs = n := by
  unfold parZ
  cases b
  · refine ⟨?_, by simp⟩
    rw [Bool.eq_iff_iff]; simp
  · refine ⟨?_, by simp⟩
    rw [Bool.eq_iff_iff]; simp
theorem bThen1 {w X Y : World} (h : Below w.heap.size w X) (k : Below X.heap.size X Y) : Below w.heap.size w Y := h.trans (k.mono h.size)
set_option maxRecDepth 100000 in
set_option maxHeartbeats 4000000 in
theorem t24 (s : ByteArray) (bi : Int) (w : World) (hs : s.size ≤ 9223372036854775807) : Calls Tryz.prog 24 #[.string s, .int .i64 bi] w (ParQ s.data.toList bi w) := by
  have hsl : s.data.toList.length = s.size := rfl
  by_cases hb : 2 ≤ bi ∧ bi ≤ 36
  · obtain ⟨b, rfl⟩ := Int.eq_ofNat_of_zero_le (show 0 ≤ bi by omega)
    have h0 : 2 ≤ b := by omega
    have h1 : b ≤ 36 := by omega
    have HBB := Lib.hid hb
    have D := Lib.hid (fun W => t68_in b W h0 h1)
    by_cases hlen : 2000 < s.size
    · have HL : Hid (2000 < s.data.toList.length) := by show _ < _; rw [hsl]; exact hlen
      have hli : (2000 : Int) < s.size := by omega
      clear hb h0 h1 hlen hsl
      go_enter Tryz.func24, Tryz.ntmps24
      go_wp2_with fail
      refine (D.out _).mono ?_
      rintro e w2 ⟨rfl, rfl⟩
      go_wp2_with fail
      go_ret2
      exact .inl ⟨.inr (.inr (.inl HL.out)), rfl, Below.refl _ _⟩
    · have HLEN : Hid (s.data.toList.length ≤ 2000) := by show _ ≤ _; rw [hsl]; omega
      have hli : (s.size : Int) ≤ 2000 := by omega
      have c1 := Tryz.strings_CutPrefix s ⟨#[45]⟩ w
      rw [show ((⟨#[45]⟩ : ByteArray).data.toList) = [45] from rfl, trimG, prefG] at c1
      have c2 := Tryz.strings_CutPrefix s ⟨#[43]⟩ w
      rw [show ((⟨#[43]⟩ : ByteArray).data.toList) = [43] from rfl, trimG, prefG] at c2
      by_cases hneg : s.data.toList.head? = some 45
      · rw [if_pos hneg, decide_eq_true hneg] at c1
        obtain ⟨tb, htb⟩ : ∃ tb : ByteArray, tb = ⟨s.data.toList.tail.toArray⟩ := ⟨_, rfl⟩
        rw [← htb] at c1
        have HTB : Hid (tb.data.toList = parD s.data.toList) := by show _ = _; unfold parD; rw [if_pos (.inl hneg), htb]
        have HSG : Hid (decide (s.data.toList.head? = some 45) = true) := decide_eq_true hneg
        have hts : tb.size ≤ 10000 := by
          have h2 : tb.size = tb.data.toList.length := rfl
          rw [h2, HTB.out]
          exact Nat.le_trans (parD_len _) (Nat.le_trans HLEN.out (by omega))
        have R72 := Lib.hid (fun W => t72 tb b W hts h0 h1)
        have C1 := Lib.hid c1
        have H1 := Lib.hid h1
        have H0 := Lib.hid h0
        clear hb c1 c2 hneg htb hts hlen hsl h0 h1
        go_enter Tryz.func24, Tryz.ntmps24
        go_wp2_with fail
        refine (D.out _).mono ?_
        rintro e w2 ⟨rfl, rfl⟩
        go_wp2_with fail
        refine C1.out.mono ?_
        rintro e w2 ⟨rfl, rfl⟩
        cases hr : rdN b tb.data.toList with
        | none =>
          have HRN : Hid (rdN b (parD s.data.toList) = none) := by show _ = _; rw [← HTB.out]; exact hr
          have C3 := R72.out
          rw [hr] at C3
          have C3' := Lib.hid C3
          clear C3 hr
          go_wp2_with fail
          refine (C3'.out _).mono ?_
          rintro e w3 ⟨rfl, hb3⟩
          go_wp2_with fail
          go_ret2
          exact .inl ⟨.inr (.inr (.inr (by rw [Int.toNat_natCast]; exact HRN.out))), rfl, hb3⟩
        | some n =>
          have HRN : Hid (rdN b (parD s.data.toList) = some n) := by show _ = _; rw [← HTB.out]; exact hr
          have hln : Lw n ≤ 2000 := Nat.le_trans (rdN_lw (by have := H0.out; omega) H1.out HRN.out) (Nat.le_trans (parD_len _) HLEN.out)
          have C3 := R72.out
          rw [hr] at C3
          have C3' := Lib.hid C3
          clear C3 hr
          go_wp2_with fail
          refine (C3'.out _).mono ?_
          rintro e w3 ⟨v, rfl, hown, hb3⟩
          have hnt : Nt w3 v n := ownsRow_mono hown (Nat.zero_le _)
          obtain ⟨p3, c3, rfl, -, -, -⟩ := hnt.cells
          have C4 := Lib.hid (t73 true _ n w3 hnt)
          obtain ⟨sg, hsg⟩ : ∃ sg : Bool, sg = (true && decide (0 < n)) := ⟨_, rfl⟩
          rw [← hsg] at C4
          have C5 := Lib.hid (fun (W : World) (h : Below w3.heap.size w3 W) => t58 (parZ true n) sg (.slice p3 (Lw n) c3) W (by rw [hsg]; exact (parZ_sign true n).1) (by rw [(parZ_sign true n).2]; exact hnt.below h) (by rw [(parZ_sign true n).2]; omega))
          clear hown hnt hsg hln
          go_wp2_with fail
          refine C4.out.mono ?_
          rintro e w4 ⟨rfl, hb4⟩
          have hB4 := bThen1 hb3 hb4
          go_wp2_with fail
          refine (C5.out w4 hb4).mono ?_
          rintro e w5 ⟨rfl, hb5⟩
          have hB5 := bThen1 hB4 hb5
          go_wp2_with fail
          go_ret2
          exact .inr ⟨n, HBB.out.1, HBB.out.2, HLEN.out, by rw [Int.toNat_natCast]; exact HRN.out, by rw [HSG.out]; rfl, hB5⟩
      · rw [if_neg hneg, decide_eq_false hneg] at c1
        obtain ⟨tb, htb⟩ : ∃ tb : ByteArray, tb = ⟨(if s.data.toList.head? = some 43 then s.data.toList.tail else s.data.toList).toArray⟩ := ⟨_, rfl⟩
        rw [← htb] at c2
        have HTB : Hid (tb.data.toList = parD s.data.toList) := by
          show _ = _
          unfold parD
          rw [htb]
          by_cases h43 : s.data.toList.head? = some 43
          · rw [if_pos h43, if_pos (.inr h43)]
          · rw [if_neg h43, if_neg (fun h => h.elim hneg h43)]
        have HSG : Hid (decide (s.data.toList.head? = some 45) = false) := decide_eq_false hneg
        have hts : tb.size ≤ 10000 := by
          have h2 : tb.size = tb.data.toList.length := rfl
          rw [h2, HTB.out]
          exact Nat.le_trans (parD_len _) (Nat.le_trans HLEN.out (by omega))
        have R72 := Lib.hid (fun W => t72 tb b W hts h0 h1)
        obtain ⟨d43, h43⟩ : ∃ d : Bool, d = decide (s.data.toList.head? = some 43) := ⟨_, rfl⟩
        rw [← h43] at c2
        have C1 := Lib.hid c1
        have C2 := Lib.hid c2
        have H1 := Lib.hid h1
        have H0 := Lib.hid h0
        clear hb c1 c2 hneg htb hts hlen hsl h43 h0 h1
        go_enter Tryz.func24, Tryz.ntmps24
        go_wp2_with fail
        refine (D.out _).mono ?_
        rintro e w2 ⟨rfl, rfl⟩
        go_wp2_with fail
        refine C1.out.mono ?_
        rintro e w2 ⟨rfl, rfl⟩
        go_wp2_with fail
        refine C2.out.mono ?_
        rintro e w2 ⟨rfl, rfl⟩
        cases hr : rdN b tb.data.toList with
        | none =>
          have HRN : Hid (rdN b (parD s.data.toList) = none) := by show _ = _; rw [← HTB.out]; exact hr
          have C3 := R72.out
          rw [hr] at C3
          have C3' := Lib.hid C3
          clear C3 hr
          go_wp2_with fail
          refine (C3'.out _).mono ?_
          rintro e w3 ⟨rfl, hb3⟩
          go_wp2_with fail
          go_ret2
          exact .inl ⟨.inr (.inr (.inr (by rw [Int.toNat_natCast]; exact HRN.out))), rfl, hb3⟩
        | some n =>
          have HRN : Hid (rdN b (parD s.data.toList) = some n) := by show _ = _; rw [← HTB.out]; exact hr
          have hln : Lw n ≤ 2000 := Nat.le_trans (rdN_lw (by have := H0.out; omega) H1.out HRN.out) (Nat.le_trans (parD_len _) HLEN.out)
          have C3 := R72.out
          rw [hr] at C3
          have C3' := Lib.hid C3
          clear C3 hr
          go_wp2_with fail
          refine (C3'.out _).mono ?_
          rintro e w3 ⟨v, rfl, hown, hb3⟩
          have hnt : Nt w3 v n := ownsRow_mono hown (Nat.zero_le _)
          obtain ⟨p3, c3, rfl, -, -, -⟩ := hnt.cells
          have C4 := Lib.hid (t73 false _ n w3 hnt)
          obtain ⟨sg, hsg⟩ : ∃ sg : Bool, sg = (false && decide (0 < n)) := ⟨_, rfl⟩
          rw [← hsg] at C4
          have C5 := Lib.hid (fun (W : World) (h : Below w3.heap.size w3 W) => t58 (parZ false n) sg (.slice p3 (Lw n) c3) W (by rw [hsg]; exact (parZ_sign false n).1) (by rw [(parZ_sign false n).2]; exact hnt.below h) (by rw [(parZ_sign false n).2]; omega))
          clear hown hnt hsg hln
          go_wp2_with fail
          refine C4.out.mono ?_
          rintro e w4 ⟨rfl, hb4⟩
          have hB4 := bThen1 hb3 hb4
          go_wp2_with fail
          refine (C5.out w4 hb4).mono ?_
          rintro e w5 ⟨rfl, hb5⟩
          have hB5 := bThen1 hB4 hb5
          go_wp2_with fail
          go_ret2
          exact .inr ⟨n, HBB.out.1, HBB.out.2, HLEN.out, by rw [Int.toNat_natCast]; exact HRN.out, by rw [HSG.out]; rfl, hB5⟩
  · have hb2 : bi < 2 ∨ 36 < bi := by omega
    have D := Lib.hid (fun W => t68_out bi W hb2)
    have HB2 := Lib.hid hb2
    clear hb hb2 hsl
    go_enter Tryz.func24, Tryz.ntmps24
    go_wp2_with fail
    refine (D.out _).mono ?_
    rintro e w2 ⟨rfl, rfl⟩
    go_wp2_with fail
    go_ret2
    exact .inl ⟨HB2.out.elim .inl (fun h => .inr (.inl h)), rfl, Below.refl _ _⟩
theorem last8 (l : List UInt8) (k : Nat) (hk : k < l.length) : (l.take (k + 1)).getLast? = some l[k] := by
  rw [List.take_succ_eq_append_getElem hk, List.getLast?_append]; rfl
theorem rdR_at (b : Nat) (l : List UInt8) (k : Nat) (hk : k < l.length) (acc : Nat) :
    rdR b ((l.take k).getLast?) (l.drop k) acc = if l[k] = 95 ∧ (0 < k ∧ l[k - 1]? ≠ some 95) ∧ (k + 1 < l.length ∧ l[k + 1]? ≠ some 95) then rdR b ((l.take (k + 1)).getLast?) (l.drop (k + 1)) acc
      else match digC b l[k] with | none => none | some d => rdR b ((l.take (k + 1)).getLast?) (l.drop (k + 1)) (acc * b + d) := by
  have hl : (l.take (k + 1)).getLast? = some l[k] := last8 l k hk
  have hp : ((l.take k).getLast? ≠ none ∧ (l.take k).getLast? ≠ some 95) ↔ (0 < k ∧ l[k - 1]? ≠ some 95) := by
    cases k with
    | zero => simp
    | succ j =>
      rw [last8 l j (by omega), Nat.add_sub_cancel, List.getElem?_eq_getElem (by omega)]
      simp
  have hn : (l.drop (k + 1) ≠ [] ∧ (l.drop (k + 1)).head? ≠ some 95) ↔ (k + 1 < l.length ∧ l[k + 1]? ≠ some 95) := by
    rw [List.head?_drop]
    by_cases h : k + 1 < l.length
    · simp [h, List.drop_eq_nil_iff]
    · simp [h, List.drop_eq_nil_iff]
  rw [List.drop_eq_getElem_cons hk, rdR, hl]
  by_cases hc : l[k] = 95 ∧ ((l.take k).getLast? ≠ none ∧ (l.take k).getLast? ≠ some 95) ∧ (l.drop (k + 1) ≠ [] ∧ (l.drop (k + 1)).head? ≠ some 95)
  · rw [if_pos hc, if_pos ⟨hc.1, hp.1 hc.2.1, hn.1 hc.2.2⟩]
  · rw [if_neg hc, if_neg (fun h => hc ⟨h.1, hp.2 h.2.1, hn.2 h.2.2⟩)]
    cases digC b l[k] <;> rfl
theorem rdR_end (b : Nat) (l : List UInt8) (p : Option UInt8) (acc : Nat) : rdR b p (l.drop l.length) acc = some acc := by
  rw [List.drop_length]; rfl
theorem ld_step {acc b d k : Nat} (h : acc < 100 ^ k) (hb : b ≤ 36) (hd : d < b) : acc * b + d < 100 ^ (k + 1) := by
  rw [Nat.pow_succ]
  have : acc * b + d < (acc + 1) * b := by rw [Nat.add_mul]; omega
  have h2 : (acc + 1) * b ≤ 100 ^ k * 100 := Nat.mul_le_mul h (by omega)
  omega
theorem ld_hund {acc k : Nat} (h : acc < 100 ^ k) : Ld acc ≤ 2 * k := by
  rw [Ld_le, Nat.pow_mul]; exact h
theorem dg_nil (w : World) : Dg w (.slice none 0 0) 0 := World.ownsRow_nil _ _ _ _
/-- the string of the digits -/
theorem tail_bytes (s : ByteArray) : (s.extract 1 s.size).data.toList = s.data.toList.tail := by
  rw [ByteArray.data_extract, Array.toList_extract]
  simp
  exact List.take_of_length_le (by rw [List.length_tail]; exact Nat.le_refl _)
set_option maxRecDepth 100000 in
set_option maxHeartbeats 4000000 in
theorem t25 (s : ByteArray) (bi : Int) (w : World) (hs : s.size ≤ 9223372036854775807) : Calls Tryz.prog 25 #[.string s, .int .i64 bi] w (ParQ s.data.toList bi w) := by
  have hsl : s.data.toList.length = s.size := rfl
  by_cases hlow2 : bi < 2
  · have HB2 : Hid (bi < 2) := hlow2
    go_enter Tryz.func25, Tryz.ntmps25
    go_wp2
    go_ret2
    exact .inl ⟨.inl HB2.out, rfl, Below.refl _ _⟩
  · have h2i : 2 ≤ bi := by omega
    by_cases hbig : 36 < bi
    · have HB2 : Hid (36 < bi) := hbig
      clear hlow2
      go_enter Tryz.func25, Tryz.ntmps25
      go_wp2
      go_ret2
      exact .inl ⟨.inr (.inl HB2.out), rfl, Below.refl _ _⟩
    · obtain ⟨b, rfl⟩ := Int.eq_ofNat_of_zero_le (show 0 ≤ bi by omega)
      have hb2 : 2 ≤ b := by omega
      have hb36 : b ≤ 36 := by omega
      have h36i : (b : Int) ≤ 36 := by omega
      have HBB : Hid (2 ≤ (b : Int) ∧ (b : Int) ≤ 36) := ⟨h2i, h36i⟩
      clear hlow2 hbig
      by_cases hlen : 2000 < s.size
      · have HL : Hid (2000 < s.data.toList.length) := by show _ < _; rw [hsl]; exact hlen
        have hli : (2000 : Int) < s.size := by omega
        clear hlen hsl
        go_enter Tryz.func25, Tryz.ntmps25
        go_wp2
        go_ret2
        exact .inl ⟨.inr (.inr (.inl HL.out)), rfl, Below.refl _ _⟩
      · have HLEN : Hid (s.data.toList.length ≤ 2000) := by show _ ≤ _; rw [hsl]; omega
        have hli : (s.size : Int) ≤ 2000 := by omega
        have c1 := fun W => (Tryz.strings_HasPrefix s ⟨#[45]⟩ W).mono fun _ w' (h : _ ∧ w' = W) => (⟨h.1, h.2.symm⟩ : _ ∧ W = w')
        rw [show ((⟨#[45]⟩ : ByteArray).data.toList) = [45] from rfl, prefG] at c1
        have c2 := fun W => (Tryz.strings_HasPrefix s ⟨#[43]⟩ W).mono fun _ w' (h : _ ∧ w' = W) => (⟨h.1, h.2.symm⟩ : _ ∧ W = w')
        rw [show ((⟨#[43]⟩ : ByteArray).data.toList) = [43] from rfl, prefG] at c2
        have hpos : ∀ c, s.data.toList.head? = some c → 1 ≤ s.size := fun c h => by
          rw [← hsl]
          cases hh : s.data.toList with
          | nil => rw [hh] at h; cases h
          | cons x m => simp
        have htl : (s.extract 1 s.size).data.toList = s.data.toList.tail := tail_bytes s
        have hts : (s.extract 1 s.size).size ≤ 2000 := by
          have h2 : (s.extract 1 s.size).size = (s.extract 1 s.size).data.toList.length := rfl
          rw [h2, htl, List.length_tail]; omega
        by_cases hneg : s.data.toList.head? = some 45
        · have hp1 := hpos _ hneg
          have c1 := c1
          rw [decide_eq_true hneg] at c1
          have C1 := Lib.hid c1
          have HTB0 : Hid ((s.extract 1 s.size).data.toList = parD s.data.toList) := by show _ = _; unfold parD; rw [if_pos (.inl hneg)]; exact htl
          have HSG : Hid (decide (s.data.toList.head? = some 45) = true) := decide_eq_true hneg
          clear c1 c2 hpos htl hneg hlen hsl
          go_enter Tryz.func25, Tryz.ntmps25
          go_wp2_with fail
          refine (C1.out _).mono ?_
          rintro e w1 ⟨rfl, rfl⟩
          go_wp2_with fail
          have HTB := HTB0
          clear HTB0
          generalize hTT : s.extract 1 s.size = tb at *
          clear hTT
          go_loopw [7, 8] (fun v i wr => ∃ (k acc : Nat), k ≤ tb.size ∧ i = .int .i64 k ∧ Hid (Dg wr v acc) ∧ acc < 100 ^ k ∧ Hid (rdR b ((tb.data.toList.take k).getLast?) (tb.data.toList.drop k) acc = rdR b none tb.data.toList 0) ∧ Below w.heap.size w wr) (fun _ i _ => tb.size - (intOf i).toNat)
          case atStart => exact ⟨0, 0, Nat.zero_le _, rfl, dg_nil _, by rw [Nat.pow_zero]; omega, rfl, Below.refl _ _⟩
          case round =>
            obtain ⟨k, acc, hk, rfl, hv, hacc, HR, hbl⟩ := hrel
            obtain ⟨wo, rfl⟩ : ∃ wo : World, wo = wr := ⟨_, rfl⟩
            obtain ⟨pv, cv, rfl, -, -, -⟩ := hv.out.cells
            by_cases hlt : k < tb.size
            · have hk2 : k ≤ 2000 := by omega
              have hat := rdR_at b tb.data.toList k (by simpa using hlt) acc
              rw [HR.out, show tb.data.toList[k]'(by simpa using hlt) = tb[k] from rfl, show tb.data.toList.length = tb.size from rfl] at hat
              have hlt0 := tb[k].toNat_lt
              have hci := index_dig b tb[k]
              have ci : ∀ (W : World) (x : Int), x.toNat.toUInt8 = lowC tb[k] → Calls Tryz.prog 75 #[.string (symsB.extract 0 b), .int .u8 x] W fun e w' => e = .returned (.int .i64 (match digC b tb[k] with | some d => (d : Int) | none => -1)) ∧ W = w' := fun W x hx => by
                have := Tryz.strings_IndexByte (symsB.extract 0 b) x W
                rw [syms_take, hx, hci] at this
                exact this.mono fun _ _ h => ⟨h.1, h.2.symm⟩
              have htne : tb.data.toList ≠ [] := fun h => by have h2 : tb.size = tb.data.toList.length := rfl; rw [h2, h] at hlt; simp at hlt
              have hno : rdR b none tb.data.toList 0 = none → rdN b (parD s.data.toList) = none := fun h => by rw [← HTB.out, rdN_rdR b (by omega), if_neg htne]; exact h
              by_cases hc : tb[k] = 95
              · have hc95 : (tb[k].toNat : Int) = 95 := by rw [hc]; rfl
                have hdn : digC b tb[k] = none := by rw [hc]; exact dig_line b (by omega)
                have hlow : ((95 : Int)).toNat.toUInt8 = lowC tb[k] := by rw [hc]; rfl
                rw [hdn] at ci hat
                have CI := Lib.hid ci
                by_cases hok : (0 < k ∧ tb.data.toList[k - 1]? ≠ some 95) ∧ (k + 1 < tb.size ∧ tb.data.toList[k + 1]? ≠ some 95)
                · rw [if_pos ⟨hc, hok⟩] at hat
                  have HST := Lib.hid hat.symm
                  obtain ⟨⟨h1, h2⟩, h3, h4⟩ := hok
                  obtain ⟨j, rfl⟩ : ∃ j, k = j + 1 := ⟨k - 1, by omega⟩
                  have hj : j < tb.size := by omega
                  have hp : ¬ ((tb[j].toNat : Int) = 95) := fun h => h2 (by rw [Nat.add_sub_cancel, List.getElem?_eq_getElem (by simpa using hj)]; show some tb[j] = some 95; rw [show tb[j] = 95 from UInt8.toNat_inj.1 (by simp; omega)])
                  have hn : ¬ ((tb[j + 1 + 1].toNat : Int) = 95) := fun h => h4 (by rw [List.getElem?_eq_getElem (by simpa using h3)]; show some tb[j + 1 + 1] = some 95; rw [show tb[j + 1 + 1] = 95 from UInt8.toNat_inj.1 (by simp; omega)])
                  have hpb : ((tb[j].toNat : Int) != 95) = true := by simpa using hp
                  have hnb : ((tb[j + 1 + 1].toNat : Int) != 95) = true := by simpa using hn
                  have hi1 : ((j : Int) + 1) < (tb.size : Int) - 1 := by omega
                  have hacc3 : acc < 100 ^ (j + 1 + 1) := Nat.lt_of_lt_of_le hacc (Nat.pow_le_pow_right (by omega) (by omega))
                  clear hat hci ci hno h2 h4 hlow hdn hc hk2
                  go_wp2
                  go_roundw
                  case rel => exact ⟨j + 1 + 1, acc, by omega, by go_num, hv, hacc3, HST, hbl⟩
                  case measure => simp [intOf]; omega
                · rw [if_neg (fun h => hok h.2)] at hat
                  have HNO := Lib.hid (hno hat)
                  clear hat hci ci hno hdn hc hk2
                  by_cases h0 : k = 0
                  · subst h0
                    clear hok
                    go_wp2_with fail
                    refine (CI.out _ _ hlow).mono ?_
                    rintro e wq ⟨rfl, rfl⟩
                    go_wp2
                    go_ret2
                    exact .inl ⟨.inr (.inr (.inr (by rw [Int.toNat_natCast]; exact HNO.out))), rfl, hbl⟩
                  · obtain ⟨j, rfl⟩ : ∃ j, k = j + 1 := ⟨k - 1, by omega⟩
                    have hj : j < tb.size := by omega
                    by_cases hlast : j + 1 + 1 < tb.size
                    · have hi1 : ((j : Int) + 1) < (tb.size : Int) - 1 := by omega
                      by_cases hp : tb[j] = 95
                      · have hp95 : (tb[j].toNat : Int) = 95 := by rw [hp]; rfl
                        clear hok hp h0
                        go_wp2_with fail
                        refine (CI.out _ _ hlow).mono ?_
                        rintro e wq ⟨rfl, rfl⟩
                        go_wp2
                        go_ret2
                        exact .inl ⟨.inr (.inr (.inr (by rw [Int.toNat_natCast]; exact HNO.out))), rfl, hbl⟩
                      · have hp95 : ¬ ((tb[j].toNat : Int) = 95) := fun h => hp (UInt8.toNat_inj.1 (by simp; omega))
                        have hn95 : (tb[j + 1 + 1].toNat : Int) = 95 := by
                          by_cases h4 : tb[j + 1 + 1] = 95
                          · rw [h4]; rfl
                          · exfalso
                            refine hok ⟨⟨by omega, ?_⟩, hlast, ?_⟩
                            · rw [Nat.add_sub_cancel, List.getElem?_eq_getElem (by simpa using hj)]
                              show some tb[j] ≠ some 95
                              simpa using hp
                            · rw [List.getElem?_eq_getElem (by simpa using hlast)]
                              show some tb[j + 1 + 1] ≠ some 95
                              simpa using h4
                        have hpb : ((tb[j].toNat : Int) != 95) = true := by simpa using hp95
                        have hnb : ((tb[j + 1 + 1].toNat : Int) != 95) = false := by simp [hn95]
                        clear hok hp h0
                        go_wp2_with fail
                        refine (CI.out _ _ hlow).mono ?_
                        rintro e wq ⟨rfl, rfl⟩
                        go_wp2
                        go_ret2
                        exact .inl ⟨.inr (.inr (.inr (by rw [Int.toNat_natCast]; exact HNO.out))), rfl, hbl⟩
                    · have hi1 : ¬ (((j : Int) + 1) < (tb.size : Int) - 1) := by omega
                      clear hok h0
                      go_wp2_with fail
                      refine (CI.out _ _ hlow).mono ?_
                      rintro e wq ⟨rfl, rfl⟩
                      go_wp2
                      go_ret2
                      exact .inl ⟨.inr (.inr (.inr (by rw [Int.toNat_natCast]; exact HNO.out))), rfl, hbl⟩
              · have hc95 : ¬ ((tb[k].toNat : Int) = 95) := fun h => hc (UInt8.toNat_inj.1 (by simp; omega))
                rw [if_neg (fun h => hc h.1)] at hat
                cases hd : digC b tb[k] with
                | none =>
                  rw [hd] at ci hat
                  have CI := Lib.hid ci
                  have HNO := Lib.hid (hno hat)
                  clear hat hci ci hno hd hc hk2
                  by_cases h65 : 65 ≤ tb[k].toNat
                  · by_cases h90 : tb[k].toNat ≤ 90
                    · have hlow := low_big _ h65 h90
                      go_wp2_with fail
                      refine (CI.out _ _ hlow).mono ?_
                      rintro e wq ⟨rfl, rfl⟩
                      go_wp2
                      go_ret2
                      exact .inl ⟨.inr (.inr (.inr (by rw [Int.toNat_natCast]; exact HNO.out))), rfl, hbl⟩
                    · have hlow := low_small tb[k] (.inr (by omega))
                      go_wp2_with fail
                      refine (CI.out _ _ hlow).mono ?_
                      rintro e wq ⟨rfl, rfl⟩
                      go_wp2
                      go_ret2
                      exact .inl ⟨.inr (.inr (.inr (by rw [Int.toNat_natCast]; exact HNO.out))), rfl, hbl⟩
                  · have hlow := low_small tb[k] (.inl (by omega))
                    go_wp2_with fail
                    refine (CI.out _ _ hlow).mono ?_
                    rintro e wq ⟨rfl, rfl⟩
                    go_wp2
                    go_ret2
                    exact .inl ⟨.inr (.inr (.inr (by rw [Int.toNat_natCast]; exact HNO.out))), rfl, hbl⟩
                | some d =>
                  rw [hd] at ci hat
                  have CI := Lib.hid ci
                  have HST := Lib.hid hat.symm
                  have hdb := digC_lt hd
                  have hd0 : ¬ ((d : Int) < 0) := by omega
                  clear hat hci ci hno hd hc
                  by_cases h65 : 65 ≤ tb[k].toNat
                  · by_cases h90 : tb[k].toNat ≤ 90
                    · have hlow := low_big _ h65 h90
                      go_wp2_with fail
                      refine (CI.out _ _ hlow).mono ?_
                      rintro e wq ⟨rfl, rfl⟩
                      go_wp2_with fail
                      refine (t78 b wo (by omega)).mono ?_
                      rintro e w3 ⟨v3, rfl, hv3, hb3, -⟩
                      obtain ⟨p3, c3, rfl, -, -, -⟩ := hv3.cells
                      have D4 := Lib.hid (t77 _ _ acc b w3 (hv.out.below hb3) hv3 (Nat.le_trans (ld_hund hacc) (by omega)) (Nat.le_trans (Ld_le.2 (show b < 10 ^ 2 by omega)) (by omega)))
                      have hB3 := bThen1 hbl hb3
                      clear hv3 hb3
                      go_wp2_with fail
                      refine D4.out.mono ?_
                      rintro e w4 ⟨v4, rfl, hv4, hb4, -⟩
                      obtain ⟨p4, c4, rfl, -, -, -⟩ := hv4.cells
                      have hB4 := bThen1 hB3 hb4
                      have HV4 := Lib.hid hv4
                      clear hv4 hb4 D4 hB3
                      go_wp2_with fail
                      refine (t78 d w4 (by omega)).mono ?_
                      rintro e w5 ⟨v5, rfl, hv5, hb5, -⟩
                      obtain ⟨p5, c5, rfl, -, -, -⟩ := hv5.cells
                      have hmul : acc * b < 100 ^ (k + 1) := by have := ld_step hacc hb36 hdb; omega
                      have D6 := Lib.hid (t76 _ _ (acc * b) d w5 (HV4.out.below hb5) hv5 (Nat.le_trans (ld_hund hmul) (by omega)) (Nat.le_trans (Ld_le.2 (show d < 10 ^ 2 by omega)) (by omega)))
                      have hB5 := bThen1 hB4 hb5
                      clear hv5 hb5 hB4 HV4 hmul
                      go_wp2_with fail
                      refine D6.out.mono ?_
                      rintro e w6 ⟨v6, rfl, hv6, hb6, -⟩
                      obtain ⟨p6, c6, rfl, -, -, -⟩ := hv6.cells
                      have hB6 := bThen1 hB5 hb6
                      have HV6 := Lib.hid hv6
                      have hac2 := ld_step hacc hb36 hdb
                      clear hv6 hb6 D6 hB5
                      go_wp2
                      go_roundw
                      case rel => exact ⟨k + 1, acc * b + d, by omega, by go_num, HV6, hac2, HST, hB6⟩
                      case measure => simp [intOf]; omega
                    · have hlow := low_small tb[k] (.inr (by omega))
                      go_wp2_with fail
                      refine (CI.out _ _ hlow).mono ?_
                      rintro e wq ⟨rfl, rfl⟩
                      go_wp2_with fail
                      refine (t78 b wo (by omega)).mono ?_
                      rintro e w3 ⟨v3, rfl, hv3, hb3, -⟩
                      obtain ⟨p3, c3, rfl, -, -, -⟩ := hv3.cells
                      have D4 := Lib.hid (t77 _ _ acc b w3 (hv.out.below hb3) hv3 (Nat.le_trans (ld_hund hacc) (by omega)) (Nat.le_trans (Ld_le.2 (show b < 10 ^ 2 by omega)) (by omega)))
                      have hB3 := bThen1 hbl hb3
                      clear hv3 hb3
                      go_wp2_with fail
                      refine D4.out.mono ?_
                      rintro e w4 ⟨v4, rfl, hv4, hb4, -⟩
                      obtain ⟨p4, c4, rfl, -, -, -⟩ := hv4.cells
                      have hB4 := bThen1 hB3 hb4
                      have HV4 := Lib.hid hv4
                      clear hv4 hb4 D4 hB3
                      go_wp2_with fail
                      refine (t78 d w4 (by omega)).mono ?_
                      rintro e w5 ⟨v5, rfl, hv5, hb5, -⟩
                      obtain ⟨p5, c5, rfl, -, -, -⟩ := hv5.cells
                      have hmul : acc * b < 100 ^ (k + 1) := by have := ld_step hacc hb36 hdb; omega
                      have D6 := Lib.hid (t76 _ _ (acc * b) d w5 (HV4.out.below hb5) hv5 (Nat.le_trans (ld_hund hmul) (by omega)) (Nat.le_trans (Ld_le.2 (show d < 10 ^ 2 by omega)) (by omega)))
                      have hB5 := bThen1 hB4 hb5
                      clear hv5 hb5 hB4 HV4 hmul
                      go_wp2_with fail
                      refine D6.out.mono ?_
                      rintro e w6 ⟨v6, rfl, hv6, hb6, -⟩
                      obtain ⟨p6, c6, rfl, -, -, -⟩ := hv6.cells
                      have hB6 := bThen1 hB5 hb6
                      have HV6 := Lib.hid hv6
                      have hac2 := ld_step hacc hb36 hdb
                      clear hv6 hb6 D6 hB5
                      go_wp2
                      go_roundw
                      case rel => exact ⟨k + 1, acc * b + d, by omega, by go_num, HV6, hac2, HST, hB6⟩
                      case measure => simp [intOf]; omega
                  · have hlow := low_small tb[k] (.inl (by omega))
                    go_wp2_with fail
                    refine (CI.out _ _ hlow).mono ?_
                    rintro e wq ⟨rfl, rfl⟩
                    go_wp2_with fail
                    refine (t78 b wo (by omega)).mono ?_
                    rintro e w3 ⟨v3, rfl, hv3, hb3, -⟩
                    obtain ⟨p3, c3, rfl, -, -, -⟩ := hv3.cells
                    have D4 := Lib.hid (t77 _ _ acc b w3 (hv.out.below hb3) hv3 (Nat.le_trans (ld_hund hacc) (by omega)) (Nat.le_trans (Ld_le.2 (show b < 10 ^ 2 by omega)) (by omega)))
                    have hB3 := bThen1 hbl hb3
                    clear hv3 hb3
                    go_wp2_with fail
                    refine D4.out.mono ?_
                    rintro e w4 ⟨v4, rfl, hv4, hb4, -⟩
                    obtain ⟨p4, c4, rfl, -, -, -⟩ := hv4.cells
                    have hB4 := bThen1 hB3 hb4
                    have HV4 := Lib.hid hv4
                    clear hv4 hb4 D4 hB3
                    go_wp2_with fail
                    refine (t78 d w4 (by omega)).mono ?_
                    rintro e w5 ⟨v5, rfl, hv5, hb5, -⟩
                    obtain ⟨p5, c5, rfl, -, -, -⟩ := hv5.cells
                    have hmul : acc * b < 100 ^ (k + 1) := by have := ld_step hacc hb36 hdb; omega
                    have D6 := Lib.hid (t76 _ _ (acc * b) d w5 (HV4.out.below hb5) hv5 (Nat.le_trans (ld_hund hmul) (by omega)) (Nat.le_trans (Ld_le.2 (show d < 10 ^ 2 by omega)) (by omega)))
                    have hB5 := bThen1 hB4 hb5
                    clear hv5 hb5 hB4 HV4 hmul
                    go_wp2_with fail
                    refine D6.out.mono ?_
                    rintro e w6 ⟨v6, rfl, hv6, hb6, -⟩
                    obtain ⟨p6, c6, rfl, -, -, -⟩ := hv6.cells
                    have hB6 := bThen1 hB5 hb6
                    have HV6 := Lib.hid hv6
                    have hac2 := ld_step hacc hb36 hdb
                    clear hv6 hb6 D6 hB5
                    go_wp2
                    go_roundw
                    case rel => exact ⟨k + 1, acc * b + d, by omega, by go_num, HV6, hac2, HST, hB6⟩
                    case measure => simp [intOf]; omega
            · obtain rfl : k = tb.size := by omega
              have hend := HR.out
              rw [show tb.data.toList.drop tb.size = [] from List.drop_eq_nil_of_le (by simp), show rdR b ((tb.data.toList.take tb.size).getLast?) [] acc = some acc from rfl] at hend
              by_cases he : tb.size = 0
              · have hte : tb = ⟨#[]⟩ := by
                  apply ByteArray.ext
                  exact Array.eq_empty_of_size_eq_zero he
                have HNO : Hid (rdN b (parD s.data.toList) = none) := by
                  show _ = _
                  rw [← HTB.out, rdN_rdR b (by omega), if_pos (by rw [hte])]
                have hq : (tb.toList == ([] : List UInt8)) = true := by rw [hte, ByteArray.toList_eq]; rfl
                clear hend hte hlt hk he
                go_wp2
                go_ret2
                exact .inl ⟨.inr (.inr (.inr (by rw [Int.toNat_natCast]; exact HNO.out))), rfl, hbl⟩
              · have htne : tb.data.toList ≠ [] := fun h => he (by have h2 : tb.size = tb.data.toList.length := rfl; rw [h2, h]; rfl)
                have hq : (tb.toList == ([] : List UInt8)) = false := str_ne (l := []) (fun h => he (by rw [h]; rfl))
                have HNO : Hid (rdN b (parD s.data.toList) = some acc) := by
                  show _ = _
                  rw [← HTB.out, rdN_rdR b (by omega), if_neg htne, ← hend]
                have hla : Ld acc ≤ 4000 := Nat.le_trans (ld_hund hacc) (by omega)
                have C4 := Lib.hid (t79 true _ acc wo hv.out)
                obtain ⟨sg, hsg⟩ : ∃ sg : Bool, sg = (true && decide (0 < acc)) := ⟨_, rfl⟩
                rw [← hsg] at C4
                have C5 := Lib.hid (fun (W : World) (h : Below wo.heap.size wo W) => t62 (parZ true acc) sg (.slice pv (Ld acc) cv) W (by rw [hsg]; exact (parZ_sign true acc).1) (by rw [(parZ_sign true acc).2]; exact hv.out.below h) (by rw [(parZ_sign true acc).2]; omega))
                clear hend htne hlt hk he hsg hla HR
                go_wp2_with fail
                refine C4.out.mono ?_
                rintro e w4 ⟨rfl, hb4⟩
                have hB4 := bThen1 hbl hb4
                go_wp2_with fail
                refine (C5.out w4 hb4).mono ?_
                rintro e w5 ⟨rfl, hb5⟩
                have hB5 := bThen1 hB4 hb5
                go_wp2_with fail
                go_ret2
                exact .inr ⟨acc, HBB.out.1, HBB.out.2, HLEN.out, by rw [Int.toNat_natCast]; exact HNO.out, by rw [HSG.out]; rfl, hB5⟩

        · by_cases h43 : s.data.toList.head? = some 43
          · have hp1 := hpos _ h43
            rw [decide_eq_false hneg] at c1
            rw [decide_eq_true h43] at c2
            have C1 := Lib.hid c1
            have C2 := Lib.hid c2
            have HTB0 : Hid ((s.extract 1 s.size).data.toList = parD s.data.toList) := by show _ = _; unfold parD; rw [if_pos (.inr h43)]; exact htl
            have HSG : Hid (decide (s.data.toList.head? = some 45) = false) := decide_eq_false hneg
            clear c1 c2 hpos htl hneg hlen hsl h43
            go_enter Tryz.func25, Tryz.ntmps25
            go_wp2_with fail
            refine (C1.out _).mono ?_
            rintro e w1 ⟨rfl, rfl⟩
            go_wp2_with fail
            refine (C2.out _).mono ?_
            rintro e w1 ⟨rfl, rfl⟩
            go_wp2_with fail
            have HTB := HTB0
            clear HTB0
            generalize hTT : s.extract 1 s.size = tb at *
            clear hTT
            go_loopw [7, 8] (fun v i wr => ∃ (k acc : Nat), k ≤ tb.size ∧ i = .int .i64 k ∧ Hid (Dg wr v acc) ∧ acc < 100 ^ k ∧ Hid (rdR b ((tb.data.toList.take k).getLast?) (tb.data.toList.drop k) acc = rdR b none tb.data.toList 0) ∧ Below w.heap.size w wr) (fun _ i _ => tb.size - (intOf i).toNat)
            case atStart => exact ⟨0, 0, Nat.zero_le _, rfl, dg_nil _, by rw [Nat.pow_zero]; omega, rfl, Below.refl _ _⟩
            case round =>
              obtain ⟨k, acc, hk, rfl, hv, hacc, HR, hbl⟩ := hrel
              obtain ⟨wo, rfl⟩ : ∃ wo : World, wo = wr := ⟨_, rfl⟩
              obtain ⟨pv, cv, rfl, -, -, -⟩ := hv.out.cells
              by_cases hlt : k < tb.size
              · have hk2 : k ≤ 2000 := by omega
                have hat := rdR_at b tb.data.toList k (by simpa using hlt) acc
                rw [HR.out, show tb.data.toList[k]'(by simpa using hlt) = tb[k] from rfl, show tb.data.toList.length = tb.size from rfl] at hat
                have hlt0 := tb[k].toNat_lt
                have hci := index_dig b tb[k]
                have ci : ∀ (W : World) (x : Int), x.toNat.toUInt8 = lowC tb[k] → Calls Tryz.prog 75 #[.string (symsB.extract 0 b), .int .u8 x] W fun e w' => e = .returned (.int .i64 (match digC b tb[k] with | some d => (d : Int) | none => -1)) ∧ W = w' := fun W x hx => by
                  have := Tryz.strings_IndexByte (symsB.extract 0 b) x W
                  rw [syms_take, hx, hci] at this
                  exact this.mono fun _ _ h => ⟨h.1, h.2.symm⟩
                have htne : tb.data.toList ≠ [] := fun h => by have h2 : tb.size = tb.data.toList.length := rfl; rw [h2, h] at hlt; simp at hlt
                have hno : rdR b none tb.data.toList 0 = none → rdN b (parD s.data.toList) = none := fun h => by rw [← HTB.out, rdN_rdR b (by omega), if_neg htne]; exact h
                by_cases hc : tb[k] = 95
                · have hc95 : (tb[k].toNat : Int) = 95 := by rw [hc]; rfl
                  have hdn : digC b tb[k] = none := by rw [hc]; exact dig_line b (by omega)
                  have hlow : ((95 : Int)).toNat.toUInt8 = lowC tb[k] := by rw [hc]; rfl
                  rw [hdn] at ci hat
                  have CI := Lib.hid ci
                  by_cases hok : (0 < k ∧ tb.data.toList[k - 1]? ≠ some 95) ∧ (k + 1 < tb.size ∧ tb.data.toList[k + 1]? ≠ some 95)
                  · rw [if_pos ⟨hc, hok⟩] at hat
                    have HST := Lib.hid hat.symm
                    obtain ⟨⟨h1, h2⟩, h3, h4⟩ := hok
                    obtain ⟨j, rfl⟩ : ∃ j, k = j + 1 := ⟨k - 1, by omega⟩
                    have hj : j < tb.size := by omega
                    have hp : ¬ ((tb[j].toNat : Int) = 95) := fun h => h2 (by rw [Nat.add_sub_cancel, List.getElem?_eq_getElem (by simpa using hj)]; show some tb[j] = some 95; rw [show tb[j] = 95 from UInt8.toNat_inj.1 (by simp; omega)])
                    have hn : ¬ ((tb[j + 1 + 1].toNat : Int) = 95) := fun h => h4 (by rw [List.getElem?_eq_getElem (by simpa using h3)]; show some tb[j + 1 + 1] = some 95; rw [show tb[j + 1 + 1] = 95 from UInt8.toNat_inj.1 (by simp; omega)])
                    have hpb : ((tb[j].toNat : Int) != 95) = true := by simpa using hp
                    have hnb : ((tb[j + 1 + 1].toNat : Int) != 95) = true := by simpa using hn
                    have hi1 : ((j : Int) + 1) < (tb.size : Int) - 1 := by omega
                    have hacc3 : acc < 100 ^ (j + 1 + 1) := Nat.lt_of_lt_of_le hacc (Nat.pow_le_pow_right (by omega) (by omega))
                    clear hat hci ci hno h2 h4 hlow hdn hc hk2
                    go_wp2
                    go_roundw
                    case rel => exact ⟨j + 1 + 1, acc, by omega, by go_num, hv, hacc3, HST, hbl⟩
                    case measure => simp [intOf]; omega
                  · rw [if_neg (fun h => hok h.2)] at hat
                    have HNO := Lib.hid (hno hat)
                    clear hat hci ci hno hdn hc hk2
                    by_cases h0 : k = 0
                    · subst h0
                      clear hok
                      go_wp2_with fail
                      refine (CI.out _ _ hlow).mono ?_
                      rintro e wq ⟨rfl, rfl⟩
                      go_wp2
                      go_ret2
                      exact .inl ⟨.inr (.inr (.inr (by rw [Int.toNat_natCast]; exact HNO.out))), rfl, hbl⟩
                    · obtain ⟨j, rfl⟩ : ∃ j, k = j + 1 := ⟨k - 1, by omega⟩
                      have hj : j < tb.size := by omega
                      by_cases hlast : j + 1 + 1 < tb.size
                      · have hi1 : ((j : Int) + 1) < (tb.size : Int) - 1 := by omega
                        by_cases hp : tb[j] = 95
                        · have hp95 : (tb[j].toNat : Int) = 95 := by rw [hp]; rfl
                          clear hok hp h0
                          go_wp2_with fail
                          refine (CI.out _ _ hlow).mono ?_
                          rintro e wq ⟨rfl, rfl⟩
                          go_wp2
                          go_ret2
                          exact .inl ⟨.inr (.inr (.inr (by rw [Int.toNat_natCast]; exact HNO.out))), rfl, hbl⟩
                        · have hp95 : ¬ ((tb[j].toNat : Int) = 95) := fun h => hp (UInt8.toNat_inj.1 (by simp; omega))
                          have hn95 : (tb[j + 1 + 1].toNat : Int) = 95 := by
                            by_cases h4 : tb[j + 1 + 1] = 95
                            · rw [h4]; rfl
                            · exfalso
                              refine hok ⟨⟨by omega, ?_⟩, hlast, ?_⟩
                              · rw [Nat.add_sub_cancel, List.getElem?_eq_getElem (by simpa using hj)]
                                show some tb[j] ≠ some 95
                                simpa using hp
                              · rw [List.getElem?_eq_getElem (by simpa using hlast)]
                                show some tb[j + 1 + 1] ≠ some 95
                                simpa using h4
                          have hpb : ((tb[j].toNat : Int) != 95) = true := by simpa using hp95
                          have hnb : ((tb[j + 1 + 1].toNat : Int) != 95) = false := by simp [hn95]
                          clear hok hp h0
                          go_wp2_with fail
                          refine (CI.out _ _ hlow).mono ?_
                          rintro e wq ⟨rfl, rfl⟩
                          go_wp2
                          go_ret2
                          exact .inl ⟨.inr (.inr (.inr (by rw [Int.toNat_natCast]; exact HNO.out))), rfl, hbl⟩
                      · have hi1 : ¬ (((j : Int) + 1) < (tb.size : Int) - 1) := by omega
                        clear hok h0
                        go_wp2_with fail
                        refine (CI.out _ _ hlow).mono ?_
                        rintro e wq ⟨rfl, rfl⟩
                        go_wp2
                        go_ret2
                        exact .inl ⟨.inr (.inr (.inr (by rw [Int.toNat_natCast]; exact HNO.out))), rfl, hbl⟩
                · have hc95 : ¬ ((tb[k].toNat : Int) = 95) := fun h => hc (UInt8.toNat_inj.1 (by simp; omega))
                  rw [if_neg (fun h => hc h.1)] at hat
                  cases hd : digC b tb[k] with
                  | none =>
                    rw [hd] at ci hat
                    have CI := Lib.hid ci
                    have HNO := Lib.hid (hno hat)
                    clear hat hci ci hno hd hc hk2
                    by_cases h65 : 65 ≤ tb[k].toNat
                    · by_cases h90 : tb[k].toNat ≤ 90
                      · have hlow := low_big _ h65 h90
                        go_wp2_with fail
                        refine (CI.out _ _ hlow).mono ?_
                        rintro e wq ⟨rfl, rfl⟩
                        go_wp2
                        go_ret2
                        exact .inl ⟨.inr (.inr (.inr (by rw [Int.toNat_natCast]; exact HNO.out))), rfl, hbl⟩
                      · have hlow := low_small tb[k] (.inr (by omega))
                        go_wp2_with fail
                        refine (CI.out _ _ hlow).mono ?_
                        rintro e wq ⟨rfl, rfl⟩
                        go_wp2
                        go_ret2
                        exact .inl ⟨.inr (.inr (.inr (by rw [Int.toNat_natCast]; exact HNO.out))), rfl, hbl⟩
                    · have hlow := low_small tb[k] (.inl (by omega))
                      go_wp2_with fail
                      refine (CI.out _ _ hlow).mono ?_
                      rintro e wq ⟨rfl, rfl⟩
                      go_wp2
                      go_ret2
                      exact .inl ⟨.inr (.inr (.inr (by rw [Int.toNat_natCast]; exact HNO.out))), rfl, hbl⟩
                  | some d =>
                    rw [hd] at ci hat
                    have CI := Lib.hid ci
                    have HST := Lib.hid hat.symm
                    have hdb := digC_lt hd
                    have hd0 : ¬ ((d : Int) < 0) := by omega
                    clear hat hci ci hno hd hc
                    by_cases h65 : 65 ≤ tb[k].toNat
                    · by_cases h90 : tb[k].toNat ≤ 90
                      · have hlow := low_big _ h65 h90
                        go_wp2_with fail
                        refine (CI.out _ _ hlow).mono ?_
                        rintro e wq ⟨rfl, rfl⟩
                        go_wp2_with fail
                        refine (t78 b wo (by omega)).mono ?_
                        rintro e w3 ⟨v3, rfl, hv3, hb3, -⟩
                        obtain ⟨p3, c3, rfl, -, -, -⟩ := hv3.cells
                        have D4 := Lib.hid (t77 _ _ acc b w3 (hv.out.below hb3) hv3 (Nat.le_trans (ld_hund hacc) (by omega)) (Nat.le_trans (Ld_le.2 (show b < 10 ^ 2 by omega)) (by omega)))
                        have hB3 := bThen1 hbl hb3
                        clear hv3 hb3
                        go_wp2_with fail
                        refine D4.out.mono ?_
                        rintro e w4 ⟨v4, rfl, hv4, hb4, -⟩
                        obtain ⟨p4, c4, rfl, -, -, -⟩ := hv4.cells
                        have hB4 := bThen1 hB3 hb4
                        have HV4 := Lib.hid hv4
                        clear hv4 hb4 D4 hB3
                        go_wp2_with fail
                        refine (t78 d w4 (by omega)).mono ?_
                        rintro e w5 ⟨v5, rfl, hv5, hb5, -⟩
                        obtain ⟨p5, c5, rfl, -, -, -⟩ := hv5.cells
                        have hmul : acc * b < 100 ^ (k + 1) := by have := ld_step hacc hb36 hdb; omega
                        have D6 := Lib.hid (t76 _ _ (acc * b) d w5 (HV4.out.below hb5) hv5 (Nat.le_trans (ld_hund hmul) (by omega)) (Nat.le_trans (Ld_le.2 (show d < 10 ^ 2 by omega)) (by omega)))
                        have hB5 := bThen1 hB4 hb5
                        clear hv5 hb5 hB4 HV4 hmul
                        go_wp2_with fail
                        refine D6.out.mono ?_
                        rintro e w6 ⟨v6, rfl, hv6, hb6, -⟩
                        obtain ⟨p6, c6, rfl, -, -, -⟩ := hv6.cells
                        have hB6 := bThen1 hB5 hb6
                        have HV6 := Lib.hid hv6
                        have hac2 := ld_step hacc hb36 hdb
                        clear hv6 hb6 D6 hB5
                        go_wp2
                        go_roundw
                        case rel => exact ⟨k + 1, acc * b + d, by omega, by go_num, HV6, hac2, HST, hB6⟩
                        case measure => simp [intOf]; omega
                      · have hlow := low_small tb[k] (.inr (by omega))
                        go_wp2_with fail
                        refine (CI.out _ _ hlow).mono ?_
                        rintro e wq ⟨rfl, rfl⟩
                        go_wp2_with fail
                        refine (t78 b wo (by omega)).mono ?_
                        rintro e w3 ⟨v3, rfl, hv3, hb3, -⟩
                        obtain ⟨p3, c3, rfl, -, -, -⟩ := hv3.cells
                        have D4 := Lib.hid (t77 _ _ acc b w3 (hv.out.below hb3) hv3 (Nat.le_trans (ld_hund hacc) (by omega)) (Nat.le_trans (Ld_le.2 (show b < 10 ^ 2 by omega)) (by omega)))
                        have hB3 := bThen1 hbl hb3
                        clear hv3 hb3
                        go_wp2_with fail
                        refine D4.out.mono ?_
                        rintro e w4 ⟨v4, rfl, hv4, hb4, -⟩
                        obtain ⟨p4, c4, rfl, -, -, -⟩ := hv4.cells
                        have hB4 := bThen1 hB3 hb4
                        have HV4 := Lib.hid hv4
                        clear hv4 hb4 D4 hB3
                        go_wp2_with fail
                        refine (t78 d w4 (by omega)).mono ?_
                        rintro e w5 ⟨v5, rfl, hv5, hb5, -⟩
                        obtain ⟨p5, c5, rfl, -, -, -⟩ := hv5.cells
                        have hmul : acc * b < 100 ^ (k + 1) := by have := ld_step hacc hb36 hdb; omega
                        have D6 := Lib.hid (t76 _ _ (acc * b) d w5 (HV4.out.below hb5) hv5 (Nat.le_trans (ld_hund hmul) (by omega)) (Nat.le_trans (Ld_le.2 (show d < 10 ^ 2 by omega)) (by omega)))
                        have hB5 := bThen1 hB4 hb5
                        clear hv5 hb5 hB4 HV4 hmul
                        go_wp2_with fail
                        refine D6.out.mono ?_
                        rintro e w6 ⟨v6, rfl, hv6, hb6, -⟩
                        obtain ⟨p6, c6, rfl, -, -, -⟩ := hv6.cells
                        have hB6 := bThen1 hB5 hb6
                        have HV6 := Lib.hid hv6
                        have hac2 := ld_step hacc hb36 hdb
                        clear hv6 hb6 D6 hB5
                        go_wp2
                        go_roundw
                        case rel => exact ⟨k + 1, acc * b + d, by omega, by go_num, HV6, hac2, HST, hB6⟩
                        case measure => simp [intOf]; omega
                    · have hlow := low_small tb[k] (.inl (by omega))
                      go_wp2_with fail
                      refine (CI.out _ _ hlow).mono ?_
                      rintro e wq ⟨rfl, rfl⟩
                      go_wp2_with fail
                      refine (t78 b wo (by omega)).mono ?_
                      rintro e w3 ⟨v3, rfl, hv3, hb3, -⟩
                      obtain ⟨p3, c3, rfl, -, -, -⟩ := hv3.cells
                      have D4 := Lib.hid (t77 _ _ acc b w3 (hv.out.below hb3) hv3 (Nat.le_trans (ld_hund hacc) (by omega)) (Nat.le_trans (Ld_le.2 (show b < 10 ^ 2 by omega)) (by omega)))
                      have hB3 := bThen1 hbl hb3
                      clear hv3 hb3
                      go_wp2_with fail
                      refine D4.out.mono ?_
                      rintro e w4 ⟨v4, rfl, hv4, hb4, -⟩
                      obtain ⟨p4, c4, rfl, -, -, -⟩ := hv4.cells
                      have hB4 := bThen1 hB3 hb4
                      have HV4 := Lib.hid hv4
                      clear hv4 hb4 D4 hB3
                      go_wp2_with fail
                      refine (t78 d w4 (by omega)).mono ?_
                      rintro e w5 ⟨v5, rfl, hv5, hb5, -⟩
                      obtain ⟨p5, c5, rfl, -, -, -⟩ := hv5.cells
                      have hmul : acc * b < 100 ^ (k + 1) := by have := ld_step hacc hb36 hdb; omega
                      have D6 := Lib.hid (t76 _ _ (acc * b) d w5 (HV4.out.below hb5) hv5 (Nat.le_trans (ld_hund hmul) (by omega)) (Nat.le_trans (Ld_le.2 (show d < 10 ^ 2 by omega)) (by omega)))
                      have hB5 := bThen1 hB4 hb5
                      clear hv5 hb5 hB4 HV4 hmul
                      go_wp2_with fail
                      refine D6.out.mono ?_
                      rintro e w6 ⟨v6, rfl, hv6, hb6, -⟩
                      obtain ⟨p6, c6, rfl, -, -, -⟩ := hv6.cells
                      have hB6 := bThen1 hB5 hb6
                      have HV6 := Lib.hid hv6
                      have hac2 := ld_step hacc hb36 hdb
                      clear hv6 hb6 D6 hB5
                      go_wp2
                      go_roundw
                      case rel => exact ⟨k + 1, acc * b + d, by omega, by go_num, HV6, hac2, HST, hB6⟩
                      case measure => simp [intOf]; omega
              · obtain rfl : k = tb.size := by omega
                have hend := HR.out
                rw [show tb.data.toList.drop tb.size = [] from List.drop_eq_nil_of_le (by simp), show rdR b ((tb.data.toList.take tb.size).getLast?) [] acc = some acc from rfl] at hend
                by_cases he : tb.size = 0
                · have hte : tb = ⟨#[]⟩ := by
                    apply ByteArray.ext
                    exact Array.eq_empty_of_size_eq_zero he
                  have HNO : Hid (rdN b (parD s.data.toList) = none) := by
                    show _ = _
                    rw [← HTB.out, rdN_rdR b (by omega), if_pos (by rw [hte])]
                  have hq : (tb.toList == ([] : List UInt8)) = true := by rw [hte, ByteArray.toList_eq]; rfl
                  clear hend hte hlt hk he
                  go_wp2
                  go_ret2
                  exact .inl ⟨.inr (.inr (.inr (by rw [Int.toNat_natCast]; exact HNO.out))), rfl, hbl⟩
                · have htne : tb.data.toList ≠ [] := fun h => he (by have h2 : tb.size = tb.data.toList.length := rfl; rw [h2, h]; rfl)
                  have hq : (tb.toList == ([] : List UInt8)) = false := str_ne (l := []) (fun h => he (by rw [h]; rfl))
                  have HNO : Hid (rdN b (parD s.data.toList) = some acc) := by
                    show _ = _
                    rw [← HTB.out, rdN_rdR b (by omega), if_neg htne, ← hend]
                  have hla : Ld acc ≤ 4000 := Nat.le_trans (ld_hund hacc) (by omega)
                  have C4 := Lib.hid (t79 false _ acc wo hv.out)
                  obtain ⟨sg, hsg⟩ : ∃ sg : Bool, sg = (false && decide (0 < acc)) := ⟨_, rfl⟩
                  rw [← hsg] at C4
                  have C5 := Lib.hid (fun (W : World) (h : Below wo.heap.size wo W) => t62 (parZ false acc) sg (.slice pv (Ld acc) cv) W (by rw [hsg]; exact (parZ_sign false acc).1) (by rw [(parZ_sign false acc).2]; exact hv.out.below h) (by rw [(parZ_sign false acc).2]; omega))
                  clear hend htne hlt hk he hsg hla HR
                  go_wp2_with fail
                  refine C4.out.mono ?_
                  rintro e w4 ⟨rfl, hb4⟩
                  have hB4 := bThen1 hbl hb4
                  go_wp2_with fail
                  refine (C5.out w4 hb4).mono ?_
                  rintro e w5 ⟨rfl, hb5⟩
                  have hB5 := bThen1 hB4 hb5
                  go_wp2_with fail
                  go_ret2
                  exact .inr ⟨acc, HBB.out.1, HBB.out.2, HLEN.out, by rw [Int.toNat_natCast]; exact HNO.out, by rw [HSG.out]; rfl, hB5⟩

          · rw [decide_eq_false hneg] at c1
            rw [decide_eq_false h43] at c2
            have C1 := Lib.hid c1
            have C2 := Lib.hid c2
            have HTB : Hid (s.data.toList = parD s.data.toList) := by show _ = _; unfold parD; rw [if_neg (fun h => h.elim hneg h43)]
            have HSG : Hid (decide (s.data.toList.head? = some 45) = false) := decide_eq_false hneg
            have hts0 : s.size ≤ 2000 := by omega
            clear c1 c2 hpos htl hts hneg hlen hsl h43
            go_enter Tryz.func25, Tryz.ntmps25
            go_wp2_with fail
            refine (C1.out _).mono ?_
            rintro e w1 ⟨rfl, rfl⟩
            go_wp2_with fail
            refine (C2.out _).mono ?_
            rintro e w1 ⟨rfl, rfl⟩
            go_wp2_with fail
            have hts := hts0
            generalize hTT : s = tb at *
            clear hTT
            go_loopw [7, 8] (fun v i wr => ∃ (k acc : Nat), k ≤ tb.size ∧ i = .int .i64 k ∧ Hid (Dg wr v acc) ∧ acc < 100 ^ k ∧ Hid (rdR b ((tb.data.toList.take k).getLast?) (tb.data.toList.drop k) acc = rdR b none tb.data.toList 0) ∧ Below w.heap.size w wr) (fun _ i _ => tb.size - (intOf i).toNat)
            case atStart => exact ⟨0, 0, Nat.zero_le _, rfl, dg_nil _, by rw [Nat.pow_zero]; omega, rfl, Below.refl _ _⟩
            case round =>
              obtain ⟨k, acc, hk, rfl, hv, hacc, HR, hbl⟩ := hrel
              obtain ⟨wo, rfl⟩ : ∃ wo : World, wo = wr := ⟨_, rfl⟩
              obtain ⟨pv, cv, rfl, -, -, -⟩ := hv.out.cells
              by_cases hlt : k < tb.size
              · have hk2 : k ≤ 2000 := by omega
                have hat := rdR_at b tb.data.toList k (by simpa using hlt) acc
                rw [HR.out, show tb.data.toList[k]'(by simpa using hlt) = tb[k] from rfl, show tb.data.toList.length = tb.size from rfl] at hat
                have hlt0 := tb[k].toNat_lt
                have hci := index_dig b tb[k]
                have ci : ∀ (W : World) (x : Int), x.toNat.toUInt8 = lowC tb[k] → Calls Tryz.prog 75 #[.string (symsB.extract 0 b), .int .u8 x] W fun e w' => e = .returned (.int .i64 (match digC b tb[k] with | some d => (d : Int) | none => -1)) ∧ W = w' := fun W x hx => by
                  have := Tryz.strings_IndexByte (symsB.extract 0 b) x W
                  rw [syms_take, hx, hci] at this
                  exact this.mono fun _ _ h => ⟨h.1, h.2.symm⟩
                have htne : tb.data.toList ≠ [] := fun h => by have h2 : tb.size = tb.data.toList.length := rfl; rw [h2, h] at hlt; simp at hlt
                have hno : rdR b none tb.data.toList 0 = none → rdN b (parD tb.data.toList) = none := fun h => by rw [← HTB.out, rdN_rdR b (by omega), if_neg htne]; exact h
                by_cases hc : tb[k] = 95
                · have hc95 : (tb[k].toNat : Int) = 95 := by rw [hc]; rfl
                  have hdn : digC b tb[k] = none := by rw [hc]; exact dig_line b (by omega)
                  have hlow : ((95 : Int)).toNat.toUInt8 = lowC tb[k] := by rw [hc]; rfl
                  rw [hdn] at ci hat
                  have CI := Lib.hid ci
                  by_cases hok : (0 < k ∧ tb.data.toList[k - 1]? ≠ some 95) ∧ (k + 1 < tb.size ∧ tb.data.toList[k + 1]? ≠ some 95)
                  · rw [if_pos ⟨hc, hok⟩] at hat
                    have HST := Lib.hid hat.symm
                    obtain ⟨⟨h1, h2⟩, h3, h4⟩ := hok
                    obtain ⟨j, rfl⟩ : ∃ j, k = j + 1 := ⟨k - 1, by omega⟩
                    have hj : j < tb.size := by omega
                    have hp : ¬ ((tb[j].toNat : Int) = 95) := fun h => h2 (by rw [Nat.add_sub_cancel, List.getElem?_eq_getElem (by simpa using hj)]; show some tb[j] = some 95; rw [show tb[j] = 95 from UInt8.toNat_inj.1 (by simp; omega)])
                    have hn : ¬ ((tb[j + 1 + 1].toNat : Int) = 95) := fun h => h4 (by rw [List.getElem?_eq_getElem (by simpa using h3)]; show some tb[j + 1 + 1] = some 95; rw [show tb[j + 1 + 1] = 95 from UInt8.toNat_inj.1 (by simp; omega)])
                    have hpb : ((tb[j].toNat : Int) != 95) = true := by simpa using hp
                    have hnb : ((tb[j + 1 + 1].toNat : Int) != 95) = true := by simpa using hn
                    have hi1 : ((j : Int) + 1) < (tb.size : Int) - 1 := by omega
                    have hacc3 : acc < 100 ^ (j + 1 + 1) := Nat.lt_of_lt_of_le hacc (Nat.pow_le_pow_right (by omega) (by omega))
                    clear hat hci ci hno h2 h4 hlow hdn hc hk2
                    go_wp2
                    go_roundw
                    case rel => exact ⟨j + 1 + 1, acc, by omega, by go_num, hv, hacc3, HST, hbl⟩
                    case measure => simp [intOf]; omega
                  · rw [if_neg (fun h => hok h.2)] at hat
                    have HNO := Lib.hid (hno hat)
                    clear hat hci ci hno hdn hc hk2
                    by_cases h0 : k = 0
                    · subst h0
                      clear hok
                      go_wp2_with fail
                      refine (CI.out _ _ hlow).mono ?_
                      rintro e wq ⟨rfl, rfl⟩
                      go_wp2
                      go_ret2
                      exact .inl ⟨.inr (.inr (.inr (by rw [Int.toNat_natCast]; exact HNO.out))), rfl, hbl⟩
                    · obtain ⟨j, rfl⟩ : ∃ j, k = j + 1 := ⟨k - 1, by omega⟩
                      have hj : j < tb.size := by omega
                      by_cases hlast : j + 1 + 1 < tb.size
                      · have hi1 : ((j : Int) + 1) < (tb.size : Int) - 1 := by omega
                        by_cases hp : tb[j] = 95
                        · have hp95 : (tb[j].toNat : Int) = 95 := by rw [hp]; rfl
                          clear hok hp h0
                          go_wp2_with fail
                          refine (CI.out _ _ hlow).mono ?_
                          rintro e wq ⟨rfl, rfl⟩
                          go_wp2
                          go_ret2
                          exact .inl ⟨.inr (.inr (.inr (by rw [Int.toNat_natCast]; exact HNO.out))), rfl, hbl⟩
                        · have hp95 : ¬ ((tb[j].toNat : Int) = 95) := fun h => hp (UInt8.toNat_inj.1 (by simp; omega))
                          have hn95 : (tb[j + 1 + 1].toNat : Int) = 95 := by
                            by_cases h4 : tb[j + 1 + 1] = 95
                            · rw [h4]; rfl
                            · exfalso
                              refine hok ⟨⟨by omega, ?_⟩, hlast, ?_⟩
                              · rw [Nat.add_sub_cancel, List.getElem?_eq_getElem (by simpa using hj)]
                                show some tb[j] ≠ some 95
                                simpa using hp
                              · rw [List.getElem?_eq_getElem (by simpa using hlast)]
                                show some tb[j + 1 + 1] ≠ some 95
                                simpa using h4
                          have hpb : ((tb[j].toNat : Int) != 95) = true := by simpa using hp95
                          have hnb : ((tb[j + 1 + 1].toNat : Int) != 95) = false := by simp [hn95]
                          clear hok hp h0
                          go_wp2_with fail
                          refine (CI.out _ _ hlow).mono ?_
                          rintro e wq ⟨rfl, rfl⟩
                          go_wp2
                          go_ret2
                          exact .inl ⟨.inr (.inr (.inr (by rw [Int.toNat_natCast]; exact HNO.out))), rfl, hbl⟩
                      · have hi1 : ¬ (((j : Int) + 1) < (tb.size : Int) - 1) := by omega
                        clear hok h0
                        go_wp2_with fail
                        refine (CI.out _ _ hlow).mono ?_
                        rintro e wq ⟨rfl, rfl⟩
                        go_wp2
                        go_ret2
                        exact .inl ⟨.inr (.inr (.inr (by rw [Int.toNat_natCast]; exact HNO.out))), rfl, hbl⟩
                · have hc95 : ¬ ((tb[k].toNat : Int) = 95) := fun h => hc (UInt8.toNat_inj.1 (by simp; omega))
                  rw [if_neg (fun h => hc h.1)] at hat
                  cases hd : digC b tb[k] with
                  | none =>
                    rw [hd] at ci hat
                    have CI := Lib.hid ci
                    have HNO := Lib.hid (hno hat)
                    clear hat hci ci hno hd hc hk2
                    by_cases h65 : 65 ≤ tb[k].toNat
                    · by_cases h90 : tb[k].toNat ≤ 90
                      · have hlow := low_big _ h65 h90
                        go_wp2_with fail
                        refine (CI.out _ _ hlow).mono ?_
                        rintro e wq ⟨rfl, rfl⟩
                        go_wp2
                        go_ret2
                        exact .inl ⟨.inr (.inr (.inr (by rw [Int.toNat_natCast]; exact HNO.out))), rfl, hbl⟩
                      · have hlow := low_small tb[k] (.inr (by omega))
                        go_wp2_with fail
                        refine (CI.out _ _ hlow).mono ?_
                        rintro e wq ⟨rfl, rfl⟩
                        go_wp2
                        go_ret2
                        exact .inl ⟨.inr (.inr (.inr (by rw [Int.toNat_natCast]; exact HNO.out))), rfl, hbl⟩
                    · have hlow := low_small tb[k] (.inl (by omega))
                      go_wp2_with fail
                      refine (CI.out _ _ hlow).mono ?_
                      rintro e wq ⟨rfl, rfl⟩
                      go_wp2
                      go_ret2
                      exact .inl ⟨.inr (.inr (.inr (by rw [Int.toNat_natCast]; exact HNO.out))), rfl, hbl⟩
                  | some d =>
                    rw [hd] at ci hat
                    have CI := Lib.hid ci
                    have HST := Lib.hid hat.symm
                    have hdb := digC_lt hd
                    have hd0 : ¬ ((d : Int) < 0) := by omega
                    clear hat hci ci hno hd hc
                    by_cases h65 : 65 ≤ tb[k].toNat
                    · by_cases h90 : tb[k].toNat ≤ 90
                      · have hlow := low_big _ h65 h90
                        go_wp2_with fail
                        refine (CI.out _ _ hlow).mono ?_
                        rintro e wq ⟨rfl, rfl⟩
                        go_wp2_with fail
                        refine (t78 b wo (by omega)).mono ?_
                        rintro e w3 ⟨v3, rfl, hv3, hb3, -⟩
                        obtain ⟨p3, c3, rfl, -, -, -⟩ := hv3.cells
                        have D4 := Lib.hid (t77 _ _ acc b w3 (hv.out.below hb3) hv3 (Nat.le_trans (ld_hund hacc) (by omega)) (Nat.le_trans (Ld_le.2 (show b < 10 ^ 2 by omega)) (by omega)))
                        have hB3 := bThen1 hbl hb3
                        clear hv3 hb3
                        go_wp2_with fail
                        refine D4.out.mono ?_
                        rintro e w4 ⟨v4, rfl, hv4, hb4, -⟩
                        obtain ⟨p4, c4, rfl, -, -, -⟩ := hv4.cells
                        have hB4 := bThen1 hB3 hb4
                        have HV4 := Lib.hid hv4
                        clear hv4 hb4 D4 hB3
                        go_wp2_with fail
                        refine (t78 d w4 (by omega)).mono ?_
                        rintro e w5 ⟨v5, rfl, hv5, hb5, -⟩
                        obtain ⟨p5, c5, rfl, -, -, -⟩ := hv5.cells
                        have hmul : acc * b < 100 ^ (k + 1) := by have := ld_step hacc hb36 hdb; omega
                        have D6 := Lib.hid (t76 _ _ (acc * b) d w5 (HV4.out.below hb5) hv5 (Nat.le_trans (ld_hund hmul) (by omega)) (Nat.le_trans (Ld_le.2 (show d < 10 ^ 2 by omega)) (by omega)))
                        have hB5 := bThen1 hB4 hb5
                        clear hv5 hb5 hB4 HV4 hmul
                        go_wp2_with fail
                        refine D6.out.mono ?_
                        rintro e w6 ⟨v6, rfl, hv6, hb6, -⟩
                        obtain ⟨p6, c6, rfl, -, -, -⟩ := hv6.cells
                        have hB6 := bThen1 hB5 hb6
                        have HV6 := Lib.hid hv6
                        have hac2 := ld_step hacc hb36 hdb
                        clear hv6 hb6 D6 hB5
                        go_wp2
                        go_roundw
                        case rel => exact ⟨k + 1, acc * b + d, by omega, by go_num, HV6, hac2, HST, hB6⟩
                        case measure => simp [intOf]; omega
                      · have hlow := low_small tb[k] (.inr (by omega))
                        go_wp2_with fail
                        refine (CI.out _ _ hlow).mono ?_
                        rintro e wq ⟨rfl, rfl⟩
                        go_wp2_with fail
                        refine (t78 b wo (by omega)).mono ?_
                        rintro e w3 ⟨v3, rfl, hv3, hb3, -⟩
                        obtain ⟨p3, c3, rfl, -, -, -⟩ := hv3.cells
                        have D4 := Lib.hid (t77 _ _ acc b w3 (hv.out.below hb3) hv3 (Nat.le_trans (ld_hund hacc) (by omega)) (Nat.le_trans (Ld_le.2 (show b < 10 ^ 2 by omega)) (by omega)))
                        have hB3 := bThen1 hbl hb3
                        clear hv3 hb3
                        go_wp2_with fail
                        refine D4.out.mono ?_
                        rintro e w4 ⟨v4, rfl, hv4, hb4, -⟩
                        obtain ⟨p4, c4, rfl, -, -, -⟩ := hv4.cells
                        have hB4 := bThen1 hB3 hb4
                        have HV4 := Lib.hid hv4
                        clear hv4 hb4 D4 hB3
                        go_wp2_with fail
                        refine (t78 d w4 (by omega)).mono ?_
                        rintro e w5 ⟨v5, rfl, hv5, hb5, -⟩
                        obtain ⟨p5, c5, rfl, -, -, -⟩ := hv5.cells
                        have hmul : acc * b < 100 ^ (k + 1) := by have := ld_step hacc hb36 hdb; omega
                        have D6 := Lib.hid (t76 _ _ (acc * b) d w5 (HV4.out.below hb5) hv5 (Nat.le_trans (ld_hund hmul) (by omega)) (Nat.le_trans (Ld_le.2 (show d < 10 ^ 2 by omega)) (by omega)))
                        have hB5 := bThen1 hB4 hb5
                        clear hv5 hb5 hB4 HV4 hmul
                        go_wp2_with fail
                        refine D6.out.mono ?_
                        rintro e w6 ⟨v6, rfl, hv6, hb6, -⟩
                        obtain ⟨p6, c6, rfl, -, -, -⟩ := hv6.cells
                        have hB6 := bThen1 hB5 hb6
                        have HV6 := Lib.hid hv6
                        have hac2 := ld_step hacc hb36 hdb
                        clear hv6 hb6 D6 hB5
                        go_wp2
                        go_roundw
                        case rel => exact ⟨k + 1, acc * b + d, by omega, by go_num, HV6, hac2, HST, hB6⟩
                        case measure => simp [intOf]; omega
                    · have hlow := low_small tb[k] (.inl (by omega))
                      go_wp2_with fail
                      refine (CI.out _ _ hlow).mono ?_
                      rintro e wq ⟨rfl, rfl⟩
                      go_wp2_with fail
                      refine (t78 b wo (by omega)).mono ?_
                      rintro e w3 ⟨v3, rfl, hv3, hb3, -⟩
                      obtain ⟨p3, c3, rfl, -, -, -⟩ := hv3.cells
                      have D4 := Lib.hid (t77 _ _ acc b w3 (hv.out.below hb3) hv3 (Nat.le_trans (ld_hund hacc) (by omega)) (Nat.le_trans (Ld_le.2 (show b < 10 ^ 2 by omega)) (by omega)))
                      have hB3 := bThen1 hbl hb3
                      clear hv3 hb3
                      go_wp2_with fail
                      refine D4.out.mono ?_
                      rintro e w4 ⟨v4, rfl, hv4, hb4, -⟩
                      obtain ⟨p4, c4, rfl, -, -, -⟩ := hv4.cells
                      have hB4 := bThen1 hB3 hb4
                      have HV4 := Lib.hid hv4
                      clear hv4 hb4 D4 hB3
                      go_wp2_with fail
                      refine (t78 d w4 (by omega)).mono ?_
                      rintro e w5 ⟨v5, rfl, hv5, hb5, -⟩
                      obtain ⟨p5, c5, rfl, -, -, -⟩ := hv5.cells
                      have hmul : acc * b < 100 ^ (k + 1) := by have := ld_step hacc hb36 hdb; omega
                      have D6 := Lib.hid (t76 _ _ (acc * b) d w5 (HV4.out.below hb5) hv5 (Nat.le_trans (ld_hund hmul) (by omega)) (Nat.le_trans (Ld_le.2 (show d < 10 ^ 2 by omega)) (by omega)))
                      have hB5 := bThen1 hB4 hb5
                      clear hv5 hb5 hB4 HV4 hmul
                      go_wp2_with fail
                      refine D6.out.mono ?_
                      rintro e w6 ⟨v6, rfl, hv6, hb6, -⟩
                      obtain ⟨p6, c6, rfl, -, -, -⟩ := hv6.cells
                      have hB6 := bThen1 hB5 hb6
                      have HV6 := Lib.hid hv6
                      have hac2 := ld_step hacc hb36 hdb
                      clear hv6 hb6 D6 hB5
                      go_wp2
                      go_roundw
                      case rel => exact ⟨k + 1, acc * b + d, by omega, by go_num, HV6, hac2, HST, hB6⟩
                      case measure => simp [intOf]; omega
              · obtain rfl : k = tb.size := by omega
                have hend := HR.out
                rw [show tb.data.toList.drop tb.size = [] from List.drop_eq_nil_of_le (by simp), show rdR b ((tb.data.toList.take tb.size).getLast?) [] acc = some acc from rfl] at hend
                by_cases he : tb.size = 0
                · have hte : tb = ⟨#[]⟩ := by
                    apply ByteArray.ext
                    exact Array.eq_empty_of_size_eq_zero he
                  have HNO : Hid (rdN b (parD tb.data.toList) = none) := by
                    show _ = _
                    rw [← HTB.out, rdN_rdR b (by omega), if_pos (by rw [hte])]
                  have hq : (tb.toList == ([] : List UInt8)) = true := by rw [hte, ByteArray.toList_eq]; rfl
                  clear hend hte hlt hk he
                  go_wp2
                  go_ret2
                  exact .inl ⟨.inr (.inr (.inr (by rw [Int.toNat_natCast]; exact HNO.out))), rfl, hbl⟩
                · have htne : tb.data.toList ≠ [] := fun h => he (by have h2 : tb.size = tb.data.toList.length := rfl; rw [h2, h]; rfl)
                  have hq : (tb.toList == ([] : List UInt8)) = false := str_ne (l := []) (fun h => he (by rw [h]; rfl))
                  have HNO : Hid (rdN b (parD tb.data.toList) = some acc) := by
                    show _ = _
                    rw [← HTB.out, rdN_rdR b (by omega), if_neg htne, ← hend]
                  have hla : Ld acc ≤ 4000 := Nat.le_trans (ld_hund hacc) (by omega)
                  have C4 := Lib.hid (t79 false _ acc wo hv.out)
                  obtain ⟨sg, hsg⟩ : ∃ sg : Bool, sg = (false && decide (0 < acc)) := ⟨_, rfl⟩
                  rw [← hsg] at C4
                  have C5 := Lib.hid (fun (W : World) (h : Below wo.heap.size wo W) => t62 (parZ false acc) sg (.slice pv (Ld acc) cv) W (by rw [hsg]; exact (parZ_sign false acc).1) (by rw [(parZ_sign false acc).2]; exact hv.out.below h) (by rw [(parZ_sign false acc).2]; omega))
                  clear hend htne hlt hk he hsg hla HR
                  go_wp2_with fail
                  refine C4.out.mono ?_
                  rintro e w4 ⟨rfl, hb4⟩
                  have hB4 := bThen1 hbl hb4
                  go_wp2_with fail
                  refine (C5.out w4 hb4).mono ?_
                  rintro e w5 ⟨rfl, hb5⟩
                  have hB5 := bThen1 hB4 hb5
                  go_wp2_with fail
                  go_ret2
                  exact .inr ⟨acc, HBB.out.1, HBB.out.2, HLEN.out, by rw [Int.toNat_natCast]; exact HNO.out, by rw [HSG.out]; rfl, hB5⟩
theorem bThen1' {w X Y : World} (h : Below w.heap.size w X) (k : Below X.heap.size X Y) : Below w.heap.size w Y := h.trans (k.mono h.size)
theorem num_zero {s : ByteArray} {z : Int} (h : IsNum s.data.toList z) : s = (⟨#[48]⟩ : ByteArray) ↔ z = 0 := by
  constructor
  · intro h1
    rw [h1] at h
    exact num_one h (show IsNum ((⟨#[48]⟩ : ByteArray).data.toList) 0 from ⟨rfl, by decide⟩)
  · intro h1
    apply ByteArray.ext
    apply Array.toList_inj.1
    rw [h.1, h1]; rfl
theorem num_first {s : ByteArray} {z : Int} (h : IsNum s.data.toList z) : ∃ hp : 0 < s.size, s[0].toNat = 45 ↔ z < 0 := by
  have hs : s = numS z := by
    apply ByteArray.ext
    apply Array.toList_inj.1
    rw [h.1]; simp [numS]
  subst hs
  refine ⟨numS_pos z, ?_⟩
  rw [← numS_first z]
  exact ⟨fun h => UInt8.toNat_inj.1 h, fun h => by rw [h]; rfl⟩
/-- digits behind a sign, from the top down -/
def bsL (neg : Bool) (b N k : Nat) : List UInt8 := (if neg then [45] else []) ++ (((dgs b N).drop k).reverse.map chr)
theorem bsL_step (neg : Bool) (b N k : Nat) (hk : k < (dgs b N).length) : bsL neg b N (k + 1) ++ [chr (dgs b N)[k]] = bsL neg b N k := by
  unfold bsL
  rw [List.drop_eq_getElem_cons hk, List.reverse_cons, List.map_append, List.append_assoc]
  rfl
theorem bsL_top (neg : Bool) (b N : Nat) : bsL neg b N (dgs b N).length = if neg then [45] else [] := by
  unfold bsL
  rw [List.drop_length]
  simp
theorem bsL_end (b : Nat) (z : Int) (hz : z ≠ 0) : bsL (decide (z < 0)) b z.natAbs 0 = txtZ b z := by
  unfold txtZ
  by_cases h : z < 0
  · rw [decide_eq_true h, if_pos h]
    unfold bsL txt
    rw [if_neg (show ¬ z.natAbs = 0 by omega), List.drop_zero]
    rfl
  · rw [decide_eq_false h, if_neg h]
    unfold bsL txt
    rw [if_neg (show ¬ z.natAbs = 0 by omega), List.drop_zero]
    rfl
theorem bsL_len (neg : Bool) (b N k : Nat) : (bsL neg b N k).length ≤ (dgs b N).length + 1 := by
  unfold bsL
  rw [List.length_append, List.length_map, List.length_reverse, List.length_drop]
  split
  · rw [List.length_singleton]; omega
  · simp; omega
theorem Db.cells {b : Nat} {w : World} {v : Value} {n : Nat} (h : Db b w v n) : ∃ p cap, v = .slice p (dgs b n).length cap ∧ (dgs b n).length ≤ cap ∧ cap ≤ maxLen ∧ ∀ (k x : Nat), (dgs b n)[k]? = some x → ∃ g, p = some ⟨g, 0, none⟩ ∧ g < w.heap.size ∧ w.cell? ⟨g, k, none⟩ = some (.int .i64 x) := by
  rcases row_read h with ⟨h1, h2, _⟩ | ⟨g, cap, h1, h2, h3, h4, h5⟩
  · exact ⟨none, 0, by rw [h2]; exact h1, by omega, by unfold maxLen; omega, fun k x hx => by rw [List.length_eq_zero_iff.1 h2] at hx; cases hx⟩
  · exact ⟨_, cap, h1, h2, h3, fun k x hx => ⟨g, rfl, h4, h5 k _ (c64_get hx)⟩⟩
theorem Db.below {b : Nat} {w w' : World} {v : Value} {n : Nat} (h : Db b w v n) (hb : Below w.heap.size w w') : Db b w' v n := ownsRow_below h hb
set_option maxRecDepth 100000 in
set_option maxHeartbeats 4000000 in
theorem t23 (s : ByteArray) (bi : Int) (w : World) (hs : s.size ≤ 9223372036854775807) : Calls Tryz.prog 23 #[.string s, .int .i64 bi] w (BaseR s.data.toList bi w) := by
  have HC0 := all1 s w hs
  have HB0 : Hid (Below w.heap.size w (w.alloc (.cells #[.string s] 9))) := bSelf0 w _
  clear hs
  cases hv : vldL s.data.toList with
  | false =>
    rw [hv] at HC0
    have HC := Lib.hid HC0
    have HV := Lib.hid hv
    clear hv HC0
    go_enter Tryz.func23, Tryz.ntmps23
    go_wp2_with fail
    refine HC.out.mono ?_
    rintro e w1 ⟨rfl, rfl⟩
    go_wp2_with fail
    go_ret2
    exact .inl ⟨.inl HV.out, rfl, HB0.out⟩
  | true =>
    rw [hv] at HC0
    have HC := Lib.hid HC0
    obtain ⟨z, hz⟩ := vldL_num _ hv
    have HZ := Lib.hid hz
    clear hv HC0
    by_cases hlow : bi < 2
    · have HB2 : Hid (bi < 2) := hlow
      clear hz
      go_enter Tryz.func23, Tryz.ntmps23
      go_wp2_with fail
      refine HC.out.mono ?_
      rintro e w1 ⟨rfl, rfl⟩
      go_wp2_with fail
      go_ret2
      exact .inl ⟨.inr (.inl HB2.out), rfl, HB0.out⟩
    · have h2i : 2 ≤ bi := by omega
      by_cases hbig : 36 < bi
      · have HB2 : Hid (36 < bi) := hbig
        clear hz hlow
        go_enter Tryz.func23, Tryz.ntmps23
        go_wp2_with fail
        refine HC.out.mono ?_
        rintro e w1 ⟨rfl, rfl⟩
        go_wp2_with fail
        go_ret2
        exact .inl ⟨.inr (.inr HB2.out), rfl, HB0.out⟩
      · obtain ⟨b, rfl⟩ := Int.eq_ofNat_of_zero_le (show 0 ≤ bi by omega)
        have hb2 : 2 ≤ b := by omega
        have hb36 : b ≤ 36 := by omega
        have h36i : (b : Int) ≤ 36 := by omega
        have HBB : Hid (2 ≤ (b : Int) ∧ (b : Int) ≤ 36) := ⟨h2i, h36i⟩
        clear hlow hbig
        by_cases h0 : z = 0
        · have hs0 : s = (⟨#[48]⟩ : ByteArray) := (num_zero hz).2 h0
          have h48 : (s.toList == [48]) = true := by rw [hs0, ByteArray.toList_eq]; rfl
          have HT : Hid (txtZ b z = [48]) := by show _ = _; rw [h0]; rfl
          clear hz h0 hs0
          go_enter Tryz.func23, Tryz.ntmps23
          go_wp2_with fail
          refine HC.out.mono ?_
          rintro e w1 ⟨rfl, rfl⟩
          go_wp2_with fail
          go_ret2
          exact .inr ⟨z, HZ.out, HBB.out.1, HBB.out.2, by rw [Int.toNat_natCast, HT.out]; rfl, HB0.out⟩
        · have h48 : (s.toList == [48]) = false := str_ne (l := [48]) (fun h => h0 ((num_zero hz).1 h))
          obtain ⟨hp, hfirst⟩ := num_first hz
          have HZ0 := Lib.hid h0
          have hlz := ldf hz.2
          obtain ⟨la, hla⟩ : ∃ la : Nat, la = (dgs b z.natAbs).length := ⟨_, rfl⟩
          have hl4 : la ≤ 4 * 400 := by rw [hla]; exact dgs_four hb2 hz.2
          have HAL := Lib.hid hla.symm
          clear hz
          by_cases hn : z < 0
          · have h45 : (s[0].toNat : Int) = 45 := by have := hfirst.2 hn; omega
            have HSG : Hid (decide (z < 0) = true) := decide_eq_true hn
            clear h0 hn hfirst hla
            go_enter Tryz.func23, Tryz.ntmps23
            go_wp2_with fail
            refine HC.out.mono ?_
            rintro e w1 ⟨rfl, rfl⟩
            go_wp2_with fail
            refine (t60 s z _ HZ.out).mono ?_
            rintro e w2 ⟨v2, rfl, hv2, hb2'⟩
            have D3 := Lib.hid (t70 v2 z.natAbs b w2 hv2 hlz hb2 hb36)
            have hB2 := bThen1' HB0.out hb2'
            obtain ⟨p2, c2, rfl, -, -, -⟩ := hv2.cells
            have hrf := fun W => run_field1 (decide (z < 0)) p2 (Ld z.natAbs) c2 W
            obtain ⟨sg, hsg⟩ : ∃ sg : Bool, sg = decide (z < 0) := ⟨_, rfl⟩
            rw [← hsg] at hrf ⊢
            clear hv2 hb2' hsg
            go_wp2_with fail
            refine D3.out.mono ?_
            rintro e w3 ⟨v3, rfl, hv3, hb3⟩
            obtain ⟨p3, c3, rfl, a1, a2, hA3⟩ := hv3.cells
            unfold maxLen at a2
            rw [HAL.out] at a1 ⊢
            have HA := Lib.hid hA3
            have HB3 := Lib.hid (bThen1' hB2 hb3)
            clear hv3 hb3 hA3 D3 hrf hB2
            go_upto_region 6 with fail
            generalize hWW : w3 = W at *
            go_wp2_with (at_builtin; refine app8 rfl _ _ rfl W.heap.size (.slice none 0 0) _ [] rfl ((World.ownsRow_nil W W.heap.size 5 1).alloc _) W.heap.size 1 45 rfl ((Blk.new W _ 5).cell 0 rfl) (by omega) (by simp) ?_; intro v' w4 hown' hgrow; have hb4 : Below W.heap.size W w4 := ((Below.refl W.heap.size W).alloc (Nat.le_refl _) (.cells #[.int .u8 45] 5)).grown (show World.grownBy _ w4 none from hgrow.out) (by simp) (fun q hq => by cases hq))
            go_loopw [7, 8] (fun u i wr => ∃ k : Nat, k ≤ la ∧ i = .int .i64 ((k : Int) - 1) ∧ Hid (wr.ownsRow W.heap.size 5 1 u (bsL true b z.natAbs k).length (c8 (bsL true b z.natAbs k))) ∧ Below W.heap.size W wr) (fun _ i _ => (intOf i + 1).toNat)
            case atStart => exact ⟨la, Nat.le_refl _, rfl, by have h9 := bsL_top true b z.natAbs; rw [HAL.out] at h9; rw [h9]; exact ⟨hown'.out, hb4⟩⟩
            case round =>
              obtain ⟨k, hk, rfl, hrow, hbl⟩ := hrel
              obtain ⟨pu, cu, rfl⟩ := row_form hrow.out
              have hbW := bThen1' HB3.out hbl
              by_cases h0 : k = 0
              · subst h0
                have hcv := conv_row wr W.heap.size _ (bsL true b z.natAbs 0) (by simpa [Lib.byteCells] using hrow.out)
                have HYS : Hid (bsL true b z.natAbs 0 = txtZ b z) := by
                  show _ = _
                  rw [← bsL_end b z HZ0.out, HSG.out]
                go_wp2_with fail
                go_ret2
                exact .inr ⟨z, HZ.out, HBB.out.1, HBB.out.2, by rw [Int.toNat_natCast, ← HYS.out]; rfl, hbW⟩
              · obtain ⟨j, rfl⟩ : ∃ j, k = j + 1 := ⟨k - 1, by omega⟩
                have hja : j < (dgs b z.natAbs).length := by rw [HAL.out]; omega
                obtain ⟨ga, rfl, -, hca0⟩ := HA.out j _ (List.getElem?_eq_getElem hja)
                have hca : wr.cell? ⟨ga, j, none⟩ = some (.int .i64 ((dgs b z.natAbs)[j] : Nat)) := (hbl.cell (p := ⟨ga, j, none⟩) (World.block_lt_of_cell? W _ hca0)).trans hca0
                have hxl : (dgs b z.natAbs)[j] < b := dgs_lt (b := b) (by omega) _ _ (List.getElem_mem hja)
                have hst := bsL_step true b z.natAbs j hja
                have hln := bsL_len true b z.natAbs (j + 1)
                rw [HAL.out] at hln
                generalize (dgs b z.natAbs)[j] = x at hca hxl hst
                have HST := Lib.hid hst
                have hi0 : (0 : Int) ≤ j := by omega
                have hi1 : (j : Int) < la := by omega
                have hx36 : (x : Int) < 36 := by omega
                have HSY := Lib.hid (syms_at x (by omega))
                generalize bsL true b z.natAbs (j + 1) = ys at *
                clear hst h0 hca0
                go_wp2_with (at_builtin; refine app8 rfl _ _ rfl W.heap.size _ _ ys rfl (hrow.out.alloc _) wr.heap.size 1 (chr x) rfl ((Blk.new wr _ 5).cell 0 (congrArg some (congrArg (fun c : UInt8 => Value.int .u8 (c.toNat : Int)) HSY.out))) (by omega) (Nat.le_trans hbl.size (by simp)) ?_; intro v' w4 hown' hgrow)
                go_roundw
                case rel => exact ⟨j, by omega, by go_num, by show World.ownsRow _ _ _ _ _ _ _; rw [← HST.out, List.length_append]; exact hown'.out, (hbl.alloc hbl.size _).grown hgrow.out (Nat.le_trans hbl.size (by simp)) (fun q hq => row_own hrow.out hq)⟩
                case measure => first | (simp [intOf]; omega) | simp [intOf]
          · have h45 : ((s[0].toNat : Int) == 45) = false := by have h1 : ¬ (s[0].toNat = 45) := fun h => hn (hfirst.1 h); simp; omega
            have HSG : Hid (decide (z < 0) = false) := decide_eq_false hn
            clear h0 hn hfirst hla
            go_enter Tryz.func23, Tryz.ntmps23
            go_wp2_with fail
            refine HC.out.mono ?_
            rintro e w1 ⟨rfl, rfl⟩
            go_wp2_with fail
            refine (t60 s z _ HZ.out).mono ?_
            rintro e w2 ⟨v2, rfl, hv2, hb2'⟩
            have D3 := Lib.hid (t70 v2 z.natAbs b w2 hv2 hlz hb2 hb36)
            have hB2 := bThen1' HB0.out hb2'
            obtain ⟨p2, c2, rfl, -, -, -⟩ := hv2.cells
            have hrf := fun W => run_field1 (decide (z < 0)) p2 (Ld z.natAbs) c2 W
            obtain ⟨sg, hsg⟩ : ∃ sg : Bool, sg = decide (z < 0) := ⟨_, rfl⟩
            rw [← hsg] at hrf ⊢
            clear hv2 hb2' hsg
            go_wp2_with fail
            refine D3.out.mono ?_
            rintro e w3 ⟨v3, rfl, hv3, hb3⟩
            obtain ⟨p3, c3, rfl, a1, a2, hA3⟩ := hv3.cells
            unfold maxLen at a2
            rw [HAL.out] at a1 ⊢
            have HA := Lib.hid hA3
            have HB3 := Lib.hid (bThen1' hB2 hb3)
            clear hv3 hb3 hA3 D3 hrf hB2
            go_upto_region 6 with fail
            generalize hWW : w3 = W at *
            go_wp2_with fail
            go_loopw [7, 8] (fun u i wr => ∃ k : Nat, k ≤ la ∧ i = .int .i64 ((k : Int) - 1) ∧ Hid (wr.ownsRow W.heap.size 5 1 u (bsL false b z.natAbs k).length (c8 (bsL false b z.natAbs k))) ∧ Below W.heap.size W wr) (fun _ i _ => (intOf i + 1).toNat)
            case atStart => exact ⟨la, Nat.le_refl _, rfl, by have h9 := bsL_top false b z.natAbs; rw [HAL.out] at h9; rw [h9]; exact ⟨World.ownsRow_nil _ _ _ _, Below.refl _ _⟩⟩
            case round =>
              obtain ⟨k, hk, rfl, hrow, hbl⟩ := hrel
              obtain ⟨pu, cu, rfl⟩ := row_form hrow.out
              have hbW := bThen1' HB3.out hbl
              by_cases h0 : k = 0
              · subst h0
                have hcv := conv_row wr W.heap.size _ (bsL false b z.natAbs 0) (by simpa [Lib.byteCells] using hrow.out)
                have HYS : Hid (bsL false b z.natAbs 0 = txtZ b z) := by
                  show _ = _
                  rw [← bsL_end b z HZ0.out, HSG.out]
                go_wp2_with fail
                go_ret2
                exact .inr ⟨z, HZ.out, HBB.out.1, HBB.out.2, by rw [Int.toNat_natCast, ← HYS.out]; rfl, hbW⟩
              · obtain ⟨j, rfl⟩ : ∃ j, k = j + 1 := ⟨k - 1, by omega⟩
                have hja : j < (dgs b z.natAbs).length := by rw [HAL.out]; omega
                obtain ⟨ga, rfl, -, hca0⟩ := HA.out j _ (List.getElem?_eq_getElem hja)
                have hca : wr.cell? ⟨ga, j, none⟩ = some (.int .i64 ((dgs b z.natAbs)[j] : Nat)) := (hbl.cell (p := ⟨ga, j, none⟩) (World.block_lt_of_cell? W _ hca0)).trans hca0
                have hxl : (dgs b z.natAbs)[j] < b := dgs_lt (b := b) (by omega) _ _ (List.getElem_mem hja)
                have hst := bsL_step false b z.natAbs j hja
                have hln := bsL_len false b z.natAbs (j + 1)
                rw [HAL.out] at hln
                generalize (dgs b z.natAbs)[j] = x at hca hxl hst
                have HST := Lib.hid hst
                have hi0 : (0 : Int) ≤ j := by omega
                have hi1 : (j : Int) < la := by omega
                have hx36 : (x : Int) < 36 := by omega
                have HSY := Lib.hid (syms_at x (by omega))
                generalize bsL false b z.natAbs (j + 1) = ys at *
                clear hst h0 hca0
                go_wp2_with (at_builtin; refine app8 rfl _ _ rfl W.heap.size _ _ ys rfl (hrow.out.alloc _) wr.heap.size 1 (chr x) rfl ((Blk.new wr _ 5).cell 0 (congrArg some (congrArg (fun c : UInt8 => Value.int .u8 (c.toNat : Int)) HSY.out))) (by omega) (Nat.le_trans hbl.size (by simp)) ?_; intro v' w4 hown' hgrow)
                go_roundw
                case rel => exact ⟨j, by omega, by go_num, by show World.ownsRow _ _ _ _ _ _ _; rw [← HST.out, List.length_append]; exact hown'.out, (hbl.alloc hbl.size _).grown hgrow.out (Nat.le_trans hbl.size (by simp)) (fun q hq => row_own hrow.out hq)⟩
                case measure => first | (simp [intOf]; omega) | simp [intOf]
theorem txt_head_sign {b n : Nat} (hb : 2 ≤ b) (hb' : b < 37) : (txt b n).head? ≠ some 45 ∧ (txt b n).head? ≠ some 43 := by
  cases h : txt b n with
  | nil => exact absurd h (txt_ne b n hb)
  | cons c m =>
    have := txt_sign (b := b) (N := n) hb hb' (c := c) (by rw [h]; simp)
    simp [this.1, this.2.1]
theorem parse_base {b : Nat} (hb : 2 ≤ b) (hb' : b ≤ 36) (z : Int) : rdN b (parD (txtZ b z)) = some z.natAbs ∧ parZ (decide ((txtZ b z).head? = some 45)) z.natAbs = z := by
  have h1 := txt_head_sign (b := b) (n := z.natAbs) hb (by omega)
  by_cases hz : z < 0
  · have e : txtZ b z = 45 :: txt b z.natAbs := by unfold txtZ; rw [if_pos hz]
    rw [e]
    have e2 : parD (45 :: txt b z.natAbs) = txt b z.natAbs := by unfold parD; rw [if_pos (.inl rfl)]; rfl
    rw [e2]
    refine ⟨rdN_txt b hb (by omega) _, ?_⟩
    have e3 : decide ((45 :: txt b z.natAbs : List UInt8).head? = some 45) = true := rfl
    rw [e3]
    show -((z.natAbs : Nat) : Int) = z
    omega
  · have e : txtZ b z = txt b z.natAbs := by unfold txtZ; rw [if_neg hz]
    rw [e]
    have e2 : parD (txt b z.natAbs) = txt b z.natAbs := by unfold parD; rw [if_neg (fun h => h.elim h1.1 h1.2)]
    rw [e2]
    refine ⟨rdN_txt b hb (by omega) _, ?_⟩
    rw [decide_eq_false h1.1]
    show ((z.natAbs : Nat) : Int) = z
    omega
theorem both24 (s : ByteArray) (b : Int) (hs : s.size ≤ 9223372036854775807) : ∃ (u : ByteArray) (n : Int), (∀ W, Calls Tryz.prog 24 #[.string s, .int .i64 b] W fun e w' => e = .returned (.tuple #[.string u, .int .i64 n]) ∧ Below W.heap.size W w') ∧ (∀ W, Calls Tryz.prog 25 #[.string s, .int .i64 b] W fun e w' => e = .returned (.tuple #[.string u, .int .i64 n]) ∧ Below W.heap.size W w') := by
  by_cases h : 2 ≤ b ∧ b ≤ 36 ∧ s.data.toList.length ≤ 2000 ∧ ∃ n, rdN b.toNat (parD s.data.toList) = some n
  · obtain ⟨h1, h2, h3, n, h4⟩ := h
    have H : ∀ {w w' : World} {e : Ending}, ParQ s.data.toList b w e w' → e = .returned (.tuple #[.string (toldS (parZ (decide (s.data.toList.head? = some 45)) n)), .int .i64 (toldE (parZ (decide (s.data.toList.head? = some 45)) n))]) ∧ Below w.heap.size w w' := fun k => by
      rcases k with ⟨k, -, -⟩ | ⟨n', -, -, -, k4, k5, k6⟩
      · exfalso
        rcases k with k | k | k | k
        · omega
        · omega
        · omega
        · rw [h4] at k; cases k
      · obtain rfl := Option.some.inj (h4.symm.trans k4)
        exact ⟨k5, k6⟩
    exact ⟨_, _, fun W => (t24 s b W hs).mono fun _ _ k => H k, fun W => (t25 s b W hs).mono fun _ _ k => H k⟩
  · have H : ∀ {w w' : World} {e : Ending}, ParQ s.data.toList b w e w' → e = .returned (.tuple #[.string ⟨#[]⟩, .int .i64 1]) ∧ Below w.heap.size w w' := fun k => by
      rcases k with ⟨-, k1, k2⟩ | ⟨n', k1, k2, k3, k4, -, -⟩
      · exact ⟨k1, k2⟩
      · exact absurd ⟨k1, k2, k3, n', k4⟩ h
    exact ⟨_, _, fun W => (t24 s b W hs).mono fun _ _ k => H k, fun W => (t25 s b W hs).mono fun _ _ k => H k⟩
theorem both22 (s : ByteArray) (b : Int) (hs : s.size ≤ 9223372036854775807) : ∃ (u : ByteArray) (n : Int), (∀ W, Calls Tryz.prog 22 #[.string s, .int .i64 b] W fun e w' => e = .returned (.tuple #[.string u, .int .i64 n]) ∧ Below W.heap.size W w') ∧ (∀ W, Calls Tryz.prog 23 #[.string s, .int .i64 b] W fun e w' => e = .returned (.tuple #[.string u, .int .i64 n]) ∧ Below W.heap.size W w') ∧
    (n = 0 → ∀ W, Calls Tryz.prog 24 #[.string u, .int .i64 b] W fun e w' => e = .returned (.tuple #[.string s, .int .i64 0]) ∧ Below W.heap.size W w') := by
  by_cases h : 2 ≤ b ∧ b ≤ 36 ∧ vldL s.data.toList = true
  · obtain ⟨h1, h2, h3⟩ := h
    obtain ⟨z, hz⟩ := vldL_num _ h3
    obtain ⟨m, rfl⟩ := Int.eq_ofNat_of_zero_le (show 0 ≤ b by omega)
    have H : ∀ {w w' : World} {e : Ending}, BaseR s.data.toList (m : Int) w e w' → e = .returned (.tuple #[.string ⟨(txtZ m z).toArray⟩, .int .i64 0]) ∧ Below w.heap.size w w' := fun k => by
      rcases k with ⟨k, -, -⟩ | ⟨z', k1, -, -, k4, k5⟩
      · exfalso
        rcases k with k | k | k
        · rw [h3] at k; cases k
        · omega
        · omega
      · obtain rfl := num_one k1 hz
        rw [Int.toNat_natCast] at k4
        exact ⟨k4, k5⟩
    refine ⟨_, _, fun W => (t22 s m W).mono fun _ _ k => H k, fun W => (t23 s m W hs).mono fun _ _ k => H k, fun _ W => ?_⟩
    have hlen : (txtZ m z).length ≤ 1601 := by
      have h5 := txt_length m z.natAbs (by omega)
      have h6 : (dgs m z.natAbs).length ≤ 4 * 400 := dgs_four (by omega) hz.2
      unfold txtZ
      split
      · rw [List.length_cons, h5]; omega
      · rw [h5]; omega
    obtain ⟨p1, p2⟩ := parse_base (b := m) (by omega) (by omega) z
    refine (t24 ⟨(txtZ m z).toArray⟩ m W (by rw [bytes_size]; omega)).mono fun e w' k => ?_
    rcases k with ⟨k, -, -⟩ | ⟨n', -, -, -, k4, k5, k6⟩
    · exfalso
      rcases k with k | k | k | k
      · omega
      · omega
      · have k' : 2000 < (txtZ m z).length := k
        omega
      · rw [Int.toNat_natCast] at k
        have k' : rdN m (parD (txtZ m z)) = none := k
        rw [p1] at k'; cases k'
    · rw [Int.toNat_natCast] at k4
      have k4' : rdN m (parD (txtZ m z)) = some n' := k4
      obtain rfl := Option.some.inj (p1.symm.trans k4')
      have e1 : parZ (decide ((⟨(txtZ m z).toArray⟩ : ByteArray).data.toList.head? = some 45)) z.natAbs = z := p2
      rw [e1, toldS_fits hz.2, toldE_fits hz.2] at k5
      have e2 : numS z = s := by
        apply ByteArray.ext
        apply Array.toList_inj.1
        rw [hz.1]; simp [numS]
      rw [e2] at k5
      exact ⟨k5, k6⟩
  · have H : ∀ {w w' : World} {e : Ending}, BaseR s.data.toList b w e w' → e = .returned (.tuple #[.string ⟨#[]⟩, .int .i64 1]) ∧ Below w.heap.size w w' := fun k => by
      rcases k with ⟨-, k1, k2⟩ | ⟨z', k1, k2, k3, -, -⟩
      · exact ⟨k1, k2⟩
      · exact absurd ⟨k2, k3, (vldL_iff _).2 ⟨z', k1⟩⟩ h
    exact ⟨_, _, fun W => (t22 s b W).mono fun _ _ k => H k, fun W => (t23 s b W hs).mono fun _ _ k => H k, fun h0 => by cases h0⟩
/-- the two lists that are gone through -/
structure Bs (w W : World) (gb gl : Nat) (b0 b1 : Int) (s0 s1 : ByteArray) : Prop where
  kb : Blk W gb 3 [.int .i64 b0, .int .i64 b1]
  kl : Blk W gl 9 [.string s0, .string s1]
  bel : Below w.heap.size w W
theorem Bs.next {w W W' : World} {gb gl : Nat} {b0 b1 : Int} {s0 s1 : ByteArray} (h : Bs w W gb gl b0 b1 s0 s1) (hb : Below W.heap.size W W') : Bs w W' gb gl b0 b1 s0 s1 :=
  ⟨h.kb.below hb h.kb.lt, h.kl.below hb h.kl.lt, bThen h.bel hb⟩
theorem Bs.base {w W : World} {gb gl : Nat} {b0 b1 : Int} {s0 s1 : ByteArray} (h : Bs w W gb gl b0 b1 s0 s1) (i : Nat) (hi : i < 2) : W.cell? ⟨gb, i, none⟩ = some (.int .i64 (if i = 0 then b0 else b1)) := by
  rcases (show i = 0 ∨ i = 1 by omega) with rfl | rfl
  · exact h.kb.cell 0 rfl
  · exact h.kb.cell 1 rfl
theorem Bs.str {w W : World} {gb gl : Nat} {b0 b1 : Int} {s0 s1 : ByteArray} (h : Bs w W gb gl b0 b1 s0 s1) (k : Nat) (hk : k < 2) : W.cell? ⟨gl, k, none⟩ = some (.string (if k = 0 then s0 else s1)) := by
  rcases (show k = 0 ∨ k = 1 by omega) with rfl | rfl
  · exact h.kl.cell 0 rfl
  · exact h.kl.cell 1 rfl
set_option maxRecDepth 100000 in
set_option maxHeartbeats 8000000 in
theorem t6 (s : ByteArray) (va : Value) (xs : List Int) (bi : Int) (m0 : Int) (w : World) (hva : IntsRead w va xs) (hx : ∀ x ∈ xs, InInt x) (hT : TabOk w) (hl : xs.length ≤ 9223372036854775807) (hs : s.size ≤ 9223372036854775807) (hm : w.cell? ⟨0, 0, none⟩ = some (.int .i64 m0)) :
    Calls Tryz.prog 6 #[.agg #[.string s, va, .int .i64 bi]] w fun e w' => e = .returned (.bool true) ∧ Below w.heap.size w w' := by
  have C1 : Hid (∀ W : World, Below w.heap.size w W → Calls Tryz.prog 16 #[va, .int .i64 200] W fun e w' => ∃ z : Int, Dl z 200 ∧ e = .returned (.string (numS z)) ∧ Below W.heap.size W w') := fun W hb => a16 va xs 200 W (hva.below hb) hx (hT.on hb) hl (by omega) (by omega)
  have HS := Lib.hid (fun W (h : Below w.heap.size w W) => t14 m0 W (below_cell h hm))
  obtain ⟨ao, ca, rfl, -⟩ := hva
  have HK := Lib.hid (Blk.new w #[.string s, .slice ao xs.length ca, .int .i64 bi] 41)
  have HB0 := Lib.hid (bSelf w (.cells #[.string s, .slice ao xs.length ca, .int .i64 bi] 41))
  have hl1 := long1 s (w.alloc (.cells #[.string s, .slice ao xs.length ca, .int .i64 bi] 41)) hs
  rw [show (w.alloc (.cells #[.string s, .slice ao xs.length ca, .int .i64 bi] 41)).heap.size = w.heap.size + 1 by simp] at hl1
  have HSZ := Lib.hid hs
  clear hx hT hm hs hl
  by_cases hlong : 3000 < s.size
  · have hd : decide (3000 < s.size) = true := by simpa using hlong
    rw [hd] at hl1
    have HL := Lib.hid hl1
    have f0 := HK.out.cell 0 rfl
    clear hlong hd hl1
    go_enter Tryz.func6, Tryz.ntmps6
    go_wp2_with fail
    refine HL.out.mono ?_
    rintro e w1 ⟨rfl, rfl⟩
    have hB1 := bThen HB0.out (bSelf (w.alloc (.cells #[.string s, .slice ao xs.length ca, .int .i64 bi] 41)) (.cells #[.string s] 9))
    clear f0
    go_wp2_with fail
    refine (HS.out _ hB1).mono ?_
    rintro e w2 ⟨rfl, hb2⟩
    have hB2 := bThen hB1 hb2
    go_wp2_with fail
    go_ret
    exact ⟨rfl, hB2⟩
  · have hd : decide (3000 < s.size) = false := by simpa using hlong
    rw [hd] at hl1
    have HL := Lib.hid hl1
    have f0 := HK.out.cell 0 rfl
    clear hlong hd hl1
    go_enter Tryz.func6, Tryz.ntmps6
    go_wp2_with fail
    refine HL.out.mono ?_
    rintro e w1 ⟨rfl, rfl⟩
    have HB1 := Lib.hid (bThen HB0.out (bSelf (w.alloc (.cells #[.string s, .slice ao xs.length ca, .int .i64 bi] 41)) (.cells #[.string s] 9)))
    have HK1 := Lib.hid (HK.out.alloc (.cells #[.string s] 9))
    clear f0 HK HB0
    go_upto_region 3 with fail
    generalize (w.alloc (.cells #[.string s, .slice ao xs.length ca, .int .i64 bi] 41)).alloc (.cells #[.string s] 9) = W1 at *
    have f2 := HK1.out.cell 2 rfl
    go_upto_region 4 with fail
    generalize wrap64 (2 + wrap64 ((IntKind.u64.wrap bi).tmod 35)) = b1
    obtain ⟨b0, hb0⟩ : ∃ b0 : Int, b0 = bi := ⟨_, rfl⟩
    rw [← hb0] at f2 ⊢
    have HKB := Lib.hid (Blk.new W1 #[.int .i64 b0, .int .i64 b1] 3)
    have HK2 := Lib.hid (HK1.out.alloc (.cells #[.int .i64 b0, .int .i64 b1] 3))
    have HB2 := Lib.hid (bThen HB1.out (bSelf W1 (.cells #[.int .i64 b0, .int .i64 b1] 3)))
    clear f2 HK1 HB1 hb0
    generalize W1.alloc (.cells #[.int .i64 b0, .int .i64 b1] 3) = W2 at *
    generalize W1.heap.size = gb at *
    have c0a := HK2.out.cell 0 rfl
    have c0b := HK2.out.cell 1 rfl
    have d0a : W2.drew.cell? ⟨w.heap.size, 0, none⟩ = some (.string s) := c0a
    have d0b : W2.drew.cell? ⟨w.heap.size, 1, none⟩ = some (.slice ao xs.length ca) := c0b
    go_region_held3 (fun w' => w'.cell? ⟨w.heap.size, 0, none⟩ = some (.string s) ∧ w'.cell? ⟨w.heap.size, 1, none⟩ = some (.slice ao xs.length ca))
      (first
        | (with_reducible exact ⟨d0a, d0b⟩)
        | (with_reducible exact ⟨c1a, c1b⟩)
        | exact ⟨below_cell (bSelf w3 _) c1a, below_cell (bSelf w3 _) c1b⟩
        | fail "nokeep")
      (first
        | (go_at_call 16; (with_reducible refine (C1.out _ HB2.out.drew).mono ?_); rintro e w3 ⟨z, hz, rfl, hb3⟩; have c1a := below_cell hb3 d0a; have c1b := below_cell hb3 d0b)
        | fail "noarm")
    have hb3' := hb3
    obtain ⟨s0, hs0⟩ : ∃ s0 : ByteArray, s0 = s := ⟨_, rfl⟩
    obtain ⟨s1, hs1⟩ : ∃ s1 : ByteArray, s1 = numS z := ⟨_, rfl⟩
    have HZ : Hid (s0.size ≤ 9223372036854775807 ∧ s1.size ≤ 9223372036854775807) := ⟨by rw [hs0]; exact HSZ.out, by rw [hs1]; exact Nat.le_trans (num_len (num_numS (hz.fits (show 200 ≤ 400 by omega)))) (by omega)⟩
    have HBS : Hid (Bs w (w3.alloc (.cells #[.string s0, .string s1] 9)) gb w3.heap.size b0 b1 s0 s1) := by
      have k1 : Blk W2.drew gb 3 [.int .i64 b0, .int .i64 b1] := HKB.out
      have k2 := k1.below hb3' k1.lt
      exact ⟨k2.alloc _, Blk.new w3 #[.string s0, .string s1] 9, bThen (bThen HB2.out.drew hb3') (bSelf w3 _)⟩
    rw [← hs0, ← hs1]
    clear d0a d0b c0a c0b c1a c1b hz hs0 hs1 HK2 HKB HB2 hb3 hb3' C1 HSZ
    generalize w3.alloc (.cells #[.string s0, .string s1] 9) = W3 at *
    generalize w3.heap.size = gl at *
    go_wp2_with fail
    go_loopw [5] (fun u wr => ∃ i : Nat, i ≤ 2 ∧ u = .int .i64 i ∧ Hid (Bs w wr gb gl b0 b1 s0 s1)) (fun u _ => 2 - (intOf u).toNat)
    case atStart => exact ⟨0, by omega, rfl, HBS⟩
    case round =>
      obtain ⟨i, hi, rfl, hS⟩ := hrel
      obtain ⟨wx, rfl⟩ : ∃ wx : World, wx = wr := ⟨_, rfl⟩
      clear HBS
      by_cases hi2 : i < 2
      · have hii : (i : Int) < 2 := by omega
        go_wp2_with fail
        go_loopw [6] (fun u wr => ∃ k : Nat, k ≤ 2 ∧ u = .int .i64 k ∧ Hid (Bs w wr gb gl b0 b1 s0 s1)) (fun u _ => 2 - (intOf u).toNat)
        case atStart => exact ⟨0, by omega, rfl, hS⟩
        case round =>
          obtain ⟨k, hk, rfl, hS2⟩ := hrel
          obtain ⟨wo, rfl⟩ : ∃ wo : World, wo = wr := ⟨_, rfl⟩
          clear hS
          by_cases hk2 : k < 2
          · have hki : (k : Int) < 2 := by omega
            have c0a := hS2.out.str k hk2
            have c0b := hS2.out.base i hi2
            obtain ⟨sk, hsk⟩ : ∃ sk : ByteArray, sk = (if k = 0 then s0 else s1) := ⟨_, rfl⟩
            obtain ⟨bi, hbi⟩ : ∃ bi : Int, bi = (if i = 0 then b0 else b1) := ⟨_, rfl⟩
            rw [← hsk] at c0a
            rw [← hbi] at c0b
            have hszk : sk.size ≤ 9223372036854775807 := by rw [hsk]; split; exact HZ.out.1; exact HZ.out.2
            obtain ⟨u, n, e1, e2, e3⟩ := both22 sk bi hszk
            obtain ⟨u2, n2, e4, e5⟩ := both24 sk bi hszk
            have E1 := Lib.hid e1
            have E2 := Lib.hid e2
            have E3 := Lib.hid e3
            have E4 := Lib.hid e4
            have E5 := Lib.hid e5
            clear e1 e2 e3 e4 e5 hsk hbi hszk hk2 hi2
            go_upto_region 11 with fail
            have d0a : wo.drew.cell? ⟨gl, k, none⟩ = some (.string sk) := c0a
            have d0b : wo.drew.cell? ⟨gb, i, none⟩ = some (.int .i64 bi) := c0b
            have q0 : Below wo.heap.size wo wo.drew := (Below.refl _ _).drew
            go_region_held3 (fun w' => w'.cell? ⟨gl, k, none⟩ = some (.string sk) ∧ w'.cell? ⟨gb, i, none⟩ = some (.int .i64 bi))
              (first
                | (with_reducible exact ⟨d0a, d0b⟩)
                | (with_reducible exact ⟨c1a, c1b⟩)
                | fail "nokeep")
              (first
                | (go_at_call 22; (with_reducible refine (E1.out _).mono ?_); rintro e w1 ⟨rfl, hb1⟩; have c1a := below_cell hb1 d0a; have c1b := below_cell hb1 d0b)
                | fail "noarm")
            have p1 := bThen q0 hb1
            clear d0a d0b q0 hb1 c0a c0b
            go_upto_region 12 with fail
            have d1a : w1.drew.cell? ⟨gl, k, none⟩ = some (.string sk) := c1a
            have d1b : w1.drew.cell? ⟨gb, i, none⟩ = some (.int .i64 bi) := c1b
            have q1 : Below wo.heap.size wo w1.drew := p1.drew
            go_region_held3 (fun w' => w'.cell? ⟨gl, k, none⟩ = some (.string sk) ∧ w'.cell? ⟨gb, i, none⟩ = some (.int .i64 bi))
              (first
                | (with_reducible exact ⟨d1a, d1b⟩)
                | (with_reducible exact ⟨c2a, c2b⟩)
                | fail "nokeep")
              (first
                | (go_at_call 23; (with_reducible refine (E2.out _).mono ?_); rintro e w2 ⟨rfl, hb2⟩; have c2a := below_cell hb2 d1a; have c2b := below_cell hb2 d1b)
                | fail "noarm")
            have p2 := bThen q1 hb2
            clear d1a d1b q1 hb2 c1a c1b p1
            go_upto_region 13 with fail
            have d2a : w2.drew.cell? ⟨gl, k, none⟩ = some (.string sk) := c2a
            have d2b : w2.drew.cell? ⟨gb, i, none⟩ = some (.int .i64 bi) := c2b
            have q2 : Below wo.heap.size wo w2.drew := p2.drew
            go_region_held3 (fun w' => w'.cell? ⟨gl, k, none⟩ = some (.string sk) ∧ w'.cell? ⟨gb, i, none⟩ = some (.int .i64 bi))
              (first
                | (with_reducible exact ⟨d2a, d2b⟩)
                | (with_reducible exact ⟨c3a, c3b⟩)
                | fail "nokeep")
              (first
                | (go_at_call 24; (with_reducible refine (E4.out _).mono ?_); rintro e w3 ⟨rfl, hb3⟩; have c3a := below_cell hb3 d2a; have c3b := below_cell hb3 d2b)
                | fail "noarm")
            have p3 := bThen q2 hb3
            clear d2a d2b q2 hb3 c2a c2b p2
            go_upto_region 14 with fail
            have d3a : w3.drew.cell? ⟨gl, k, none⟩ = some (.string sk) := c3a
            have d3b : w3.drew.cell? ⟨gb, i, none⟩ = some (.int .i64 bi) := c3b
            have q3 : Below wo.heap.size wo w3.drew := p3.drew
            go_region_held3 (fun w' => w'.cell? ⟨gl, k, none⟩ = some (.string sk) ∧ w'.cell? ⟨gb, i, none⟩ = some (.int .i64 bi))
              (first
                | (with_reducible exact ⟨d3a, d3b⟩)
                | (with_reducible exact ⟨c4a, c4b⟩)
                | fail "nokeep")
              (first
                | (go_at_call 25; (with_reducible refine (E5.out _).mono ?_); rintro e w4 ⟨rfl, hb4⟩; have c4a := below_cell hb4 d3a; have c4b := below_cell hb4 d3b)
                | fail "noarm")
            have p4 := bThen q3 hb4
            clear d3a d3b q3 hb4 c3a c3b p3
            
            by_cases hn : n = 0
            · subst hn
              have E6 := Lib.hid (E3.out rfl)
              clear E1 E2 E3 E4 E5
              go_wp2_with fail
              refine (E6.out _).mono ?_
              rintro e w5 ⟨rfl, hb5⟩
              have c5a := below_cell hb5 c4a
              have c5b := below_cell hb5 c4b
              have p5 := bThen p4 hb5
              have HS5 := Lib.hid (hS2.out.next p5)
              clear c4a c4b p4 hb5 E6
              go_wp2
              go_roundw
              case rel => exact ⟨k + 1, by omega, by go_num, HS5⟩
              case measure => simp [intOf]; omega
            · have hnb : (n == 0) = false := by simpa using hn
              have HS5 := Lib.hid (hS2.out.next p4)
              clear c4a c4b p4 E1 E2 E3 E4 E5
              go_wp2
              go_roundw
              case rel => exact ⟨k + 1, by omega, by go_num, HS5⟩
              case measure => simp [intOf]; omega
          · obtain rfl : k = 2 := by omega
            clear hk2 hk
            go_wp2
            go_roundw
            case rel => exact ⟨i + 1, by omega, by go_num, hS2⟩
            case measure => simp [intOf]; omega
      · obtain rfl : i = 2 := by omega
        clear hi2 hi
        go_wp2_with fail
        refine (HS.out _ hS.out.bel).mono ?_
        rintro e w9 ⟨rfl, hb9⟩
        have hB9 := bThen hS.out.bel hb9
        go_wp2_with fail
        go_ret
        exact ⟨rfl, hB9⟩
end Go.Proofs.YtifhiefdhhmdeaaGreatDoor
