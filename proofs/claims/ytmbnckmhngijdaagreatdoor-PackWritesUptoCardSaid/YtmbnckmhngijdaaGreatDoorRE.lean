/- Contracts of the reference's read and Check. -/
import Derived.Test.YtmbnckmhngijdaaGreatDoorRD
namespace Go.Proofs.YtmbnckmhngijdaaGreatDoor
open Go Go.RowKit

theorem info60 : (Tryz.prog.info? 60).map (fun i => (i.zero, i.size, i.bytes)) = some (some (.agg #[.int .u8 0, .bool false, .int .i64 0]), 3, 16) := by kernel_rfl
def Dir.rs (d : Dir) : Array Value := #[.int .u8 d.c.toNat, .bool d.gt, .int .i64 d.k]
def rcells (ds : List Dir) : List Value := ds.flatMap fun d => d.rs.toList
theorem rcells_snoc (ds : List Dir) (d : Dir) : rcells (ds ++ [d]) = rcells ds ++ d.rs.toList := by simp [rcells]
/-- directives of the reference in memory -/
def Dr (w : World) (B : Nat) (v : Value) (ds : List Dir) : Prop := w.ownsRow B 60 3 v ds.length (rcells ds)
theorem Dr.below {W W' : World} {B : Nat} {v : Value} {ds : List Dir} (h : Dr W B v ds) (hb : Below W.heap.size W W') : Dr W' B v ds := ownsRow_below h hb
theorem dr_len {w : World} {B : Nat} {v : Value} {ds : List Dir} {d : Dir} (h : Dr w B v (ds ++ [d])) : w.ownsRow B 60 3 v (ds.length + 1) (rcells (ds ++ [d])) := by
  unfold Dr at h; rw [List.length_append] at h; exact h
theorem app60 {w : World} {ops : Array Oper} {rest : List Oper} {o : Oper} {a : Act} {Q : Exit → Act → World → Prop} (hgd : o.guard = none) (s x : Operand)
    (ho : o.op = .call { callee := .builtin .append, args := #[s, x], argTypes := #[56, 56] }) (base : Nat) (v : Value) (ds : List Dir) (hs : a.eval s = v) (hown : Dr w base v ds)
    (g c : Nat) (d : Dir) (hx : a.eval x = .slice (some ⟨g, 0, none⟩) 1 c) (hc : Blk w g 60 d.rs.toList) (hn : ds.length ≤ 1000000) (hbase : base ≤ w.heap.size)
    (h : ∀ v' w', Hid (Dr w' base v' (ds ++ [d])) → Hid (w.grownBy w' v.ownBlock) → wpList Tryz.prog ops Q rest (a.put o.dst v') w') :
    wpList Tryz.prog ops Q (o :: rest) a w := by
  obtain ⟨i0, hi, hz0, hz1, hz2⟩ := info_parts info60
  refine wpList_append_own w hgd s x 56 ho base 60 i0 (.agg #[.int .u8 0, .bool false, .int .i64 0]) 3 16 Tryz.underlying56 hi hz0 hz1 hz2 rfl (by decide) v ds.length (rcells ds) hs hown ⟨g, 0, none⟩ 1 c d.rs.toList hx rfl ?_ ?_ (by unfold maxLen; omega) (by omega) hbase (fun v' w' h1 h2 _ => h v' w' ?_ h2)
  · intro j u hu
    rw [add_addr, Nat.zero_add]
    exact hc.cell j hu
  · intro u hu
    simp only [Dir.rs, List.mem_cons, List.mem_nil_iff, or_false] at hu
    rcases hu with rfl | rfl | rfl <;> rfl
  · show World.ownsRow _ _ _ _ _ _ _
    rw [rcells_snoc, List.length_append]
    exact h1
theorem CT (S : ByteArray) (c : UInt8) (w : World) : Calls Tryz.prog 41 #[.string S, .string ⟨#[c]⟩] w fun e w' => e = .returned (.bool (S.data.toList.contains c)) ∧ w = w' := by
  refine (Tryz.strings_Contains_one S c w).mono ?_
  rintro e w1 ⟨rfl, rfl⟩
  exact ⟨by rw [indexByte_mem], rfl⟩

/-! ### lists -/
theorem dw_head (p : UInt8 → Bool) : ∀ (l : List UInt8) (x : UInt8) (r : List UInt8), l.dropWhile p = x :: r → p x = false
  | [], _, _, h => by cases h
  | b :: l, x, r, h => by
    rw [List.dropWhile_cons] at h
    split at h
    · exact dw_head p l x r h
    · rename_i hb; cases h; simpa using hb
theorem dw_drop (p : UInt8 → Bool) : ∀ l : List UInt8, l.dropWhile p = l.drop (l.takeWhile p).length
  | [] => rfl
  | b :: l => by
    rw [List.dropWhile_cons, List.takeWhile_cons]
    split
    · rw [List.length_cons, List.drop_succ_cons]; exact dw_drop p l
    · rfl
theorem blanks_32 (m : List UInt8) : blanksL (32 :: m) = blanksL m := by simp [blanksL]
theorem blanks_ne {c : UInt8} (m : List UInt8) (h : c ≠ 32) : blanksL (c :: m) = c :: m := by
  unfold blanksL; rw [List.dropWhile_cons, if_neg (by simpa using h)]
theorem cnt_other {c x : UInt8} {r : List UInt8} (hx : isDig x = false) (h42 : x ≠ 42) : countL c (x :: r) = some (-2, x :: r) := by
  unfold countL
  split
  · rename_i r' e; cases e; exact absurd rfl h42
  · rw [List.takeWhile_cons, hx]; simp
theorem cnt_dig {c x : UInt8} {r : List UInt8} (hx : isDig x = true) : countL c (x :: r) = if numOk c ((x :: r).takeWhile isDig) then some (((numL ((x :: r).takeWhile isDig) 0 : Nat) : Int), (x :: r).dropWhile isDig) else none := by
  unfold countL
  split
  · rename_i r' e; cases e; exact absurd hx (by decide)
  · rw [if_neg (by rw [List.takeWhile_cons, hx]; simp)]
theorem ord_other {c x : UInt8} {r : List UInt8} (hx : x ≠ 62) : orderL c (x :: r) = (false, x :: r) := by
  unfold orderL
  split
  · rename_i r' e; cases e; exact absurd rfl hx
  · rfl
theorem ord_yes {c : UInt8} {r : List UInt8} (h : turnsL.contains c = true) : orderL c (62 :: r) = (true, r) := by
  unfold orderL; simp only; rw [if_pos h]
theorem ord_no {c : UInt8} {r : List UInt8} (h : turnsL.contains c = false) : orderL c (62 :: r) = (false, 62 :: r) := by
  unfold orderL; simp only; rw [if_neg (by rw [h]; decide)]
theorem dirL_of {c : UInt8} {m l r : List UInt8} {gt : Bool} {k : Int} (hL : lettersL.contains c = true) (ho : orderL c m = (gt, l)) (hc : countL c l = some (k, r)) : dirL c m = some (⟨c, gt, k⟩, r) := by
  have h := dirL_letter (k := k) (r := r) hL (by rw [ho]; exact hc)
  rw [ho] at h; exact h
theorem dirL_bad {c : UInt8} {m l : List UInt8} {gt : Bool} (ho : orderL c m = (gt, l)) (hc : countL c l = none) : dirL c m = none := dirL_none (by rw [ho]; exact hc)
theorem dirL_let {c : UInt8} {m : List UInt8} (hL : lettersL.contains c = false) : dirL c m = none := by
  unfold dirL; rw [if_neg (by rw [hL]; decide)]
theorem numL_snoc (l : List UInt8) (b : UInt8) : ∀ n, numL (l ++ [b]) n = numL l n * 10 + (b.toNat - 48) := by
  induction l with
  | nil => intro n; rfl
  | cons x l ih => intro n; exact ih _
theorem cnt_form {c : UInt8} {D : List UInt8} {x : UInt8} {D' : List UInt8} (hD : D = x :: D') : numOk c D = (decide (numL D 0 ≤ 1000) && (decide (x ≠ 48) || (decide (D' = [] ∧ x = 48) && decide (c = 64)))) := by
  subst hD
  unfold numOk
  congr 1
  have e1 : decide ((x :: D').head? ≠ some 48) = decide (x ≠ 48) := by
    apply decide_eq_decide.2; simp
  have e2 : decide (x :: D' = [48]) = decide (D' = [] ∧ x = 48) := by
    apply decide_eq_decide.2
    constructor
    · intro h; cases h; exact ⟨rfl, rfl⟩
    · rintro ⟨rfl, rfl⟩; rfl
  rw [e1, e2]
theorem form_bad {acc : List Dir} {s : List UInt8} {c : UInt8} {l m : List UInt8} (hj : joinL acc l = restL s) (hb : blanksL l = c :: m) (hd : dirL c m = none) : formL s = none := by
  rw [formL_rest, ← hj, joinL_none hb hd]; rfl
/-- what the reference's read tells -/
def RfdR (l : List UInt8) (w : World) (e : Ending) (w' : World) : Prop :=
  Below w.heap.size w w' ∧
  match formL l with
  | none => ∃ v, e = .returned (.tuple #[v, .bool false])
  | some ds => ∃ v, e = .returned (.tuple #[v, .bool true]) ∧ Dr w' w.heap.size v ds
theorem RfdR.bad {l : List UInt8} {w w' : World} {v : Value} (h : Hid (formL l = none)) (hb : Below w.heap.size w w') : RfdR l w (.returned (.tuple #[v, .bool false])) w' := by
  unfold RfdR; rw [h.out]; exact ⟨hb, v, rfl⟩
theorem RfdR.good {l : List UInt8} {w w' : World} {ds : List Dir} {v : Value} (h : Hid (formL l = some ds)) (hb : Below w.heap.size w w') (hd : Dr w' w.heap.size v ds) : RfdR l w (.returned (.tuple #[v, .bool true])) w' := by
  unfold RfdR; rw [h.out]; exact ⟨hb, v, rfl, hd⟩
def RfL (s : ByteArray) (w : World) (i v : Value) (wr : World) : Prop :=
  ∃ (k : Nat) (acc : List Dir), k ≤ s.size ∧ i = .int .i64 k ∧ acc.length ≤ k ∧ Hid (Dr wr w.heap.size v acc) ∧ Hid (joinL acc (s.data.toList.drop k) = restL s.data.toList) ∧ Hid (Below w.heap.size w wr)
theorem u8_i (x : UInt8) (k : Nat) (_hk : k < 256) (h : x ≠ UInt8.ofNat k) : ((x.toNat : Int) == (k : Int)) = false := by
  rw [u8_test x k _hk]; simpa using h
set_option maxRecDepth 100000 in
set_option maxHeartbeats 16000000 in
theorem t32 (s : ByteArray) (w : World) (hs : s.size ≤ 100000) : Calls Tryz.prog 32 #[.string s] w (RfdR s.data.toList w) := by
  have hsi : (s.size : Int) ≤ 100000 := by omega
  have hsl : s.data.toList.length = s.size := rfl
  have hget : ∀ (j : Nat) (hj : j < s.size), s[j]'hj = s.data.toList[j]'(by omega) := fun j hj => rfl
  have hdr : ∀ (j : Nat) (hj : j < s.data.toList.length), s.data.toList.drop j = s.data.toList[j]'hj :: s.data.toList.drop (j + 1) := fun j hj => List.drop_eq_getElem_cons hj
  have HGET := Lib.hid hget
  have HDR := Lib.hid hdr
  clear hget hdr
  go_enter Tryz.func32, Tryz.ntmps32
  go_wp2_with fail
  go_loopw [5, 4] (fun i v wr => RfL s w i v wr) (fun i _ _ => s.size - (intOf i).toNat)
  case atStart => exact ⟨0, [], Nat.zero_le _, rfl, Nat.le_refl _, World.ownsRow_nil _ _ _ _, by show joinL [] (s.data.toList.drop 0) = _; rw [List.drop_zero, joinL_start], Below.refl _ _⟩
  case round =>
    obtain ⟨k, acc, hk, rfl, hal, hrow, hj, hB⟩ := hrel
    obtain ⟨ao, cap, rfl⟩ := row_slice hrow.out
    by_cases hlt : k < s.size
    · have hlti : (k : Int) < s.size := by omega
      have hkL : k < s.data.toList.length := by omega
      obtain ⟨c, hc⟩ : ∃ c, s.data.toList[k]'hkL = c := ⟨_, rfl⟩
      have hsc : s[k]'hlt = c := hc
      have hd0 := HDR.out k hkL
      rw [hc] at hd0
      have hj2 := hj.out
      rw [hd0] at hj2
      by_cases h32 : c = 32
      · have d1 := u8_eq (n := 32) (k := 32) rfl h32
        have HJ : Hid (joinL acc (s.data.toList.drop (k + 1)) = restL s.data.toList) := by
          show _ = _
          rw [← hj2, h32, ← joinL_blanksL acc (32 :: _), blanks_32, joinL_blanksL]
        clear hd0 hj2 hc h32
        go_wp2
        go_roundw
        case rel => exact ⟨k + 1, acc, by omega, by go_num, by omega, hrow, HJ, hB⟩
        case measure => simp [intOf]; omega
      · have d1 := u8_ne (n := 32) (k := 32) rfl h32
        have HBL := Lib.hid (blanks_ne (s.data.toList.drop (k + 1)) h32)
        have HJ2 := Lib.hid hj2
        obtain ⟨q, hq⟩ : ∃ q, k + 1 = q := ⟨_, rfl⟩
        have hqi : (k : Int) + 1 = q := by omega
        have hqb : q ≤ s.size := by omega
        have hqbi : (q : Int) ≤ s.size := by omega
        have hkq : (k : Int) ≤ q := by omega
        have hqm : (q : Int) - 1 = k := by omega
        have hx1 : s.extract k q = ⟨#[c]⟩ := by
          apply ByteArray.ext
          apply Array.ext'
          rw [ByteArray.data_extract, Array.toList_extract, ← hq]
          simp only [List.extract_eq_take_drop, hd0]
          rw [Nat.add_sub_cancel_left]; rfl
        have C1 := fun W => CT ⟨#[67, 99, 83, 115, 76, 108, 81, 113, 110, 78, 119, 85, 97, 65, 90, 72, 120, 64]⟩ c W
        have C2 := fun W => CT ⟨#[83, 115, 76, 108, 81, 113]⟩ c W
        rw [show (⟨#[67, 99, 83, 115, 76, 108, 81, 113, 110, 78, 119, 85, 97, 65, 90, 72, 120, 64]⟩ : ByteArray).data.toList.contains c = lettersL.contains c from rfl] at C1
        rw [show (⟨#[83, 115, 76, 108, 81, 113]⟩ : ByteArray).data.toList.contains c = turnsL.contains c from rfl] at C2
        rw [hq] at HBL HJ2
        have hal2 : acc.length < q := by omega
        have hkq2 : k < q := by omega
        clear hd0 hj2 hc h32 hj hq
        go_upto_region 7 with fail
        have hk0 := Blk.new wr #[.int .u8 c.toNat, .bool false, .int .i64 (-2)] 60
        have hb0 := bSelf wr (.cells #[.int .u8 c.toNat, .bool false, .int .i64 (-2)] 60)
        have hgl : w.heap.size ≤ wr.heap.size := hB.out.size
        have hr0 := Lib.hid (Dr.below hrow.out hb0)
        have hB0 := Lib.hid (hB.out.trans (hb0.mono hB.out.size))
        obtain ⟨g, hg⟩ : ∃ g, wr.heap.size = g := ⟨_, rfl⟩
        have HNE : Hid (Value.ownBlock (.slice ao acc.length cap) ≠ some g) := fun h => by have := (own_lt hrow.out h).1; omega
        rw [hg] at hk0 hgl ⊢
        generalize wr.alloc (.cells #[.int .u8 c.toNat, .bool false, .int .i64 (-2)] 60) = wd at *
        have f1 := hk0.free 1
        have f2 := hk0.free 2
        have c0 := hk0.cell 0 rfl
        have c1 := hk0.cell 1 rfl
        have c2 := hk0.cell 2 rfl
        have HKD := Lib.hid hk0
        clear hk0 hb0 hg hrow hB
        cases hL : lettersL.contains c with
        | false =>
          rw [hL] at C1
          have HF : Hid (formL s.data.toList = none) := form_bad HJ2.out HBL.out (dirL_let hL)
          clear hL
          go_wp2_with (go_at_call 41; refine (C1 _).mono ?_; rintro e w1 ⟨rfl, rfl⟩)
          go_ret2
          exact RfdR.bad HF hB0.out
        | true =>
          rw [hL] at C1
          have HL := Lib.hid hL
          clear hL
          go_upto_region 10 with (go_at_call 41; refine (C1 _).mono ?_; rintro e w1 ⟨rfl, rfl⟩)
          clear C1
          by_cases hgtx : q < s.size ∧ s.data.toList[q]? = some 62
          · obtain ⟨hqe, hg62⟩ := hgtx
            have hqei : (q : Int) < s.size := by omega
            have hqL : q < s.data.toList.length := by omega
            rw [List.getElem?_eq_getElem hqL] at hg62
            have hsx : s[q]'hqe = 62 := Option.some.inj hg62
            have hdq := HDR.out q hqL
            rw [Option.some.inj hg62] at hdq
            cases hT : turnsL.contains c with
            | false =>
              rw [hT] at C2
              have HO : Hid (orderL c (s.data.toList.drop q) = (false, 62 :: s.data.toList.drop (q + 1))) := by show _ = _; rw [hdq]; exact ord_no hT
              have HF : Hid (formL s.data.toList = none) := by
                have hd := dirL_of HL.out HO.out (cnt_other (c := c) (x := 62) (r := s.data.toList.drop (q + 1)) (by decide) (by decide))
                have hj3 := (joinL_some HBL.out hd).trans HJ2.out
                exact form_bad hj3 (blanks_ne _ (by decide)) (dirL_let (by decide))
              clear hT hdq hg62
              go_wp2_with (go_at_call 41; refine (C2 _).mono ?_; rintro e w1 ⟨rfl, rfl⟩)
              go_ret2
              exact RfdR.bad HF hB0.out
            | true =>
              rw [hT] at C2
              obtain ⟨r, hr⟩ : ∃ r, q + 1 = r := ⟨_, rfl⟩
              have hri : (q : Int) + 1 = r := by omega
              have hrb : r ≤ s.size := by omega
              have hrbi : (r : Int) ≤ s.size := by omega
              have hqr : q < r := by omega
              have HO : Hid (orderL c (s.data.toList.drop q) = (true, s.data.toList.drop r)) := by show _ = _; rw [hdq, ← hr]; exact ord_yes hT
              clear hT hdq hg62 hr
              go_upto_region 15 with (go_at_call 41; refine (C2 _).mono ?_; rintro e w1 ⟨rfl, rfl⟩)
              have HKD2 : Hid (Blk (wd.setCell ⟨g, 1, none⟩ (.bool true)) g 60 [.int .u8 c.toNat, .bool true, .int .i64 (-2)]) := HKD.out.set 1 (.bool true)
              have hr02 : Hid (Dr (wd.setCell ⟨g, 1, none⟩ (.bool true)) w.heap.size (.slice ao acc.length cap) acc) := (Kp.set wd g 1 (.bool true)).row hr0.out (fun g' hg' e => by subst e; exact HNE.out hg')
              have hB02 : Hid (Below w.heap.size w (wd.setCell ⟨g, 1, none⟩ (.bool true))) := bSet hB0.out g 1 hgl _
              clear c0 c1 c2 f1 f2 HKD hr0 hB0
              generalize wd.setCell ⟨g, 1, none⟩ (.bool true) = we at *
              have HKD := HKD2
              have hr0 := hr02
              have hB0 := hB02
              have f2 := HKD.out.free 2
              have c0 := HKD.out.cell 0 rfl
              have c1 := HKD.out.cell 1 rfl
              have c2 := HKD.out.cell 2 rfl
              clear HKD2 hr02 hB02 hsx hqe hqei C2 hqm
              by_cases hqe : r < s.size
              · have hqei : (r : Int) < s.size := by omega
                have hqL : r < s.data.toList.length := by omega
                obtain ⟨x, hx⟩ : ∃ x, s.data.toList[r]'hqL = x := ⟨_, rfl⟩
                have hsx : s[r]'hqe = x := hx
                have hdq := HDR.out r hqL
                rw [hx] at hdq
                have HDQ := Lib.hid hdq
                clear hdq hx
                by_cases h42 : x = 42
                · have d42 := u8_eq (n := 42) (k := 42) rfl h42
                  by_cases hcc : c = 120 ∨ c = 64
                  · have HF : Hid (formL s.data.toList = none) := form_bad HJ2.out HBL.out (dirL_bad HO.out (by rw [HDQ.out, h42]; show (if c = 120 ∨ c = 64 then none else _) = none; rw [if_pos hcc]))
                    by_cases h120 : c = 120
                    · have d5 := u8_eq (n := 120) (k := 120) rfl h120
                      clear hcc h120 h42
                      go_wp2
                      go_ret2
                      exact RfdR.bad HF hB0.out
                    · have d5 := u8_ne (n := 120) (k := 120) rfl h120
                      have d6 := u8_eq (n := 64) (k := 64) rfl (hcc.resolve_left h120)
                      clear hcc h120 h42
                      go_wp2
                      go_ret2
                      exact RfdR.bad HF hB0.out
                  · have h120 : c ≠ 120 := fun h => hcc (Or.inl h)
                    have h64 : c ≠ 64 := fun h => hcc (Or.inr h)
                    have d5 := u8_ne (n := 120) (k := 120) rfl h120
                    have d6 := u8_ne (n := 64) (k := 64) rfl h64
                    have HCN : Hid (countL c (s.data.toList.drop r) = some (-1, s.data.toList.drop (r + 1))) := by
                      show _ = _
                      rw [HDQ.out, h42]
                      show (if c = 120 ∨ c = 64 then none else _) = _
                      rw [if_neg hcc]
                    have HJN : Hid (joinL (acc ++ [⟨c, true, -1⟩]) (s.data.toList.drop (r + 1)) = restL s.data.toList) := by
                      show _ = _; rw [joinL_some HBL.out (dirL_of HL.out HO.out HCN.out)]; exact HJ2.out
                    clear hcc h120 h64 h42
                    go_upto_region 30 with fail
                    have HK9 : Hid (Blk (we.setCell ⟨g, 2, none⟩ (.int .i64 (-1))) g 60 [.int .u8 c.toNat, .bool true, .int .i64 (-1)]) := HKD.out.set 2 (.int .i64 (-1))
                    have HR9 : Hid (Dr (we.setCell ⟨g, 2, none⟩ (.int .i64 (-1))) w.heap.size (.slice ao acc.length cap) acc) := (Kp.set we g 2 (.int .i64 (-1))).row hr0.out (fun g' hg' e => by subst e; exact HNE.out hg')
                    have HB9 : Hid (Below w.heap.size w (we.setCell ⟨g, 2, none⟩ (.int .i64 (-1)))) := bSet hB0.out g 2 hgl _
                    generalize we.setCell ⟨g, 2, none⟩ (.int .i64 (-1)) = w9 at *
                    clear c0 c1 c2 f2
                    have e0 := HK9.out.cell 0 rfl
                    have e1 := HK9.out.cell 1 rfl
                    have e2 := HK9.out.cell 2 rfl
                    have HIS := Lib.hid (Dr.below HR9.out (bSelf w9 (.cells #[.int .u8 c.toNat, .bool true, .int .i64 (-1)] 60)))
                    have HNW : Hid (Blk (w9.alloc (.cells #[.int .u8 c.toNat, .bool true, .int .i64 (-1)] 60)) w9.heap.size 60 (Dir.rs ⟨c, true, -1⟩).toList) := newAt _ _ _ _ _ rfl rfl
                    have HBS : Hid (w.heap.size ≤ (w9.alloc (.cells #[.int .u8 c.toNat, .bool true, .int .i64 (-1)] 60)).heap.size) := ((bAl HB9.out _).size)
                    have hx2 : acc.length ≤ 1000000 := by omega
                    go_wp2_with (at_builtin; refine app60 rfl _ _ rfl w.heap.size (.slice ao acc.length cap) acc rfl HIS.out w9.heap.size 1 ⟨c, true, -1⟩ rfl HNW.out hx2 HBS.out ?_; intro v6 w6 hown6 hgrow6; obtain ⟨a6, c6, rfl⟩ := row_slice (dr_len hown6.out))
                    have HB6 : Hid (Below w.heap.size w w6) := (bAl HB9.out _).grown hgrow6.out HBS.out (fun j hj => (HIS.out.lt j hj).1)
                    clear hgrow6
                    go_roundw
                    case rel => exact ⟨r + 1, acc ++ [⟨c, true, -1⟩], by omega, by go_num, by rw [List.length_append]; simp only [List.length_cons, List.length_nil]; omega, hown6, HJN, HB6⟩
                    case measure => simp [intOf]; omega
                · have d42 := u8_ne (n := 42) (k := 42) rfl h42
                  by_cases hdg : isDig x = true
                  · have hdg2 := hdg
                    simp only [isDig, decide_eq_true_eq] at hdg2
                    have g1 : (48 : Int) ≤ x.toNat := by omega
                    have g2 : (x.toNat : Int) ≤ 57 := by omega
                    obtain ⟨D, hD⟩ : ∃ D, (s.data.toList.drop r).takeWhile isDig = D := ⟨_, rfl⟩
                    have hDx : ∃ D', D = x :: D' := ⟨_, by rw [← hD, HDQ.out, List.takeWhile_cons, hdg]; rfl⟩
                    obtain ⟨D', hD'⟩ := hDx
                    have hDl : D.length ≤ s.size - r := by
                      rw [← hD]
                      have := (List.takeWhile_sublist isDig (l := s.data.toList.drop r)).length_le
                      rw [List.length_drop] at this; omega
                    have hin : ∀ j, j < D.length → ∃ b, ∃ (h : r + j < s.size), s[r + j]'h = b ∧ isDig b = true ∧ D.take (j + 1) = D.take j ++ [b] := by
                      intro j hj
                      have h : r + j < s.size := by omega
                      have e1 : s.data.toList[r + j]? = D[j]? := by
                        rw [← List.getElem?_drop]
                        conv => lhs; rw [← List.takeWhile_append_dropWhile (p := isDig) (l := s.data.toList.drop r), hD]
                        exact List.getElem?_append_left hj
                      rw [List.getElem?_eq_getElem (by omega), List.getElem?_eq_getElem hj] at e1
                      refine ⟨D[j], h, Option.some.inj e1, ?_, List.take_succ_eq_append_getElem hj⟩
                      have hall := List.all_takeWhile (p := isDig) (l := s.data.toList.drop r)
                      rw [hD] at hall
                      exact List.all_eq_true.1 hall _ (List.getElem_mem hj)
                    obtain ⟨p, hp⟩ : ∃ p, r + D.length = p := ⟨_, rfl⟩
                    have hend : p = s.size ∨ ∃ b, ∃ (h : p < s.size), s[p]'h = b ∧ isDig b = false := by
                      subst hp
                      by_cases he : r + D.length = s.size
                      · exact .inl he
                      · have h : r + D.length < s.size := by omega
                        refine .inr ⟨_, h, rfl, ?_⟩
                        have e := dw_drop isDig (s.data.toList.drop r)
                        rw [hD, List.drop_drop, HDR.out (r + D.length) (by omega)] at e
                        exact dw_head _ _ _ _ e
                    have HCN : Hid (countL c (s.data.toList.drop r) = if numOk c D then some (((numL D 0 : Nat) : Int), s.data.toList.drop (r + D.length)) else none) := by
                      show _ = _
                      have e := cnt_dig (c := c) (r := s.data.toList.drop (r + 1)) hdg
                      rw [← HDQ.out, hD, dw_drop, hD, List.drop_drop] at e
                      exact e
                    have HNO := Lib.hid (cnt_form (c := c) hD')
                    have hDpos : 0 < D.length := by rw [hD']; simp
                    have HDD := Lib.hid hD'
                    have HIN := Lib.hid hin
                    have HEND := Lib.hid hend
                    have HP := Lib.hid hp
                    clear hD hD' hin hend hdg hdg2 h42 hp
                    go_upto_region 23 with fail
                    go_loop [5, 8] (fun i n => ∃ j : Nat, j ≤ D.length ∧ i = .int .i64 ((r + j : Nat) : Int) ∧ n = .int .i64 ((min (numL (D.take j) 0) 100000 : Nat) : Int)) (fun i _ => r + D.length - (intOf i).toNat)
                    case atStart => exact ⟨0, Nat.zero_le _, by go_num, rfl⟩
                    case round =>
                      obtain ⟨j, hjl, rfl, rfl⟩ := hrel
                      by_cases hjlt : j < D.length
                      · obtain ⟨b, hb1, hb2, hb3, hb4⟩ := HIN.out j hjlt
                        obtain ⟨pj, hpj⟩ : ∃ pj, r + j = pj := ⟨_, rfl⟩
                        have hbd := hb3
                        simp only [isDig, decide_eq_true_eq] at hbd
                        have b1 : (48 : Int) ≤ b.toNat := by omega
                        have b2 : (b.toNat : Int) ≤ 57 := by omega
                        obtain ⟨N, hN⟩ : ∃ N, min (numL (D.take j) 0) 100000 = N := ⟨_, rfl⟩
                        have hNb : N ≤ 100000 := by omega
                        have HNX : Hid (min ((N : Int) * 10 + ((b.toNat : Int) - 48)) 100000 = ((min (numL (D.take (j + 1)) 0) 100000 : Nat) : Int)) := by
                          show _ = _
                          rw [hb4, numL_snoc]; omega
                        have hx3 := HNX.out
                        simp only [hpj] at hb1 hb2 ⊢
                        rw [hN]
                        have hpi : (pj : Int) < s.size := by omega
                        have hbl := b.toNat_lt
                        clear hb3 hb4 hbd hN HNX
                        go_wp2
                        go_round
                        case rel => exact ⟨j + 1, by omega, by go_num, by rw [← hx3]⟩
                        case measure => simp [intOf]; omega
                      · obtain rfl : D.length = j := by omega
                        have hp := HP.out
                        obtain ⟨V, hV⟩ : ∃ V, numL D 0 = V := ⟨_, rfl⟩
                        rw [List.take_length, hV, hp]
                        obtain ⟨n, hn⟩ : ∃ n, min V 100000 = n := ⟨_, rfl⟩
                        rw [hn]
                        have hcn := HCN.out
                        rw [hV, hp] at hcn
                        have HCN2 := Lib.hid hcn
                        have hend := HEND.out
                        have hpb : p ≤ s.size := by omega
                        have hqp : r < p := by omega
                        have HV := Lib.hid hV
                        have HN := Lib.hid hn
                        have HX := Lib.hid hsx
                        clear hcn hp hV hn HIN HCN HEND hjlt hjl
                        rcases hend with he | ⟨b, hb1, hb2, hb3⟩
                        · have t1 : decide ((p : Int) < s.size) = false := decide_eq_false (by omega)
                          have t2 : s.size ≤ p := by omega
                          clear he
                          go_upto_region 26 with fail
                          clear t1 t2
                          have hsx := HX.out
                          by_cases hz : x = 48
                          · have dz := u8_eq (n := 48) (k := 48) rfl hz
                            by_cases hone : D' = []
                            · have hp1 : p = r + 1 := by have h1 := HP.out; have h2 := HDD.out; rw [hone] at h2; rw [h2] at h1; simp at h1; omega
                              have dq : p ≤ r + 1 := by omega
                              by_cases h64 : c = 64
                              · have d64 := u8_eq (n := 64) (k := 64) rfl h64
                                have d64n : ((c.toNat : Int) != 64) = false := by simp only [bne, d64, Bool.not_true]
                                have hV0 : V = 0 := by rw [← HV.out, HDD.out, hone, hz]; rfl
                                have HCF : Hid (countL c (s.data.toList.drop r) = some ((V : Int), s.data.toList.drop p)) := by
                                  show _ = _
                                  rw [HCN2.out, HNO.out, if_pos]
                                  rw [decide_eq_true (show numL D 0 ≤ 1000 by rw [HV.out]; omega), decide_eq_true (show D' = [] ∧ x = 48 from ⟨hone, hz⟩), decide_eq_true h64]; simp
                                obtain rfl : n = V := by rw [← HN.out]; omega
                                have hn1 : (n : Int) ≤ 1000 := by omega
                                clear hz hone h64 hV0 hp1
                                have HJN : Hid (joinL (acc ++ [⟨c, true, (n : Int)⟩]) (s.data.toList.drop p) = restL s.data.toList) := by
                                  show _ = _; rw [joinL_some HBL.out (dirL_of HL.out HO.out HCF.out)]; exact HJ2.out
                                go_upto_region 30 with fail
                                have HK9 : Hid (Blk (we.setCell ⟨g, 2, none⟩ (.int .i64 n)) g 60 [.int .u8 c.toNat, .bool true, .int .i64 n]) := HKD.out.set 2 (.int .i64 n)
                                have HR9 : Hid (Dr (we.setCell ⟨g, 2, none⟩ (.int .i64 n)) w.heap.size (.slice ao acc.length cap) acc) := (Kp.set we g 2 (.int .i64 n)).row hr0.out (fun g' hg' e => by subst e; exact HNE.out hg')
                                have HB9 : Hid (Below w.heap.size w (we.setCell ⟨g, 2, none⟩ (.int .i64 n))) := bSet hB0.out g 2 hgl _
                                generalize we.setCell ⟨g, 2, none⟩ (.int .i64 n) = w9 at *
                                clear c0 c1 c2 f2
                                have e0 := HK9.out.cell 0 rfl
                                have e1 := HK9.out.cell 1 rfl
                                have e2 := HK9.out.cell 2 rfl
                                have HIS := Lib.hid (Dr.below HR9.out (bSelf w9 (.cells #[.int .u8 c.toNat, .bool true, .int .i64 n] 60)))
                                have HNW : Hid (Blk (w9.alloc (.cells #[.int .u8 c.toNat, .bool true, .int .i64 n] 60)) w9.heap.size 60 (Dir.rs ⟨c, true, (n : Int)⟩).toList) := newAt _ _ _ _ _ rfl rfl
                                have HBS : Hid (w.heap.size ≤ (w9.alloc (.cells #[.int .u8 c.toNat, .bool true, .int .i64 n] 60)).heap.size) := ((bAl HB9.out _).size)
                                have hx2 : acc.length ≤ 1000000 := by omega
                                go_wp2_with (at_builtin; refine app60 rfl _ _ rfl w.heap.size (.slice ao acc.length cap) acc rfl HIS.out w9.heap.size 1 ⟨c, true, (n : Int)⟩ rfl HNW.out hx2 HBS.out ?_; intro v6 w6 hown6 hgrow6; obtain ⟨a6, c6, rfl⟩ := row_slice (dr_len hown6.out))
                                have HB6 : Hid (Below w.heap.size w w6) := (bAl HB9.out _).grown hgrow6.out HBS.out (fun j hj => (HIS.out.lt j hj).1)
                                clear hgrow6
                                go_roundw
                                case rel => exact ⟨p, acc ++ [⟨c, true, (n : Int)⟩], by omega, by go_num, by rw [List.length_append]; simp only [List.length_cons, List.length_nil]; omega, hown6, HJN, HB6⟩
                                case measure => simp [intOf]; omega
                              · have d64 := u8_ne (n := 64) (k := 64) rfl h64
                                have d64n : ((c.toNat : Int) != 64) = true := by simp only [bne, d64, Bool.not_false]
                                have HF : Hid (formL s.data.toList = none) := by
                                  refine form_bad HJ2.out HBL.out (dirL_bad HO.out ?_)
                                  rw [HCN2.out, HNO.out, if_neg]
                                  rw [decide_eq_false h64, decide_eq_false (show ¬ (x ≠ 48) from fun h => h hz)]; simp
                                clear hz hone h64 hp1
                                go_wp2
                                go_ret2
                                exact RfdR.bad HF hB0.out
                            · have hp2 : r + 1 < p := by have h1 := HP.out; have h2 := HDD.out; have h3 := List.length_pos_iff.2 hone; rw [h2] at h1; simp only [List.length_cons] at h1; omega
                              have dq : (r : Int) + 1 < p := by omega
                              have HF : Hid (formL s.data.toList = none) := by
                                refine form_bad HJ2.out HBL.out (dirL_bad HO.out ?_)
                                rw [HCN2.out, HNO.out, if_neg]
                                rw [decide_eq_false (show ¬ (x ≠ 48) from fun h => h hz), decide_eq_false (show ¬ (D' = [] ∧ x = 48) from fun h => hone h.1)]; simp
                              clear hz hone
                              go_wp2
                              go_ret2
                              exact RfdR.bad HF hB0.out
                          · have dz := u8_ne (n := 48) (k := 48) rfl hz
                            by_cases hV1 : V ≤ 1000
                            · have HCF : Hid (countL c (s.data.toList.drop r) = some ((V : Int), s.data.toList.drop p)) := by
                                show _ = _
                                rw [HCN2.out, HNO.out, if_pos]
                                rw [decide_eq_true (show numL D 0 ≤ 1000 by rw [HV.out]; omega), decide_eq_true hz]; simp
                              obtain rfl : n = V := by rw [← HN.out]; omega
                              have hn1 : (n : Int) ≤ 1000 := by omega
                              clear hz hV1
                              have HJN : Hid (joinL (acc ++ [⟨c, true, (n : Int)⟩]) (s.data.toList.drop p) = restL s.data.toList) := by
                                show _ = _; rw [joinL_some HBL.out (dirL_of HL.out HO.out HCF.out)]; exact HJ2.out
                              go_upto_region 30 with fail
                              have HK9 : Hid (Blk (we.setCell ⟨g, 2, none⟩ (.int .i64 n)) g 60 [.int .u8 c.toNat, .bool true, .int .i64 n]) := HKD.out.set 2 (.int .i64 n)
                              have HR9 : Hid (Dr (we.setCell ⟨g, 2, none⟩ (.int .i64 n)) w.heap.size (.slice ao acc.length cap) acc) := (Kp.set we g 2 (.int .i64 n)).row hr0.out (fun g' hg' e => by subst e; exact HNE.out hg')
                              have HB9 : Hid (Below w.heap.size w (we.setCell ⟨g, 2, none⟩ (.int .i64 n))) := bSet hB0.out g 2 hgl _
                              generalize we.setCell ⟨g, 2, none⟩ (.int .i64 n) = w9 at *
                              clear c0 c1 c2 f2
                              have e0 := HK9.out.cell 0 rfl
                              have e1 := HK9.out.cell 1 rfl
                              have e2 := HK9.out.cell 2 rfl
                              have HIS := Lib.hid (Dr.below HR9.out (bSelf w9 (.cells #[.int .u8 c.toNat, .bool true, .int .i64 n] 60)))
                              have HNW : Hid (Blk (w9.alloc (.cells #[.int .u8 c.toNat, .bool true, .int .i64 n] 60)) w9.heap.size 60 (Dir.rs ⟨c, true, (n : Int)⟩).toList) := newAt _ _ _ _ _ rfl rfl
                              have HBS : Hid (w.heap.size ≤ (w9.alloc (.cells #[.int .u8 c.toNat, .bool true, .int .i64 n] 60)).heap.size) := ((bAl HB9.out _).size)
                              have hx2 : acc.length ≤ 1000000 := by omega
                              go_wp2_with (at_builtin; refine app60 rfl _ _ rfl w.heap.size (.slice ao acc.length cap) acc rfl HIS.out w9.heap.size 1 ⟨c, true, (n : Int)⟩ rfl HNW.out hx2 HBS.out ?_; intro v6 w6 hown6 hgrow6; obtain ⟨a6, c6, rfl⟩ := row_slice (dr_len hown6.out))
                              have HB6 : Hid (Below w.heap.size w w6) := (bAl HB9.out _).grown hgrow6.out HBS.out (fun j hj => (HIS.out.lt j hj).1)
                              clear hgrow6
                              go_roundw
                              case rel => exact ⟨p, acc ++ [⟨c, true, (n : Int)⟩], by omega, by go_num, by rw [List.length_append]; simp only [List.length_cons, List.length_nil]; omega, hown6, HJN, HB6⟩
                              case measure => simp [intOf]; omega
                            · have hn1 : (1000 : Int) < n := by have := HN.out; omega
                              have HF : Hid (formL s.data.toList = none) := by
                                refine form_bad HJ2.out HBL.out (dirL_bad HO.out ?_)
                                rw [HCN2.out, HNO.out, if_neg]
                                rw [decide_eq_false (show ¬ (numL D 0 ≤ 1000) by rw [HV.out]; omega)]; simp
                              clear hz hV1
                              go_wp2
                              go_ret2
                              exact RfdR.bad HF hB0.out
                        · have t1 : (p : Int) < s.size := by omega
                          simp only [isDig, decide_eq_false_iff_not] at hb3
                          by_cases hlo : b.toNat < 48
                          · have t2 : decide ((48 : Int) ≤ b.toNat) = false := decide_eq_false (by omega)
                            clear hb3 hlo
                            go_upto_region 26 with fail
                            clear t1 t2 hb2 hb1
                            have hsx := HX.out
                            by_cases hz : x = 48
                            · have dz := u8_eq (n := 48) (k := 48) rfl hz
                              by_cases hone : D' = []
                              · have hp1 : p = r + 1 := by have h1 := HP.out; have h2 := HDD.out; rw [hone] at h2; rw [h2] at h1; simp at h1; omega
                                have dq : p ≤ r + 1 := by omega
                                by_cases h64 : c = 64
                                · have d64 := u8_eq (n := 64) (k := 64) rfl h64
                                  have d64n : ((c.toNat : Int) != 64) = false := by simp only [bne, d64, Bool.not_true]
                                  have hV0 : V = 0 := by rw [← HV.out, HDD.out, hone, hz]; rfl
                                  have HCF : Hid (countL c (s.data.toList.drop r) = some ((V : Int), s.data.toList.drop p)) := by
                                    show _ = _
                                    rw [HCN2.out, HNO.out, if_pos]
                                    rw [decide_eq_true (show numL D 0 ≤ 1000 by rw [HV.out]; omega), decide_eq_true (show D' = [] ∧ x = 48 from ⟨hone, hz⟩), decide_eq_true h64]; simp
                                  obtain rfl : n = V := by rw [← HN.out]; omega
                                  have hn1 : (n : Int) ≤ 1000 := by omega
                                  clear hz hone h64 hV0 hp1
                                  have HJN : Hid (joinL (acc ++ [⟨c, true, (n : Int)⟩]) (s.data.toList.drop p) = restL s.data.toList) := by
                                    show _ = _; rw [joinL_some HBL.out (dirL_of HL.out HO.out HCF.out)]; exact HJ2.out
                                  go_upto_region 30 with fail
                                  have HK9 : Hid (Blk (we.setCell ⟨g, 2, none⟩ (.int .i64 n)) g 60 [.int .u8 c.toNat, .bool true, .int .i64 n]) := HKD.out.set 2 (.int .i64 n)
                                  have HR9 : Hid (Dr (we.setCell ⟨g, 2, none⟩ (.int .i64 n)) w.heap.size (.slice ao acc.length cap) acc) := (Kp.set we g 2 (.int .i64 n)).row hr0.out (fun g' hg' e => by subst e; exact HNE.out hg')
                                  have HB9 : Hid (Below w.heap.size w (we.setCell ⟨g, 2, none⟩ (.int .i64 n))) := bSet hB0.out g 2 hgl _
                                  generalize we.setCell ⟨g, 2, none⟩ (.int .i64 n) = w9 at *
                                  clear c0 c1 c2 f2
                                  have e0 := HK9.out.cell 0 rfl
                                  have e1 := HK9.out.cell 1 rfl
                                  have e2 := HK9.out.cell 2 rfl
                                  have HIS := Lib.hid (Dr.below HR9.out (bSelf w9 (.cells #[.int .u8 c.toNat, .bool true, .int .i64 n] 60)))
                                  have HNW : Hid (Blk (w9.alloc (.cells #[.int .u8 c.toNat, .bool true, .int .i64 n] 60)) w9.heap.size 60 (Dir.rs ⟨c, true, (n : Int)⟩).toList) := newAt _ _ _ _ _ rfl rfl
                                  have HBS : Hid (w.heap.size ≤ (w9.alloc (.cells #[.int .u8 c.toNat, .bool true, .int .i64 n] 60)).heap.size) := ((bAl HB9.out _).size)
                                  have hx2 : acc.length ≤ 1000000 := by omega
                                  go_wp2_with (at_builtin; refine app60 rfl _ _ rfl w.heap.size (.slice ao acc.length cap) acc rfl HIS.out w9.heap.size 1 ⟨c, true, (n : Int)⟩ rfl HNW.out hx2 HBS.out ?_; intro v6 w6 hown6 hgrow6; obtain ⟨a6, c6, rfl⟩ := row_slice (dr_len hown6.out))
                                  have HB6 : Hid (Below w.heap.size w w6) := (bAl HB9.out _).grown hgrow6.out HBS.out (fun j hj => (HIS.out.lt j hj).1)
                                  clear hgrow6
                                  go_roundw
                                  case rel => exact ⟨p, acc ++ [⟨c, true, (n : Int)⟩], by omega, by go_num, by rw [List.length_append]; simp only [List.length_cons, List.length_nil]; omega, hown6, HJN, HB6⟩
                                  case measure => simp [intOf]; omega
                                · have d64 := u8_ne (n := 64) (k := 64) rfl h64
                                  have d64n : ((c.toNat : Int) != 64) = true := by simp only [bne, d64, Bool.not_false]
                                  have HF : Hid (formL s.data.toList = none) := by
                                    refine form_bad HJ2.out HBL.out (dirL_bad HO.out ?_)
                                    rw [HCN2.out, HNO.out, if_neg]
                                    rw [decide_eq_false h64, decide_eq_false (show ¬ (x ≠ 48) from fun h => h hz)]; simp
                                  clear hz hone h64 hp1
                                  go_wp2
                                  go_ret2
                                  exact RfdR.bad HF hB0.out
                              · have hp2 : r + 1 < p := by have h1 := HP.out; have h2 := HDD.out; have h3 := List.length_pos_iff.2 hone; rw [h2] at h1; simp only [List.length_cons] at h1; omega
                                have dq : (r : Int) + 1 < p := by omega
                                have HF : Hid (formL s.data.toList = none) := by
                                  refine form_bad HJ2.out HBL.out (dirL_bad HO.out ?_)
                                  rw [HCN2.out, HNO.out, if_neg]
                                  rw [decide_eq_false (show ¬ (x ≠ 48) from fun h => h hz), decide_eq_false (show ¬ (D' = [] ∧ x = 48) from fun h => hone h.1)]; simp
                                clear hz hone
                                go_wp2
                                go_ret2
                                exact RfdR.bad HF hB0.out
                            · have dz := u8_ne (n := 48) (k := 48) rfl hz
                              by_cases hV1 : V ≤ 1000
                              · have HCF : Hid (countL c (s.data.toList.drop r) = some ((V : Int), s.data.toList.drop p)) := by
                                  show _ = _
                                  rw [HCN2.out, HNO.out, if_pos]
                                  rw [decide_eq_true (show numL D 0 ≤ 1000 by rw [HV.out]; omega), decide_eq_true hz]; simp
                                obtain rfl : n = V := by rw [← HN.out]; omega
                                have hn1 : (n : Int) ≤ 1000 := by omega
                                clear hz hV1
                                have HJN : Hid (joinL (acc ++ [⟨c, true, (n : Int)⟩]) (s.data.toList.drop p) = restL s.data.toList) := by
                                  show _ = _; rw [joinL_some HBL.out (dirL_of HL.out HO.out HCF.out)]; exact HJ2.out
                                go_upto_region 30 with fail
                                have HK9 : Hid (Blk (we.setCell ⟨g, 2, none⟩ (.int .i64 n)) g 60 [.int .u8 c.toNat, .bool true, .int .i64 n]) := HKD.out.set 2 (.int .i64 n)
                                have HR9 : Hid (Dr (we.setCell ⟨g, 2, none⟩ (.int .i64 n)) w.heap.size (.slice ao acc.length cap) acc) := (Kp.set we g 2 (.int .i64 n)).row hr0.out (fun g' hg' e => by subst e; exact HNE.out hg')
                                have HB9 : Hid (Below w.heap.size w (we.setCell ⟨g, 2, none⟩ (.int .i64 n))) := bSet hB0.out g 2 hgl _
                                generalize we.setCell ⟨g, 2, none⟩ (.int .i64 n) = w9 at *
                                clear c0 c1 c2 f2
                                have e0 := HK9.out.cell 0 rfl
                                have e1 := HK9.out.cell 1 rfl
                                have e2 := HK9.out.cell 2 rfl
                                have HIS := Lib.hid (Dr.below HR9.out (bSelf w9 (.cells #[.int .u8 c.toNat, .bool true, .int .i64 n] 60)))
                                have HNW : Hid (Blk (w9.alloc (.cells #[.int .u8 c.toNat, .bool true, .int .i64 n] 60)) w9.heap.size 60 (Dir.rs ⟨c, true, (n : Int)⟩).toList) := newAt _ _ _ _ _ rfl rfl
                                have HBS : Hid (w.heap.size ≤ (w9.alloc (.cells #[.int .u8 c.toNat, .bool true, .int .i64 n] 60)).heap.size) := ((bAl HB9.out _).size)
                                have hx2 : acc.length ≤ 1000000 := by omega
                                go_wp2_with (at_builtin; refine app60 rfl _ _ rfl w.heap.size (.slice ao acc.length cap) acc rfl HIS.out w9.heap.size 1 ⟨c, true, (n : Int)⟩ rfl HNW.out hx2 HBS.out ?_; intro v6 w6 hown6 hgrow6; obtain ⟨a6, c6, rfl⟩ := row_slice (dr_len hown6.out))
                                have HB6 : Hid (Below w.heap.size w w6) := (bAl HB9.out _).grown hgrow6.out HBS.out (fun j hj => (HIS.out.lt j hj).1)
                                clear hgrow6
                                go_roundw
                                case rel => exact ⟨p, acc ++ [⟨c, true, (n : Int)⟩], by omega, by go_num, by rw [List.length_append]; simp only [List.length_cons, List.length_nil]; omega, hown6, HJN, HB6⟩
                                case measure => simp [intOf]; omega
                              · have hn1 : (1000 : Int) < n := by have := HN.out; omega
                                have HF : Hid (formL s.data.toList = none) := by
                                  refine form_bad HJ2.out HBL.out (dirL_bad HO.out ?_)
                                  rw [HCN2.out, HNO.out, if_neg]
                                  rw [decide_eq_false (show ¬ (numL D 0 ≤ 1000) by rw [HV.out]; omega)]; simp
                                clear hz hV1
                                go_wp2
                                go_ret2
                                exact RfdR.bad HF hB0.out
                          · have t2 : (48 : Int) ≤ b.toNat := by omega
                            have t3 : decide ((b.toNat : Int) ≤ 57) = false := decide_eq_false (by omega)
                            clear hb3 hlo
                            go_upto_region 26 with fail
                            clear t1 t2 t3 hb2 hb1
                            have hsx := HX.out
                            by_cases hz : x = 48
                            · have dz := u8_eq (n := 48) (k := 48) rfl hz
                              by_cases hone : D' = []
                              · have hp1 : p = r + 1 := by have h1 := HP.out; have h2 := HDD.out; rw [hone] at h2; rw [h2] at h1; simp at h1; omega
                                have dq : p ≤ r + 1 := by omega
                                by_cases h64 : c = 64
                                · have d64 := u8_eq (n := 64) (k := 64) rfl h64
                                  have d64n : ((c.toNat : Int) != 64) = false := by simp only [bne, d64, Bool.not_true]
                                  have hV0 : V = 0 := by rw [← HV.out, HDD.out, hone, hz]; rfl
                                  have HCF : Hid (countL c (s.data.toList.drop r) = some ((V : Int), s.data.toList.drop p)) := by
                                    show _ = _
                                    rw [HCN2.out, HNO.out, if_pos]
                                    rw [decide_eq_true (show numL D 0 ≤ 1000 by rw [HV.out]; omega), decide_eq_true (show D' = [] ∧ x = 48 from ⟨hone, hz⟩), decide_eq_true h64]; simp
                                  obtain rfl : n = V := by rw [← HN.out]; omega
                                  have hn1 : (n : Int) ≤ 1000 := by omega
                                  clear hz hone h64 hV0 hp1
                                  have HJN : Hid (joinL (acc ++ [⟨c, true, (n : Int)⟩]) (s.data.toList.drop p) = restL s.data.toList) := by
                                    show _ = _; rw [joinL_some HBL.out (dirL_of HL.out HO.out HCF.out)]; exact HJ2.out
                                  go_upto_region 30 with fail
                                  have HK9 : Hid (Blk (we.setCell ⟨g, 2, none⟩ (.int .i64 n)) g 60 [.int .u8 c.toNat, .bool true, .int .i64 n]) := HKD.out.set 2 (.int .i64 n)
                                  have HR9 : Hid (Dr (we.setCell ⟨g, 2, none⟩ (.int .i64 n)) w.heap.size (.slice ao acc.length cap) acc) := (Kp.set we g 2 (.int .i64 n)).row hr0.out (fun g' hg' e => by subst e; exact HNE.out hg')
                                  have HB9 : Hid (Below w.heap.size w (we.setCell ⟨g, 2, none⟩ (.int .i64 n))) := bSet hB0.out g 2 hgl _
                                  generalize we.setCell ⟨g, 2, none⟩ (.int .i64 n) = w9 at *
                                  clear c0 c1 c2 f2
                                  have e0 := HK9.out.cell 0 rfl
                                  have e1 := HK9.out.cell 1 rfl
                                  have e2 := HK9.out.cell 2 rfl
                                  have HIS := Lib.hid (Dr.below HR9.out (bSelf w9 (.cells #[.int .u8 c.toNat, .bool true, .int .i64 n] 60)))
                                  have HNW : Hid (Blk (w9.alloc (.cells #[.int .u8 c.toNat, .bool true, .int .i64 n] 60)) w9.heap.size 60 (Dir.rs ⟨c, true, (n : Int)⟩).toList) := newAt _ _ _ _ _ rfl rfl
                                  have HBS : Hid (w.heap.size ≤ (w9.alloc (.cells #[.int .u8 c.toNat, .bool true, .int .i64 n] 60)).heap.size) := ((bAl HB9.out _).size)
                                  have hx2 : acc.length ≤ 1000000 := by omega
                                  go_wp2_with (at_builtin; refine app60 rfl _ _ rfl w.heap.size (.slice ao acc.length cap) acc rfl HIS.out w9.heap.size 1 ⟨c, true, (n : Int)⟩ rfl HNW.out hx2 HBS.out ?_; intro v6 w6 hown6 hgrow6; obtain ⟨a6, c6, rfl⟩ := row_slice (dr_len hown6.out))
                                  have HB6 : Hid (Below w.heap.size w w6) := (bAl HB9.out _).grown hgrow6.out HBS.out (fun j hj => (HIS.out.lt j hj).1)
                                  clear hgrow6
                                  go_roundw
                                  case rel => exact ⟨p, acc ++ [⟨c, true, (n : Int)⟩], by omega, by go_num, by rw [List.length_append]; simp only [List.length_cons, List.length_nil]; omega, hown6, HJN, HB6⟩
                                  case measure => simp [intOf]; omega
                                · have d64 := u8_ne (n := 64) (k := 64) rfl h64
                                  have d64n : ((c.toNat : Int) != 64) = true := by simp only [bne, d64, Bool.not_false]
                                  have HF : Hid (formL s.data.toList = none) := by
                                    refine form_bad HJ2.out HBL.out (dirL_bad HO.out ?_)
                                    rw [HCN2.out, HNO.out, if_neg]
                                    rw [decide_eq_false h64, decide_eq_false (show ¬ (x ≠ 48) from fun h => h hz)]; simp
                                  clear hz hone h64 hp1
                                  go_wp2
                                  go_ret2
                                  exact RfdR.bad HF hB0.out
                              · have hp2 : r + 1 < p := by have h1 := HP.out; have h2 := HDD.out; have h3 := List.length_pos_iff.2 hone; rw [h2] at h1; simp only [List.length_cons] at h1; omega
                                have dq : (r : Int) + 1 < p := by omega
                                have HF : Hid (formL s.data.toList = none) := by
                                  refine form_bad HJ2.out HBL.out (dirL_bad HO.out ?_)
                                  rw [HCN2.out, HNO.out, if_neg]
                                  rw [decide_eq_false (show ¬ (x ≠ 48) from fun h => h hz), decide_eq_false (show ¬ (D' = [] ∧ x = 48) from fun h => hone h.1)]; simp
                                clear hz hone
                                go_wp2
                                go_ret2
                                exact RfdR.bad HF hB0.out
                            · have dz := u8_ne (n := 48) (k := 48) rfl hz
                              by_cases hV1 : V ≤ 1000
                              · have HCF : Hid (countL c (s.data.toList.drop r) = some ((V : Int), s.data.toList.drop p)) := by
                                  show _ = _
                                  rw [HCN2.out, HNO.out, if_pos]
                                  rw [decide_eq_true (show numL D 0 ≤ 1000 by rw [HV.out]; omega), decide_eq_true hz]; simp
                                obtain rfl : n = V := by rw [← HN.out]; omega
                                have hn1 : (n : Int) ≤ 1000 := by omega
                                clear hz hV1
                                have HJN : Hid (joinL (acc ++ [⟨c, true, (n : Int)⟩]) (s.data.toList.drop p) = restL s.data.toList) := by
                                  show _ = _; rw [joinL_some HBL.out (dirL_of HL.out HO.out HCF.out)]; exact HJ2.out
                                go_upto_region 30 with fail
                                have HK9 : Hid (Blk (we.setCell ⟨g, 2, none⟩ (.int .i64 n)) g 60 [.int .u8 c.toNat, .bool true, .int .i64 n]) := HKD.out.set 2 (.int .i64 n)
                                have HR9 : Hid (Dr (we.setCell ⟨g, 2, none⟩ (.int .i64 n)) w.heap.size (.slice ao acc.length cap) acc) := (Kp.set we g 2 (.int .i64 n)).row hr0.out (fun g' hg' e => by subst e; exact HNE.out hg')
                                have HB9 : Hid (Below w.heap.size w (we.setCell ⟨g, 2, none⟩ (.int .i64 n))) := bSet hB0.out g 2 hgl _
                                generalize we.setCell ⟨g, 2, none⟩ (.int .i64 n) = w9 at *
                                clear c0 c1 c2 f2
                                have e0 := HK9.out.cell 0 rfl
                                have e1 := HK9.out.cell 1 rfl
                                have e2 := HK9.out.cell 2 rfl
                                have HIS := Lib.hid (Dr.below HR9.out (bSelf w9 (.cells #[.int .u8 c.toNat, .bool true, .int .i64 n] 60)))
                                have HNW : Hid (Blk (w9.alloc (.cells #[.int .u8 c.toNat, .bool true, .int .i64 n] 60)) w9.heap.size 60 (Dir.rs ⟨c, true, (n : Int)⟩).toList) := newAt _ _ _ _ _ rfl rfl
                                have HBS : Hid (w.heap.size ≤ (w9.alloc (.cells #[.int .u8 c.toNat, .bool true, .int .i64 n] 60)).heap.size) := ((bAl HB9.out _).size)
                                have hx2 : acc.length ≤ 1000000 := by omega
                                go_wp2_with (at_builtin; refine app60 rfl _ _ rfl w.heap.size (.slice ao acc.length cap) acc rfl HIS.out w9.heap.size 1 ⟨c, true, (n : Int)⟩ rfl HNW.out hx2 HBS.out ?_; intro v6 w6 hown6 hgrow6; obtain ⟨a6, c6, rfl⟩ := row_slice (dr_len hown6.out))
                                have HB6 : Hid (Below w.heap.size w w6) := (bAl HB9.out _).grown hgrow6.out HBS.out (fun j hj => (HIS.out.lt j hj).1)
                                clear hgrow6
                                go_roundw
                                case rel => exact ⟨p, acc ++ [⟨c, true, (n : Int)⟩], by omega, by go_num, by rw [List.length_append]; simp only [List.length_cons, List.length_nil]; omega, hown6, HJN, HB6⟩
                                case measure => simp [intOf]; omega
                              · have hn1 : (1000 : Int) < n := by have := HN.out; omega
                                have HF : Hid (formL s.data.toList = none) := by
                                  refine form_bad HJ2.out HBL.out (dirL_bad HO.out ?_)
                                  rw [HCN2.out, HNO.out, if_neg]
                                  rw [decide_eq_false (show ¬ (numL D 0 ≤ 1000) by rw [HV.out]; omega)]; simp
                                clear hz hV1
                                go_wp2
                                go_ret2
                                exact RfdR.bad HF hB0.out
                  · have hdg0 : isDig x = false := by simpa using hdg
                    have HCN : Hid (countL c (s.data.toList.drop r) = some (-2, s.data.toList.drop r)) := by
                      show _ = _; rw [HDQ.out]; exact cnt_other hdg0 h42
                    have HJN : Hid (joinL (acc ++ [⟨c, true, -2⟩]) (s.data.toList.drop r) = restL s.data.toList) := by
                      show _ = _; rw [joinL_some HBL.out (dirL_of HL.out HO.out HCN.out)]; exact HJ2.out
                    have HK9 := HKD
                    have HR9 := hr0
                    have HB9 := hB0
                    simp only [isDig, decide_eq_false_iff_not] at hdg0
                    clear h42 hdg
                    by_cases hlo : x.toNat < 48
                    · have g1 : decide ((48 : Int) ≤ x.toNat) = false := decide_eq_false (by omega)
                      clear hdg0 hlo
                      go_upto_region 30 with fail
                      clear c0 c1 c2 f2
                      have e0 := HK9.out.cell 0 rfl
                      have e1 := HK9.out.cell 1 rfl
                      have e2 := HK9.out.cell 2 rfl
                      have HIS := Lib.hid (Dr.below HR9.out (bSelf we (.cells #[.int .u8 c.toNat, .bool true, .int .i64 (-2)] 60)))
                      have HNW : Hid (Blk (we.alloc (.cells #[.int .u8 c.toNat, .bool true, .int .i64 (-2)] 60)) we.heap.size 60 (Dir.rs ⟨c, true, -2⟩).toList) := newAt _ _ _ _ _ rfl rfl
                      have HBS : Hid (w.heap.size ≤ (we.alloc (.cells #[.int .u8 c.toNat, .bool true, .int .i64 (-2)] 60)).heap.size) := ((bAl HB9.out _).size)
                      have hx2 : acc.length ≤ 1000000 := by omega
                      go_wp2_with (at_builtin; refine app60 rfl _ _ rfl w.heap.size (.slice ao acc.length cap) acc rfl HIS.out we.heap.size 1 ⟨c, true, -2⟩ rfl HNW.out hx2 HBS.out ?_; intro v6 w6 hown6 hgrow6; obtain ⟨a6, c6, rfl⟩ := row_slice (dr_len hown6.out))
                      have HB6 : Hid (Below w.heap.size w w6) := (bAl HB9.out _).grown hgrow6.out HBS.out (fun j hj => (HIS.out.lt j hj).1)
                      clear hgrow6
                      go_roundw
                      case rel => exact ⟨r, acc ++ [⟨c, true, -2⟩], by omega, by go_num, by rw [List.length_append]; simp only [List.length_cons, List.length_nil]; omega, hown6, HJN, HB6⟩
                      case measure => simp [intOf]; omega
                    · have g1 : (48 : Int) ≤ x.toNat := by omega
                      have g2 : decide ((x.toNat : Int) ≤ 57) = false := decide_eq_false (by omega)
                      clear hdg0 hlo
                      go_upto_region 30 with fail
                      clear c0 c1 c2 f2
                      have e0 := HK9.out.cell 0 rfl
                      have e1 := HK9.out.cell 1 rfl
                      have e2 := HK9.out.cell 2 rfl
                      have HIS := Lib.hid (Dr.below HR9.out (bSelf we (.cells #[.int .u8 c.toNat, .bool true, .int .i64 (-2)] 60)))
                      have HNW : Hid (Blk (we.alloc (.cells #[.int .u8 c.toNat, .bool true, .int .i64 (-2)] 60)) we.heap.size 60 (Dir.rs ⟨c, true, -2⟩).toList) := newAt _ _ _ _ _ rfl rfl
                      have HBS : Hid (w.heap.size ≤ (we.alloc (.cells #[.int .u8 c.toNat, .bool true, .int .i64 (-2)] 60)).heap.size) := ((bAl HB9.out _).size)
                      have hx2 : acc.length ≤ 1000000 := by omega
                      go_wp2_with (at_builtin; refine app60 rfl _ _ rfl w.heap.size (.slice ao acc.length cap) acc rfl HIS.out we.heap.size 1 ⟨c, true, -2⟩ rfl HNW.out hx2 HBS.out ?_; intro v6 w6 hown6 hgrow6; obtain ⟨a6, c6, rfl⟩ := row_slice (dr_len hown6.out))
                      have HB6 : Hid (Below w.heap.size w w6) := (bAl HB9.out _).grown hgrow6.out HBS.out (fun j hj => (HIS.out.lt j hj).1)
                      clear hgrow6
                      go_roundw
                      case rel => exact ⟨r, acc ++ [⟨c, true, -2⟩], by omega, by go_num, by rw [List.length_append]; simp only [List.length_cons, List.length_nil]; omega, hown6, HJN, HB6⟩
                      case measure => simp [intOf]; omega
              · have hqei : decide ((r : Int) < s.size) = false := decide_eq_false (by omega)
                have hqee : s.size ≤ r := by omega
                have HCN : Hid (countL c (s.data.toList.drop r) = some (-2, s.data.toList.drop r)) := by
                  show _ = _; rw [List.drop_of_length_le (by omega)]; rfl
                have HJN : Hid (joinL (acc ++ [⟨c, true, -2⟩]) (s.data.toList.drop r) = restL s.data.toList) := by
                  show _ = _; rw [joinL_some HBL.out (dirL_of HL.out HO.out HCN.out)]; exact HJ2.out
                have HK9 := HKD
                have HR9 := hr0
                have HB9 := hB0
                clear hqe
                go_upto_region 30 with fail
                clear c0 c1 c2 f2
                have e0 := HK9.out.cell 0 rfl
                have e1 := HK9.out.cell 1 rfl
                have e2 := HK9.out.cell 2 rfl
                have HIS := Lib.hid (Dr.below HR9.out (bSelf we (.cells #[.int .u8 c.toNat, .bool true, .int .i64 (-2)] 60)))
                have HNW : Hid (Blk (we.alloc (.cells #[.int .u8 c.toNat, .bool true, .int .i64 (-2)] 60)) we.heap.size 60 (Dir.rs ⟨c, true, -2⟩).toList) := newAt _ _ _ _ _ rfl rfl
                have HBS : Hid (w.heap.size ≤ (we.alloc (.cells #[.int .u8 c.toNat, .bool true, .int .i64 (-2)] 60)).heap.size) := ((bAl HB9.out _).size)
                have hx2 : acc.length ≤ 1000000 := by omega
                go_wp2_with (at_builtin; refine app60 rfl _ _ rfl w.heap.size (.slice ao acc.length cap) acc rfl HIS.out we.heap.size 1 ⟨c, true, -2⟩ rfl HNW.out hx2 HBS.out ?_; intro v6 w6 hown6 hgrow6; obtain ⟨a6, c6, rfl⟩ := row_slice (dr_len hown6.out))
                have HB6 : Hid (Below w.heap.size w w6) := (bAl HB9.out _).grown hgrow6.out HBS.out (fun j hj => (HIS.out.lt j hj).1)
                clear hgrow6
                go_roundw
                case rel => exact ⟨r, acc ++ [⟨c, true, -2⟩], by omega, by go_num, by rw [List.length_append]; simp only [List.length_cons, List.length_nil]; omega, hown6, HJN, HB6⟩
                case measure => simp [intOf]; omega
          · have HO : Hid (orderL c (s.data.toList.drop q) = (false, s.data.toList.drop q)) := by
              show _ = _
              by_cases hqe : q < s.size
              · rw [HDR.out q (by omega)]
                exact ord_other (fun h => hgtx ⟨hqe, by rw [List.getElem?_eq_getElem (by omega), h]⟩)
              · rw [List.drop_of_length_le (by omega)]; rfl
            by_cases hqe0 : q < s.size
            · have hqei0 : (q : Int) < s.size := by omega
              have hqL0 : q < s.data.toList.length := by omega
              obtain ⟨x0, hx0⟩ : ∃ x, s[q]'hqe0 = x := ⟨_, rfl⟩
              have d62 := u8_ne (n := 62) (k := 62) rfl (show x0 ≠ 62 from fun h => hgtx ⟨hqe0, by rw [List.getElem?_eq_getElem hqL0]; exact congrArg some (hx0.trans h)⟩)
              clear hgtx
              go_upto_region 15 with fail
              clear d62 hqei0 hqL0 hx0 hqe0 C2 hqm f1
              by_cases hqe : q < s.size
              · have hqei : (q : Int) < s.size := by omega
                have hqL : q < s.data.toList.length := by omega
                obtain ⟨x, hx⟩ : ∃ x, s.data.toList[q]'hqL = x := ⟨_, rfl⟩
                have hsx : s[q]'hqe = x := hx
                have hdq := HDR.out q hqL
                rw [hx] at hdq
                have HDQ := Lib.hid hdq
                clear hdq hx
                by_cases h42 : x = 42
                · have d42 := u8_eq (n := 42) (k := 42) rfl h42
                  by_cases hcc : c = 120 ∨ c = 64
                  · have HF : Hid (formL s.data.toList = none) := form_bad HJ2.out HBL.out (dirL_bad HO.out (by rw [HDQ.out, h42]; show (if c = 120 ∨ c = 64 then none else _) = none; rw [if_pos hcc]))
                    by_cases h120 : c = 120
                    · have d5 := u8_eq (n := 120) (k := 120) rfl h120
                      clear hcc h120 h42
                      go_wp2
                      go_ret2
                      exact RfdR.bad HF hB0.out
                    · have d5 := u8_ne (n := 120) (k := 120) rfl h120
                      have d6 := u8_eq (n := 64) (k := 64) rfl (hcc.resolve_left h120)
                      clear hcc h120 h42
                      go_wp2
                      go_ret2
                      exact RfdR.bad HF hB0.out
                  · have h120 : c ≠ 120 := fun h => hcc (Or.inl h)
                    have h64 : c ≠ 64 := fun h => hcc (Or.inr h)
                    have d5 := u8_ne (n := 120) (k := 120) rfl h120
                    have d6 := u8_ne (n := 64) (k := 64) rfl h64
                    have HCN : Hid (countL c (s.data.toList.drop q) = some (-1, s.data.toList.drop (q + 1))) := by
                      show _ = _
                      rw [HDQ.out, h42]
                      show (if c = 120 ∨ c = 64 then none else _) = _
                      rw [if_neg hcc]
                    have HJN : Hid (joinL (acc ++ [⟨c, false, -1⟩]) (s.data.toList.drop (q + 1)) = restL s.data.toList) := by
                      show _ = _; rw [joinL_some HBL.out (dirL_of HL.out HO.out HCN.out)]; exact HJ2.out
                    clear hcc h120 h64 h42
                    go_upto_region 30 with fail
                    have HK9 : Hid (Blk (wd.setCell ⟨g, 2, none⟩ (.int .i64 (-1))) g 60 [.int .u8 c.toNat, .bool false, .int .i64 (-1)]) := HKD.out.set 2 (.int .i64 (-1))
                    have HR9 : Hid (Dr (wd.setCell ⟨g, 2, none⟩ (.int .i64 (-1))) w.heap.size (.slice ao acc.length cap) acc) := (Kp.set wd g 2 (.int .i64 (-1))).row hr0.out (fun g' hg' e => by subst e; exact HNE.out hg')
                    have HB9 : Hid (Below w.heap.size w (wd.setCell ⟨g, 2, none⟩ (.int .i64 (-1)))) := bSet hB0.out g 2 hgl _
                    generalize wd.setCell ⟨g, 2, none⟩ (.int .i64 (-1)) = w9 at *
                    clear c0 c1 c2 f2
                    have e0 := HK9.out.cell 0 rfl
                    have e1 := HK9.out.cell 1 rfl
                    have e2 := HK9.out.cell 2 rfl
                    have HIS := Lib.hid (Dr.below HR9.out (bSelf w9 (.cells #[.int .u8 c.toNat, .bool false, .int .i64 (-1)] 60)))
                    have HNW : Hid (Blk (w9.alloc (.cells #[.int .u8 c.toNat, .bool false, .int .i64 (-1)] 60)) w9.heap.size 60 (Dir.rs ⟨c, false, -1⟩).toList) := newAt _ _ _ _ _ rfl rfl
                    have HBS : Hid (w.heap.size ≤ (w9.alloc (.cells #[.int .u8 c.toNat, .bool false, .int .i64 (-1)] 60)).heap.size) := ((bAl HB9.out _).size)
                    have hx2 : acc.length ≤ 1000000 := by omega
                    go_wp2_with (at_builtin; refine app60 rfl _ _ rfl w.heap.size (.slice ao acc.length cap) acc rfl HIS.out w9.heap.size 1 ⟨c, false, -1⟩ rfl HNW.out hx2 HBS.out ?_; intro v6 w6 hown6 hgrow6; obtain ⟨a6, c6, rfl⟩ := row_slice (dr_len hown6.out))
                    have HB6 : Hid (Below w.heap.size w w6) := (bAl HB9.out _).grown hgrow6.out HBS.out (fun j hj => (HIS.out.lt j hj).1)
                    clear hgrow6
                    go_roundw
                    case rel => exact ⟨q + 1, acc ++ [⟨c, false, -1⟩], by omega, by go_num, by rw [List.length_append]; simp only [List.length_cons, List.length_nil]; omega, hown6, HJN, HB6⟩
                    case measure => simp [intOf]; omega
                · have d42 := u8_ne (n := 42) (k := 42) rfl h42
                  by_cases hdg : isDig x = true
                  · have hdg2 := hdg
                    simp only [isDig, decide_eq_true_eq] at hdg2
                    have g1 : (48 : Int) ≤ x.toNat := by omega
                    have g2 : (x.toNat : Int) ≤ 57 := by omega
                    obtain ⟨D, hD⟩ : ∃ D, (s.data.toList.drop q).takeWhile isDig = D := ⟨_, rfl⟩
                    have hDx : ∃ D', D = x :: D' := ⟨_, by rw [← hD, HDQ.out, List.takeWhile_cons, hdg]; rfl⟩
                    obtain ⟨D', hD'⟩ := hDx
                    have hDl : D.length ≤ s.size - q := by
                      rw [← hD]
                      have := (List.takeWhile_sublist isDig (l := s.data.toList.drop q)).length_le
                      rw [List.length_drop] at this; omega
                    have hin : ∀ j, j < D.length → ∃ b, ∃ (h : q + j < s.size), s[q + j]'h = b ∧ isDig b = true ∧ D.take (j + 1) = D.take j ++ [b] := by
                      intro j hj
                      have h : q + j < s.size := by omega
                      have e1 : s.data.toList[q + j]? = D[j]? := by
                        rw [← List.getElem?_drop]
                        conv => lhs; rw [← List.takeWhile_append_dropWhile (p := isDig) (l := s.data.toList.drop q), hD]
                        exact List.getElem?_append_left hj
                      rw [List.getElem?_eq_getElem (by omega), List.getElem?_eq_getElem hj] at e1
                      refine ⟨D[j], h, Option.some.inj e1, ?_, List.take_succ_eq_append_getElem hj⟩
                      have hall := List.all_takeWhile (p := isDig) (l := s.data.toList.drop q)
                      rw [hD] at hall
                      exact List.all_eq_true.1 hall _ (List.getElem_mem hj)
                    obtain ⟨p, hp⟩ : ∃ p, q + D.length = p := ⟨_, rfl⟩
                    have hend : p = s.size ∨ ∃ b, ∃ (h : p < s.size), s[p]'h = b ∧ isDig b = false := by
                      subst hp
                      by_cases he : q + D.length = s.size
                      · exact .inl he
                      · have h : q + D.length < s.size := by omega
                        refine .inr ⟨_, h, rfl, ?_⟩
                        have e := dw_drop isDig (s.data.toList.drop q)
                        rw [hD, List.drop_drop, HDR.out (q + D.length) (by omega)] at e
                        exact dw_head _ _ _ _ e
                    have HCN : Hid (countL c (s.data.toList.drop q) = if numOk c D then some (((numL D 0 : Nat) : Int), s.data.toList.drop (q + D.length)) else none) := by
                      show _ = _
                      have e := cnt_dig (c := c) (r := s.data.toList.drop (q + 1)) hdg
                      rw [← HDQ.out, hD, dw_drop, hD, List.drop_drop] at e
                      exact e
                    have HNO := Lib.hid (cnt_form (c := c) hD')
                    have hDpos : 0 < D.length := by rw [hD']; simp
                    have HDD := Lib.hid hD'
                    have HIN := Lib.hid hin
                    have HEND := Lib.hid hend
                    have HP := Lib.hid hp
                    clear hD hD' hin hend hdg hdg2 h42 hp
                    go_upto_region 23 with fail
                    go_loop [5, 8] (fun i n => ∃ j : Nat, j ≤ D.length ∧ i = .int .i64 ((q + j : Nat) : Int) ∧ n = .int .i64 ((min (numL (D.take j) 0) 100000 : Nat) : Int)) (fun i _ => q + D.length - (intOf i).toNat)
                    case atStart => exact ⟨0, Nat.zero_le _, by go_num, rfl⟩
                    case round =>
                      obtain ⟨j, hjl, rfl, rfl⟩ := hrel
                      by_cases hjlt : j < D.length
                      · obtain ⟨b, hb1, hb2, hb3, hb4⟩ := HIN.out j hjlt
                        obtain ⟨pj, hpj⟩ : ∃ pj, q + j = pj := ⟨_, rfl⟩
                        have hbd := hb3
                        simp only [isDig, decide_eq_true_eq] at hbd
                        have b1 : (48 : Int) ≤ b.toNat := by omega
                        have b2 : (b.toNat : Int) ≤ 57 := by omega
                        obtain ⟨N, hN⟩ : ∃ N, min (numL (D.take j) 0) 100000 = N := ⟨_, rfl⟩
                        have hNb : N ≤ 100000 := by omega
                        have HNX : Hid (min ((N : Int) * 10 + ((b.toNat : Int) - 48)) 100000 = ((min (numL (D.take (j + 1)) 0) 100000 : Nat) : Int)) := by
                          show _ = _
                          rw [hb4, numL_snoc]; omega
                        have hx3 := HNX.out
                        simp only [hpj] at hb1 hb2 ⊢
                        rw [hN]
                        have hpi : (pj : Int) < s.size := by omega
                        have hbl := b.toNat_lt
                        clear hb3 hb4 hbd hN HNX
                        go_wp2
                        go_round
                        case rel => exact ⟨j + 1, by omega, by go_num, by rw [← hx3]⟩
                        case measure => simp [intOf]; omega
                      · obtain rfl : D.length = j := by omega
                        have hp := HP.out
                        obtain ⟨V, hV⟩ : ∃ V, numL D 0 = V := ⟨_, rfl⟩
                        rw [List.take_length, hV, hp]
                        obtain ⟨n, hn⟩ : ∃ n, min V 100000 = n := ⟨_, rfl⟩
                        rw [hn]
                        have hcn := HCN.out
                        rw [hV, hp] at hcn
                        have HCN2 := Lib.hid hcn
                        have hend := HEND.out
                        have hpb : p ≤ s.size := by omega
                        have hqp : q < p := by omega
                        have HV := Lib.hid hV
                        have HN := Lib.hid hn
                        have HX := Lib.hid hsx
                        clear hcn hp hV hn HIN HCN HEND hjlt hjl
                        rcases hend with he | ⟨b, hb1, hb2, hb3⟩
                        · have t1 : decide ((p : Int) < s.size) = false := decide_eq_false (by omega)
                          have t2 : s.size ≤ p := by omega
                          clear he
                          go_upto_region 26 with fail
                          clear t1 t2
                          have hsx := HX.out
                          by_cases hz : x = 48
                          · have dz := u8_eq (n := 48) (k := 48) rfl hz
                            by_cases hone : D' = []
                            · have hp1 : p = q + 1 := by have h1 := HP.out; have h2 := HDD.out; rw [hone] at h2; rw [h2] at h1; simp at h1; omega
                              have dq : p ≤ q + 1 := by omega
                              by_cases h64 : c = 64
                              · have d64 := u8_eq (n := 64) (k := 64) rfl h64
                                have d64n : ((c.toNat : Int) != 64) = false := by simp only [bne, d64, Bool.not_true]
                                have hV0 : V = 0 := by rw [← HV.out, HDD.out, hone, hz]; rfl
                                have HCF : Hid (countL c (s.data.toList.drop q) = some ((V : Int), s.data.toList.drop p)) := by
                                  show _ = _
                                  rw [HCN2.out, HNO.out, if_pos]
                                  rw [decide_eq_true (show numL D 0 ≤ 1000 by rw [HV.out]; omega), decide_eq_true (show D' = [] ∧ x = 48 from ⟨hone, hz⟩), decide_eq_true h64]; simp
                                obtain rfl : n = V := by rw [← HN.out]; omega
                                have hn1 : (n : Int) ≤ 1000 := by omega
                                clear hz hone h64 hV0 hp1
                                have HJN : Hid (joinL (acc ++ [⟨c, false, (n : Int)⟩]) (s.data.toList.drop p) = restL s.data.toList) := by
                                  show _ = _; rw [joinL_some HBL.out (dirL_of HL.out HO.out HCF.out)]; exact HJ2.out
                                go_upto_region 30 with fail
                                have HK9 : Hid (Blk (wd.setCell ⟨g, 2, none⟩ (.int .i64 n)) g 60 [.int .u8 c.toNat, .bool false, .int .i64 n]) := HKD.out.set 2 (.int .i64 n)
                                have HR9 : Hid (Dr (wd.setCell ⟨g, 2, none⟩ (.int .i64 n)) w.heap.size (.slice ao acc.length cap) acc) := (Kp.set wd g 2 (.int .i64 n)).row hr0.out (fun g' hg' e => by subst e; exact HNE.out hg')
                                have HB9 : Hid (Below w.heap.size w (wd.setCell ⟨g, 2, none⟩ (.int .i64 n))) := bSet hB0.out g 2 hgl _
                                generalize wd.setCell ⟨g, 2, none⟩ (.int .i64 n) = w9 at *
                                clear c0 c1 c2 f2
                                have e0 := HK9.out.cell 0 rfl
                                have e1 := HK9.out.cell 1 rfl
                                have e2 := HK9.out.cell 2 rfl
                                have HIS := Lib.hid (Dr.below HR9.out (bSelf w9 (.cells #[.int .u8 c.toNat, .bool false, .int .i64 n] 60)))
                                have HNW : Hid (Blk (w9.alloc (.cells #[.int .u8 c.toNat, .bool false, .int .i64 n] 60)) w9.heap.size 60 (Dir.rs ⟨c, false, (n : Int)⟩).toList) := newAt _ _ _ _ _ rfl rfl
                                have HBS : Hid (w.heap.size ≤ (w9.alloc (.cells #[.int .u8 c.toNat, .bool false, .int .i64 n] 60)).heap.size) := ((bAl HB9.out _).size)
                                have hx2 : acc.length ≤ 1000000 := by omega
                                go_wp2_with (at_builtin; refine app60 rfl _ _ rfl w.heap.size (.slice ao acc.length cap) acc rfl HIS.out w9.heap.size 1 ⟨c, false, (n : Int)⟩ rfl HNW.out hx2 HBS.out ?_; intro v6 w6 hown6 hgrow6; obtain ⟨a6, c6, rfl⟩ := row_slice (dr_len hown6.out))
                                have HB6 : Hid (Below w.heap.size w w6) := (bAl HB9.out _).grown hgrow6.out HBS.out (fun j hj => (HIS.out.lt j hj).1)
                                clear hgrow6
                                go_roundw
                                case rel => exact ⟨p, acc ++ [⟨c, false, (n : Int)⟩], by omega, by go_num, by rw [List.length_append]; simp only [List.length_cons, List.length_nil]; omega, hown6, HJN, HB6⟩
                                case measure => simp [intOf]; omega
                              · have d64 := u8_ne (n := 64) (k := 64) rfl h64
                                have d64n : ((c.toNat : Int) != 64) = true := by simp only [bne, d64, Bool.not_false]
                                have HF : Hid (formL s.data.toList = none) := by
                                  refine form_bad HJ2.out HBL.out (dirL_bad HO.out ?_)
                                  rw [HCN2.out, HNO.out, if_neg]
                                  rw [decide_eq_false h64, decide_eq_false (show ¬ (x ≠ 48) from fun h => h hz)]; simp
                                clear hz hone h64 hp1
                                go_wp2
                                go_ret2
                                exact RfdR.bad HF hB0.out
                            · have hp2 : q + 1 < p := by have h1 := HP.out; have h2 := HDD.out; have h3 := List.length_pos_iff.2 hone; rw [h2] at h1; simp only [List.length_cons] at h1; omega
                              have dq : (q : Int) + 1 < p := by omega
                              have HF : Hid (formL s.data.toList = none) := by
                                refine form_bad HJ2.out HBL.out (dirL_bad HO.out ?_)
                                rw [HCN2.out, HNO.out, if_neg]
                                rw [decide_eq_false (show ¬ (x ≠ 48) from fun h => h hz), decide_eq_false (show ¬ (D' = [] ∧ x = 48) from fun h => hone h.1)]; simp
                              clear hz hone
                              go_wp2
                              go_ret2
                              exact RfdR.bad HF hB0.out
                          · have dz := u8_ne (n := 48) (k := 48) rfl hz
                            by_cases hV1 : V ≤ 1000
                            · have HCF : Hid (countL c (s.data.toList.drop q) = some ((V : Int), s.data.toList.drop p)) := by
                                show _ = _
                                rw [HCN2.out, HNO.out, if_pos]
                                rw [decide_eq_true (show numL D 0 ≤ 1000 by rw [HV.out]; omega), decide_eq_true hz]; simp
                              obtain rfl : n = V := by rw [← HN.out]; omega
                              have hn1 : (n : Int) ≤ 1000 := by omega
                              clear hz hV1
                              have HJN : Hid (joinL (acc ++ [⟨c, false, (n : Int)⟩]) (s.data.toList.drop p) = restL s.data.toList) := by
                                show _ = _; rw [joinL_some HBL.out (dirL_of HL.out HO.out HCF.out)]; exact HJ2.out
                              go_upto_region 30 with fail
                              have HK9 : Hid (Blk (wd.setCell ⟨g, 2, none⟩ (.int .i64 n)) g 60 [.int .u8 c.toNat, .bool false, .int .i64 n]) := HKD.out.set 2 (.int .i64 n)
                              have HR9 : Hid (Dr (wd.setCell ⟨g, 2, none⟩ (.int .i64 n)) w.heap.size (.slice ao acc.length cap) acc) := (Kp.set wd g 2 (.int .i64 n)).row hr0.out (fun g' hg' e => by subst e; exact HNE.out hg')
                              have HB9 : Hid (Below w.heap.size w (wd.setCell ⟨g, 2, none⟩ (.int .i64 n))) := bSet hB0.out g 2 hgl _
                              generalize wd.setCell ⟨g, 2, none⟩ (.int .i64 n) = w9 at *
                              clear c0 c1 c2 f2
                              have e0 := HK9.out.cell 0 rfl
                              have e1 := HK9.out.cell 1 rfl
                              have e2 := HK9.out.cell 2 rfl
                              have HIS := Lib.hid (Dr.below HR9.out (bSelf w9 (.cells #[.int .u8 c.toNat, .bool false, .int .i64 n] 60)))
                              have HNW : Hid (Blk (w9.alloc (.cells #[.int .u8 c.toNat, .bool false, .int .i64 n] 60)) w9.heap.size 60 (Dir.rs ⟨c, false, (n : Int)⟩).toList) := newAt _ _ _ _ _ rfl rfl
                              have HBS : Hid (w.heap.size ≤ (w9.alloc (.cells #[.int .u8 c.toNat, .bool false, .int .i64 n] 60)).heap.size) := ((bAl HB9.out _).size)
                              have hx2 : acc.length ≤ 1000000 := by omega
                              go_wp2_with (at_builtin; refine app60 rfl _ _ rfl w.heap.size (.slice ao acc.length cap) acc rfl HIS.out w9.heap.size 1 ⟨c, false, (n : Int)⟩ rfl HNW.out hx2 HBS.out ?_; intro v6 w6 hown6 hgrow6; obtain ⟨a6, c6, rfl⟩ := row_slice (dr_len hown6.out))
                              have HB6 : Hid (Below w.heap.size w w6) := (bAl HB9.out _).grown hgrow6.out HBS.out (fun j hj => (HIS.out.lt j hj).1)
                              clear hgrow6
                              go_roundw
                              case rel => exact ⟨p, acc ++ [⟨c, false, (n : Int)⟩], by omega, by go_num, by rw [List.length_append]; simp only [List.length_cons, List.length_nil]; omega, hown6, HJN, HB6⟩
                              case measure => simp [intOf]; omega
                            · have hn1 : (1000 : Int) < n := by have := HN.out; omega
                              have HF : Hid (formL s.data.toList = none) := by
                                refine form_bad HJ2.out HBL.out (dirL_bad HO.out ?_)
                                rw [HCN2.out, HNO.out, if_neg]
                                rw [decide_eq_false (show ¬ (numL D 0 ≤ 1000) by rw [HV.out]; omega)]; simp
                              clear hz hV1
                              go_wp2
                              go_ret2
                              exact RfdR.bad HF hB0.out
                        · have t1 : (p : Int) < s.size := by omega
                          simp only [isDig, decide_eq_false_iff_not] at hb3
                          by_cases hlo : b.toNat < 48
                          · have t2 : decide ((48 : Int) ≤ b.toNat) = false := decide_eq_false (by omega)
                            clear hb3 hlo
                            go_upto_region 26 with fail
                            clear t1 t2 hb2 hb1
                            have hsx := HX.out
                            by_cases hz : x = 48
                            · have dz := u8_eq (n := 48) (k := 48) rfl hz
                              by_cases hone : D' = []
                              · have hp1 : p = q + 1 := by have h1 := HP.out; have h2 := HDD.out; rw [hone] at h2; rw [h2] at h1; simp at h1; omega
                                have dq : p ≤ q + 1 := by omega
                                by_cases h64 : c = 64
                                · have d64 := u8_eq (n := 64) (k := 64) rfl h64
                                  have d64n : ((c.toNat : Int) != 64) = false := by simp only [bne, d64, Bool.not_true]
                                  have hV0 : V = 0 := by rw [← HV.out, HDD.out, hone, hz]; rfl
                                  have HCF : Hid (countL c (s.data.toList.drop q) = some ((V : Int), s.data.toList.drop p)) := by
                                    show _ = _
                                    rw [HCN2.out, HNO.out, if_pos]
                                    rw [decide_eq_true (show numL D 0 ≤ 1000 by rw [HV.out]; omega), decide_eq_true (show D' = [] ∧ x = 48 from ⟨hone, hz⟩), decide_eq_true h64]; simp
                                  obtain rfl : n = V := by rw [← HN.out]; omega
                                  have hn1 : (n : Int) ≤ 1000 := by omega
                                  clear hz hone h64 hV0 hp1
                                  have HJN : Hid (joinL (acc ++ [⟨c, false, (n : Int)⟩]) (s.data.toList.drop p) = restL s.data.toList) := by
                                    show _ = _; rw [joinL_some HBL.out (dirL_of HL.out HO.out HCF.out)]; exact HJ2.out
                                  go_upto_region 30 with fail
                                  have HK9 : Hid (Blk (wd.setCell ⟨g, 2, none⟩ (.int .i64 n)) g 60 [.int .u8 c.toNat, .bool false, .int .i64 n]) := HKD.out.set 2 (.int .i64 n)
                                  have HR9 : Hid (Dr (wd.setCell ⟨g, 2, none⟩ (.int .i64 n)) w.heap.size (.slice ao acc.length cap) acc) := (Kp.set wd g 2 (.int .i64 n)).row hr0.out (fun g' hg' e => by subst e; exact HNE.out hg')
                                  have HB9 : Hid (Below w.heap.size w (wd.setCell ⟨g, 2, none⟩ (.int .i64 n))) := bSet hB0.out g 2 hgl _
                                  generalize wd.setCell ⟨g, 2, none⟩ (.int .i64 n) = w9 at *
                                  clear c0 c1 c2 f2
                                  have e0 := HK9.out.cell 0 rfl
                                  have e1 := HK9.out.cell 1 rfl
                                  have e2 := HK9.out.cell 2 rfl
                                  have HIS := Lib.hid (Dr.below HR9.out (bSelf w9 (.cells #[.int .u8 c.toNat, .bool false, .int .i64 n] 60)))
                                  have HNW : Hid (Blk (w9.alloc (.cells #[.int .u8 c.toNat, .bool false, .int .i64 n] 60)) w9.heap.size 60 (Dir.rs ⟨c, false, (n : Int)⟩).toList) := newAt _ _ _ _ _ rfl rfl
                                  have HBS : Hid (w.heap.size ≤ (w9.alloc (.cells #[.int .u8 c.toNat, .bool false, .int .i64 n] 60)).heap.size) := ((bAl HB9.out _).size)
                                  have hx2 : acc.length ≤ 1000000 := by omega
                                  go_wp2_with (at_builtin; refine app60 rfl _ _ rfl w.heap.size (.slice ao acc.length cap) acc rfl HIS.out w9.heap.size 1 ⟨c, false, (n : Int)⟩ rfl HNW.out hx2 HBS.out ?_; intro v6 w6 hown6 hgrow6; obtain ⟨a6, c6, rfl⟩ := row_slice (dr_len hown6.out))
                                  have HB6 : Hid (Below w.heap.size w w6) := (bAl HB9.out _).grown hgrow6.out HBS.out (fun j hj => (HIS.out.lt j hj).1)
                                  clear hgrow6
                                  go_roundw
                                  case rel => exact ⟨p, acc ++ [⟨c, false, (n : Int)⟩], by omega, by go_num, by rw [List.length_append]; simp only [List.length_cons, List.length_nil]; omega, hown6, HJN, HB6⟩
                                  case measure => simp [intOf]; omega
                                · have d64 := u8_ne (n := 64) (k := 64) rfl h64
                                  have d64n : ((c.toNat : Int) != 64) = true := by simp only [bne, d64, Bool.not_false]
                                  have HF : Hid (formL s.data.toList = none) := by
                                    refine form_bad HJ2.out HBL.out (dirL_bad HO.out ?_)
                                    rw [HCN2.out, HNO.out, if_neg]
                                    rw [decide_eq_false h64, decide_eq_false (show ¬ (x ≠ 48) from fun h => h hz)]; simp
                                  clear hz hone h64 hp1
                                  go_wp2
                                  go_ret2
                                  exact RfdR.bad HF hB0.out
                              · have hp2 : q + 1 < p := by have h1 := HP.out; have h2 := HDD.out; have h3 := List.length_pos_iff.2 hone; rw [h2] at h1; simp only [List.length_cons] at h1; omega
                                have dq : (q : Int) + 1 < p := by omega
                                have HF : Hid (formL s.data.toList = none) := by
                                  refine form_bad HJ2.out HBL.out (dirL_bad HO.out ?_)
                                  rw [HCN2.out, HNO.out, if_neg]
                                  rw [decide_eq_false (show ¬ (x ≠ 48) from fun h => h hz), decide_eq_false (show ¬ (D' = [] ∧ x = 48) from fun h => hone h.1)]; simp
                                clear hz hone
                                go_wp2
                                go_ret2
                                exact RfdR.bad HF hB0.out
                            · have dz := u8_ne (n := 48) (k := 48) rfl hz
                              by_cases hV1 : V ≤ 1000
                              · have HCF : Hid (countL c (s.data.toList.drop q) = some ((V : Int), s.data.toList.drop p)) := by
                                  show _ = _
                                  rw [HCN2.out, HNO.out, if_pos]
                                  rw [decide_eq_true (show numL D 0 ≤ 1000 by rw [HV.out]; omega), decide_eq_true hz]; simp
                                obtain rfl : n = V := by rw [← HN.out]; omega
                                have hn1 : (n : Int) ≤ 1000 := by omega
                                clear hz hV1
                                have HJN : Hid (joinL (acc ++ [⟨c, false, (n : Int)⟩]) (s.data.toList.drop p) = restL s.data.toList) := by
                                  show _ = _; rw [joinL_some HBL.out (dirL_of HL.out HO.out HCF.out)]; exact HJ2.out
                                go_upto_region 30 with fail
                                have HK9 : Hid (Blk (wd.setCell ⟨g, 2, none⟩ (.int .i64 n)) g 60 [.int .u8 c.toNat, .bool false, .int .i64 n]) := HKD.out.set 2 (.int .i64 n)
                                have HR9 : Hid (Dr (wd.setCell ⟨g, 2, none⟩ (.int .i64 n)) w.heap.size (.slice ao acc.length cap) acc) := (Kp.set wd g 2 (.int .i64 n)).row hr0.out (fun g' hg' e => by subst e; exact HNE.out hg')
                                have HB9 : Hid (Below w.heap.size w (wd.setCell ⟨g, 2, none⟩ (.int .i64 n))) := bSet hB0.out g 2 hgl _
                                generalize wd.setCell ⟨g, 2, none⟩ (.int .i64 n) = w9 at *
                                clear c0 c1 c2 f2
                                have e0 := HK9.out.cell 0 rfl
                                have e1 := HK9.out.cell 1 rfl
                                have e2 := HK9.out.cell 2 rfl
                                have HIS := Lib.hid (Dr.below HR9.out (bSelf w9 (.cells #[.int .u8 c.toNat, .bool false, .int .i64 n] 60)))
                                have HNW : Hid (Blk (w9.alloc (.cells #[.int .u8 c.toNat, .bool false, .int .i64 n] 60)) w9.heap.size 60 (Dir.rs ⟨c, false, (n : Int)⟩).toList) := newAt _ _ _ _ _ rfl rfl
                                have HBS : Hid (w.heap.size ≤ (w9.alloc (.cells #[.int .u8 c.toNat, .bool false, .int .i64 n] 60)).heap.size) := ((bAl HB9.out _).size)
                                have hx2 : acc.length ≤ 1000000 := by omega
                                go_wp2_with (at_builtin; refine app60 rfl _ _ rfl w.heap.size (.slice ao acc.length cap) acc rfl HIS.out w9.heap.size 1 ⟨c, false, (n : Int)⟩ rfl HNW.out hx2 HBS.out ?_; intro v6 w6 hown6 hgrow6; obtain ⟨a6, c6, rfl⟩ := row_slice (dr_len hown6.out))
                                have HB6 : Hid (Below w.heap.size w w6) := (bAl HB9.out _).grown hgrow6.out HBS.out (fun j hj => (HIS.out.lt j hj).1)
                                clear hgrow6
                                go_roundw
                                case rel => exact ⟨p, acc ++ [⟨c, false, (n : Int)⟩], by omega, by go_num, by rw [List.length_append]; simp only [List.length_cons, List.length_nil]; omega, hown6, HJN, HB6⟩
                                case measure => simp [intOf]; omega
                              · have hn1 : (1000 : Int) < n := by have := HN.out; omega
                                have HF : Hid (formL s.data.toList = none) := by
                                  refine form_bad HJ2.out HBL.out (dirL_bad HO.out ?_)
                                  rw [HCN2.out, HNO.out, if_neg]
                                  rw [decide_eq_false (show ¬ (numL D 0 ≤ 1000) by rw [HV.out]; omega)]; simp
                                clear hz hV1
                                go_wp2
                                go_ret2
                                exact RfdR.bad HF hB0.out
                          · have t2 : (48 : Int) ≤ b.toNat := by omega
                            have t3 : decide ((b.toNat : Int) ≤ 57) = false := decide_eq_false (by omega)
                            clear hb3 hlo
                            go_upto_region 26 with fail
                            clear t1 t2 t3 hb2 hb1
                            have hsx := HX.out
                            by_cases hz : x = 48
                            · have dz := u8_eq (n := 48) (k := 48) rfl hz
                              by_cases hone : D' = []
                              · have hp1 : p = q + 1 := by have h1 := HP.out; have h2 := HDD.out; rw [hone] at h2; rw [h2] at h1; simp at h1; omega
                                have dq : p ≤ q + 1 := by omega
                                by_cases h64 : c = 64
                                · have d64 := u8_eq (n := 64) (k := 64) rfl h64
                                  have d64n : ((c.toNat : Int) != 64) = false := by simp only [bne, d64, Bool.not_true]
                                  have hV0 : V = 0 := by rw [← HV.out, HDD.out, hone, hz]; rfl
                                  have HCF : Hid (countL c (s.data.toList.drop q) = some ((V : Int), s.data.toList.drop p)) := by
                                    show _ = _
                                    rw [HCN2.out, HNO.out, if_pos]
                                    rw [decide_eq_true (show numL D 0 ≤ 1000 by rw [HV.out]; omega), decide_eq_true (show D' = [] ∧ x = 48 from ⟨hone, hz⟩), decide_eq_true h64]; simp
                                  obtain rfl : n = V := by rw [← HN.out]; omega
                                  have hn1 : (n : Int) ≤ 1000 := by omega
                                  clear hz hone h64 hV0 hp1
                                  have HJN : Hid (joinL (acc ++ [⟨c, false, (n : Int)⟩]) (s.data.toList.drop p) = restL s.data.toList) := by
                                    show _ = _; rw [joinL_some HBL.out (dirL_of HL.out HO.out HCF.out)]; exact HJ2.out
                                  go_upto_region 30 with fail
                                  have HK9 : Hid (Blk (wd.setCell ⟨g, 2, none⟩ (.int .i64 n)) g 60 [.int .u8 c.toNat, .bool false, .int .i64 n]) := HKD.out.set 2 (.int .i64 n)
                                  have HR9 : Hid (Dr (wd.setCell ⟨g, 2, none⟩ (.int .i64 n)) w.heap.size (.slice ao acc.length cap) acc) := (Kp.set wd g 2 (.int .i64 n)).row hr0.out (fun g' hg' e => by subst e; exact HNE.out hg')
                                  have HB9 : Hid (Below w.heap.size w (wd.setCell ⟨g, 2, none⟩ (.int .i64 n))) := bSet hB0.out g 2 hgl _
                                  generalize wd.setCell ⟨g, 2, none⟩ (.int .i64 n) = w9 at *
                                  clear c0 c1 c2 f2
                                  have e0 := HK9.out.cell 0 rfl
                                  have e1 := HK9.out.cell 1 rfl
                                  have e2 := HK9.out.cell 2 rfl
                                  have HIS := Lib.hid (Dr.below HR9.out (bSelf w9 (.cells #[.int .u8 c.toNat, .bool false, .int .i64 n] 60)))
                                  have HNW : Hid (Blk (w9.alloc (.cells #[.int .u8 c.toNat, .bool false, .int .i64 n] 60)) w9.heap.size 60 (Dir.rs ⟨c, false, (n : Int)⟩).toList) := newAt _ _ _ _ _ rfl rfl
                                  have HBS : Hid (w.heap.size ≤ (w9.alloc (.cells #[.int .u8 c.toNat, .bool false, .int .i64 n] 60)).heap.size) := ((bAl HB9.out _).size)
                                  have hx2 : acc.length ≤ 1000000 := by omega
                                  go_wp2_with (at_builtin; refine app60 rfl _ _ rfl w.heap.size (.slice ao acc.length cap) acc rfl HIS.out w9.heap.size 1 ⟨c, false, (n : Int)⟩ rfl HNW.out hx2 HBS.out ?_; intro v6 w6 hown6 hgrow6; obtain ⟨a6, c6, rfl⟩ := row_slice (dr_len hown6.out))
                                  have HB6 : Hid (Below w.heap.size w w6) := (bAl HB9.out _).grown hgrow6.out HBS.out (fun j hj => (HIS.out.lt j hj).1)
                                  clear hgrow6
                                  go_roundw
                                  case rel => exact ⟨p, acc ++ [⟨c, false, (n : Int)⟩], by omega, by go_num, by rw [List.length_append]; simp only [List.length_cons, List.length_nil]; omega, hown6, HJN, HB6⟩
                                  case measure => simp [intOf]; omega
                                · have d64 := u8_ne (n := 64) (k := 64) rfl h64
                                  have d64n : ((c.toNat : Int) != 64) = true := by simp only [bne, d64, Bool.not_false]
                                  have HF : Hid (formL s.data.toList = none) := by
                                    refine form_bad HJ2.out HBL.out (dirL_bad HO.out ?_)
                                    rw [HCN2.out, HNO.out, if_neg]
                                    rw [decide_eq_false h64, decide_eq_false (show ¬ (x ≠ 48) from fun h => h hz)]; simp
                                  clear hz hone h64 hp1
                                  go_wp2
                                  go_ret2
                                  exact RfdR.bad HF hB0.out
                              · have hp2 : q + 1 < p := by have h1 := HP.out; have h2 := HDD.out; have h3 := List.length_pos_iff.2 hone; rw [h2] at h1; simp only [List.length_cons] at h1; omega
                                have dq : (q : Int) + 1 < p := by omega
                                have HF : Hid (formL s.data.toList = none) := by
                                  refine form_bad HJ2.out HBL.out (dirL_bad HO.out ?_)
                                  rw [HCN2.out, HNO.out, if_neg]
                                  rw [decide_eq_false (show ¬ (x ≠ 48) from fun h => h hz), decide_eq_false (show ¬ (D' = [] ∧ x = 48) from fun h => hone h.1)]; simp
                                clear hz hone
                                go_wp2
                                go_ret2
                                exact RfdR.bad HF hB0.out
                            · have dz := u8_ne (n := 48) (k := 48) rfl hz
                              by_cases hV1 : V ≤ 1000
                              · have HCF : Hid (countL c (s.data.toList.drop q) = some ((V : Int), s.data.toList.drop p)) := by
                                  show _ = _
                                  rw [HCN2.out, HNO.out, if_pos]
                                  rw [decide_eq_true (show numL D 0 ≤ 1000 by rw [HV.out]; omega), decide_eq_true hz]; simp
                                obtain rfl : n = V := by rw [← HN.out]; omega
                                have hn1 : (n : Int) ≤ 1000 := by omega
                                clear hz hV1
                                have HJN : Hid (joinL (acc ++ [⟨c, false, (n : Int)⟩]) (s.data.toList.drop p) = restL s.data.toList) := by
                                  show _ = _; rw [joinL_some HBL.out (dirL_of HL.out HO.out HCF.out)]; exact HJ2.out
                                go_upto_region 30 with fail
                                have HK9 : Hid (Blk (wd.setCell ⟨g, 2, none⟩ (.int .i64 n)) g 60 [.int .u8 c.toNat, .bool false, .int .i64 n]) := HKD.out.set 2 (.int .i64 n)
                                have HR9 : Hid (Dr (wd.setCell ⟨g, 2, none⟩ (.int .i64 n)) w.heap.size (.slice ao acc.length cap) acc) := (Kp.set wd g 2 (.int .i64 n)).row hr0.out (fun g' hg' e => by subst e; exact HNE.out hg')
                                have HB9 : Hid (Below w.heap.size w (wd.setCell ⟨g, 2, none⟩ (.int .i64 n))) := bSet hB0.out g 2 hgl _
                                generalize wd.setCell ⟨g, 2, none⟩ (.int .i64 n) = w9 at *
                                clear c0 c1 c2 f2
                                have e0 := HK9.out.cell 0 rfl
                                have e1 := HK9.out.cell 1 rfl
                                have e2 := HK9.out.cell 2 rfl
                                have HIS := Lib.hid (Dr.below HR9.out (bSelf w9 (.cells #[.int .u8 c.toNat, .bool false, .int .i64 n] 60)))
                                have HNW : Hid (Blk (w9.alloc (.cells #[.int .u8 c.toNat, .bool false, .int .i64 n] 60)) w9.heap.size 60 (Dir.rs ⟨c, false, (n : Int)⟩).toList) := newAt _ _ _ _ _ rfl rfl
                                have HBS : Hid (w.heap.size ≤ (w9.alloc (.cells #[.int .u8 c.toNat, .bool false, .int .i64 n] 60)).heap.size) := ((bAl HB9.out _).size)
                                have hx2 : acc.length ≤ 1000000 := by omega
                                go_wp2_with (at_builtin; refine app60 rfl _ _ rfl w.heap.size (.slice ao acc.length cap) acc rfl HIS.out w9.heap.size 1 ⟨c, false, (n : Int)⟩ rfl HNW.out hx2 HBS.out ?_; intro v6 w6 hown6 hgrow6; obtain ⟨a6, c6, rfl⟩ := row_slice (dr_len hown6.out))
                                have HB6 : Hid (Below w.heap.size w w6) := (bAl HB9.out _).grown hgrow6.out HBS.out (fun j hj => (HIS.out.lt j hj).1)
                                clear hgrow6
                                go_roundw
                                case rel => exact ⟨p, acc ++ [⟨c, false, (n : Int)⟩], by omega, by go_num, by rw [List.length_append]; simp only [List.length_cons, List.length_nil]; omega, hown6, HJN, HB6⟩
                                case measure => simp [intOf]; omega
                              · have hn1 : (1000 : Int) < n := by have := HN.out; omega
                                have HF : Hid (formL s.data.toList = none) := by
                                  refine form_bad HJ2.out HBL.out (dirL_bad HO.out ?_)
                                  rw [HCN2.out, HNO.out, if_neg]
                                  rw [decide_eq_false (show ¬ (numL D 0 ≤ 1000) by rw [HV.out]; omega)]; simp
                                clear hz hV1
                                go_wp2
                                go_ret2
                                exact RfdR.bad HF hB0.out
                  · have hdg0 : isDig x = false := by simpa using hdg
                    have HCN : Hid (countL c (s.data.toList.drop q) = some (-2, s.data.toList.drop q)) := by
                      show _ = _; rw [HDQ.out]; exact cnt_other hdg0 h42
                    have HJN : Hid (joinL (acc ++ [⟨c, false, -2⟩]) (s.data.toList.drop q) = restL s.data.toList) := by
                      show _ = _; rw [joinL_some HBL.out (dirL_of HL.out HO.out HCN.out)]; exact HJ2.out
                    have HK9 := HKD
                    have HR9 := hr0
                    have HB9 := hB0
                    simp only [isDig, decide_eq_false_iff_not] at hdg0
                    clear h42 hdg
                    by_cases hlo : x.toNat < 48
                    · have g1 : decide ((48 : Int) ≤ x.toNat) = false := decide_eq_false (by omega)
                      clear hdg0 hlo
                      go_upto_region 30 with fail
                      clear c0 c1 c2 f2
                      have e0 := HK9.out.cell 0 rfl
                      have e1 := HK9.out.cell 1 rfl
                      have e2 := HK9.out.cell 2 rfl
                      have HIS := Lib.hid (Dr.below HR9.out (bSelf wd (.cells #[.int .u8 c.toNat, .bool false, .int .i64 (-2)] 60)))
                      have HNW : Hid (Blk (wd.alloc (.cells #[.int .u8 c.toNat, .bool false, .int .i64 (-2)] 60)) wd.heap.size 60 (Dir.rs ⟨c, false, -2⟩).toList) := newAt _ _ _ _ _ rfl rfl
                      have HBS : Hid (w.heap.size ≤ (wd.alloc (.cells #[.int .u8 c.toNat, .bool false, .int .i64 (-2)] 60)).heap.size) := ((bAl HB9.out _).size)
                      have hx2 : acc.length ≤ 1000000 := by omega
                      go_wp2_with (at_builtin; refine app60 rfl _ _ rfl w.heap.size (.slice ao acc.length cap) acc rfl HIS.out wd.heap.size 1 ⟨c, false, -2⟩ rfl HNW.out hx2 HBS.out ?_; intro v6 w6 hown6 hgrow6; obtain ⟨a6, c6, rfl⟩ := row_slice (dr_len hown6.out))
                      have HB6 : Hid (Below w.heap.size w w6) := (bAl HB9.out _).grown hgrow6.out HBS.out (fun j hj => (HIS.out.lt j hj).1)
                      clear hgrow6
                      go_roundw
                      case rel => exact ⟨q, acc ++ [⟨c, false, -2⟩], by omega, by go_num, by rw [List.length_append]; simp only [List.length_cons, List.length_nil]; omega, hown6, HJN, HB6⟩
                      case measure => simp [intOf]; omega
                    · have g1 : (48 : Int) ≤ x.toNat := by omega
                      have g2 : decide ((x.toNat : Int) ≤ 57) = false := decide_eq_false (by omega)
                      clear hdg0 hlo
                      go_upto_region 30 with fail
                      clear c0 c1 c2 f2
                      have e0 := HK9.out.cell 0 rfl
                      have e1 := HK9.out.cell 1 rfl
                      have e2 := HK9.out.cell 2 rfl
                      have HIS := Lib.hid (Dr.below HR9.out (bSelf wd (.cells #[.int .u8 c.toNat, .bool false, .int .i64 (-2)] 60)))
                      have HNW : Hid (Blk (wd.alloc (.cells #[.int .u8 c.toNat, .bool false, .int .i64 (-2)] 60)) wd.heap.size 60 (Dir.rs ⟨c, false, -2⟩).toList) := newAt _ _ _ _ _ rfl rfl
                      have HBS : Hid (w.heap.size ≤ (wd.alloc (.cells #[.int .u8 c.toNat, .bool false, .int .i64 (-2)] 60)).heap.size) := ((bAl HB9.out _).size)
                      have hx2 : acc.length ≤ 1000000 := by omega
                      go_wp2_with (at_builtin; refine app60 rfl _ _ rfl w.heap.size (.slice ao acc.length cap) acc rfl HIS.out wd.heap.size 1 ⟨c, false, -2⟩ rfl HNW.out hx2 HBS.out ?_; intro v6 w6 hown6 hgrow6; obtain ⟨a6, c6, rfl⟩ := row_slice (dr_len hown6.out))
                      have HB6 : Hid (Below w.heap.size w w6) := (bAl HB9.out _).grown hgrow6.out HBS.out (fun j hj => (HIS.out.lt j hj).1)
                      clear hgrow6
                      go_roundw
                      case rel => exact ⟨q, acc ++ [⟨c, false, -2⟩], by omega, by go_num, by rw [List.length_append]; simp only [List.length_cons, List.length_nil]; omega, hown6, HJN, HB6⟩
                      case measure => simp [intOf]; omega
              · have hqei : decide ((q : Int) < s.size) = false := decide_eq_false (by omega)
                have hqee : s.size ≤ q := by omega
                have HCN : Hid (countL c (s.data.toList.drop q) = some (-2, s.data.toList.drop q)) := by
                  show _ = _; rw [List.drop_of_length_le (by omega)]; rfl
                have HJN : Hid (joinL (acc ++ [⟨c, false, -2⟩]) (s.data.toList.drop q) = restL s.data.toList) := by
                  show _ = _; rw [joinL_some HBL.out (dirL_of HL.out HO.out HCN.out)]; exact HJ2.out
                have HK9 := HKD
                have HR9 := hr0
                have HB9 := hB0
                clear hqe
                go_upto_region 30 with fail
                clear c0 c1 c2 f2
                have e0 := HK9.out.cell 0 rfl
                have e1 := HK9.out.cell 1 rfl
                have e2 := HK9.out.cell 2 rfl
                have HIS := Lib.hid (Dr.below HR9.out (bSelf wd (.cells #[.int .u8 c.toNat, .bool false, .int .i64 (-2)] 60)))
                have HNW : Hid (Blk (wd.alloc (.cells #[.int .u8 c.toNat, .bool false, .int .i64 (-2)] 60)) wd.heap.size 60 (Dir.rs ⟨c, false, -2⟩).toList) := newAt _ _ _ _ _ rfl rfl
                have HBS : Hid (w.heap.size ≤ (wd.alloc (.cells #[.int .u8 c.toNat, .bool false, .int .i64 (-2)] 60)).heap.size) := ((bAl HB9.out _).size)
                have hx2 : acc.length ≤ 1000000 := by omega
                go_wp2_with (at_builtin; refine app60 rfl _ _ rfl w.heap.size (.slice ao acc.length cap) acc rfl HIS.out wd.heap.size 1 ⟨c, false, -2⟩ rfl HNW.out hx2 HBS.out ?_; intro v6 w6 hown6 hgrow6; obtain ⟨a6, c6, rfl⟩ := row_slice (dr_len hown6.out))
                have HB6 : Hid (Below w.heap.size w w6) := (bAl HB9.out _).grown hgrow6.out HBS.out (fun j hj => (HIS.out.lt j hj).1)
                clear hgrow6
                go_roundw
                case rel => exact ⟨q, acc ++ [⟨c, false, -2⟩], by omega, by go_num, by rw [List.length_append]; simp only [List.length_cons, List.length_nil]; omega, hown6, HJN, HB6⟩
                case measure => simp [intOf]; omega
            · have hqei : decide ((q : Int) < s.size) = false := decide_eq_false (by omega)
              have hqee : s.size ≤ q := by omega
              have HCN : Hid (countL c (s.data.toList.drop q) = some (-2, s.data.toList.drop q)) := by
                show _ = _; rw [List.drop_of_length_le (by omega)]; rfl
              have HJN : Hid (joinL (acc ++ [⟨c, false, -2⟩]) (s.data.toList.drop q) = restL s.data.toList) := by
                show _ = _; rw [joinL_some HBL.out (dirL_of HL.out HO.out HCN.out)]; exact HJ2.out
              have HK9 := HKD
              have HR9 := hr0
              have HB9 := hB0
              clear hqe0 hgtx
              go_upto_region 30 with fail
              clear c0 c1 c2 f2
              have e0 := HK9.out.cell 0 rfl
              have e1 := HK9.out.cell 1 rfl
              have e2 := HK9.out.cell 2 rfl
              have HIS := Lib.hid (Dr.below HR9.out (bSelf wd (.cells #[.int .u8 c.toNat, .bool false, .int .i64 (-2)] 60)))
              have HNW : Hid (Blk (wd.alloc (.cells #[.int .u8 c.toNat, .bool false, .int .i64 (-2)] 60)) wd.heap.size 60 (Dir.rs ⟨c, false, -2⟩).toList) := newAt _ _ _ _ _ rfl rfl
              have HBS : Hid (w.heap.size ≤ (wd.alloc (.cells #[.int .u8 c.toNat, .bool false, .int .i64 (-2)] 60)).heap.size) := ((bAl HB9.out _).size)
              have hx2 : acc.length ≤ 1000000 := by omega
              go_wp2_with (at_builtin; refine app60 rfl _ _ rfl w.heap.size (.slice ao acc.length cap) acc rfl HIS.out wd.heap.size 1 ⟨c, false, -2⟩ rfl HNW.out hx2 HBS.out ?_; intro v6 w6 hown6 hgrow6; obtain ⟨a6, c6, rfl⟩ := row_slice (dr_len hown6.out))
              have HB6 : Hid (Below w.heap.size w w6) := (bAl HB9.out _).grown hgrow6.out HBS.out (fun j hj => (HIS.out.lt j hj).1)
              clear hgrow6
              go_roundw
              case rel => exact ⟨q, acc ++ [⟨c, false, -2⟩], by omega, by go_num, by rw [List.length_append]; simp only [List.length_cons, List.length_nil]; omega, hown6, HJN, HB6⟩
              case measure => simp [intOf]; omega
    · obtain rfl : s.size = k := by omega
      have hj2 := hj.out
      rw [List.drop_of_length_le (by omega), joinL_nil rfl] at hj2
      by_cases h50 : acc.length ≤ 50
      · have h50i : (acc.length : Int) ≤ 50 := by omega
        have HF : Hid (formL s.data.toList = some acc) := by show _ = _; rw [formL_rest, ← hj2]; show (if _ then _ else _) = _; rw [if_pos h50]
        clear hj2 hlt
        go_wp2
        go_ret2
        exact RfdR.good HF hB.out hrow.out
      · have h50i : decide ((acc.length : Int) ≤ 50) = false := decide_eq_false (by omega)
        have HF : Hid (formL s.data.toList = none) := by show _ = _; rw [formL_rest, ← hj2]; show (if _ then _ else _) = _; rw [if_neg h50]
        clear hj2 hlt
        go_wp2
        go_ret2
        exact RfdR.bad HF hB.out
end Go.Proofs.YtmbnckmhngijdaaGreatDoor
