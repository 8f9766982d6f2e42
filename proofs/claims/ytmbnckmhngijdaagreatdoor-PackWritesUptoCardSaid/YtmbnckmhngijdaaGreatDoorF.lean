/- Contract of directives. -/
import Derived.Test.YtmbnckmhngijdaaGreatDoorE
namespace Go.Proofs.YtmbnckmhngijdaaGreatDoor
open Go Go.RowKit Go.Maps

theorem info81 : (Tryz.prog.info? 81).map (fun i => (i.zero, i.size, i.bytes)) = some (some (.agg #[.int .u8 0, .bool false, .int .i64 0, .bool false, .bool false, .int .i64 0]), 6, 32) := by kernel_rfl
def dcells (ds : List Dir) : List Value := ds.flatMap fun d => d.cs.toList
theorem dcells_snoc (ds : List Dir) (d : Dir) : dcells (ds ++ [d]) = dcells ds ++ d.cs.toList := by simp [dcells]
theorem dcells_length (ds : List Dir) : (dcells ds).length = ds.length * 6 := by
  induction ds with
  | nil => rfl
  | cons d ds ih => simp only [dcells, List.flatMap_cons, List.length_append, List.length_cons] at ih ⊢; rw [ih]; simp [Dir.cs]; omega
/-- directives in memory -/
def Ds (w : World) (base : Nat) (v : Value) (ds : List Dir) : Prop := w.ownsRow base 81 6 v ds.length (dcells ds)
theorem add_addr (g j k : Nat) : (⟨g, j, none⟩ : Addr).add k = ⟨g, j + k, none⟩ := by simp [Addr.add]
theorem app81 {w : World} {ops : Array Oper} {rest : List Oper} {o : Oper} {a : Act} {Q : Exit → Act → World → Prop} (hgd : o.guard = none) (s x : Operand)
    (ho : o.op = .call { callee := .builtin .append, args := #[s, x], argTypes := #[87, 87] }) (base : Nat) (v : Value) (ds : List Dir) (hs : a.eval s = v) (hown : Ds w base v ds)
    (g c : Nat) (d : Dir) (hx : a.eval x = .slice (some ⟨g, 0, none⟩) 1 c) (hc : Blk w g 81 d.cs.toList) (hn : ds.length ≤ 1000000) (hbase : base ≤ w.heap.size)
    (h : ∀ v' w', Hid (Ds w' base v' (ds ++ [d])) → Hid (w.grownBy w' v.ownBlock) → wpList Tryz.prog ops Q rest (a.put o.dst v') w') :
    wpList Tryz.prog ops Q (o :: rest) a w := by
  obtain ⟨i0, hi, hz0, hz1, hz2⟩ := info_parts info81
  refine wpList_append_own w hgd s x 87 ho base 81 i0 (.agg #[.int .u8 0, .bool false, .int .i64 0, .bool false, .bool false, .int .i64 0]) 6 32 Tryz.underlying87 hi hz0 hz1 hz2 rfl (by decide) v ds.length (dcells ds) hs hown ⟨g, 0, none⟩ 1 c d.cs.toList hx rfl ?_ ?_ (by unfold maxLen; omega) (by omega) hbase (fun v' w' h1 h2 _ => h v' w' ?_ h2)
  · intro j u hu
    rw [add_addr, Nat.zero_add]
    exact hc.cell j hu
  · intro u hu
    simp only [Dir.cs, List.mem_cons, List.mem_nil_iff, or_false] at hu
    rcases hu with rfl | rfl | rfl | rfl | rfl | rfl <;> rfl
  · show World.ownsRow _ _ _ _ _ _ _
    rw [dcells_snoc, List.length_append]
    exact h1
theorem letters_eq (c : UInt8) : lettersL.contains c = (numC c || ([97, 65, 90, 72, 120, 64] : List UInt8).contains c) := by
  have : ∀ n : Fin 256, lettersL.contains (UInt8.ofNat n.val) = (numC (UInt8.ofNat n.val) || ([97, 65, 90, 72, 120, 64] : List UInt8).contains (UInt8.ofNat n.val)) := by decide +kernel
  have h := this ⟨c.toNat, c.toNat_lt⟩
  dsimp only at h
  rw [UInt8.ofNat_toNat] at h
  exact h
theorem wfu8 (c : UInt8) : (Lit.int .u8 c.toNat).wf = true := by
  have := c.toNat_lt
  show (decide (0 ≤ (c.toNat : Int)) && decide ((c.toNat : Int) ≤ 255)) = true
  rw [Bool.and_eq_true]
  exact ⟨decide_eq_true (by omega), decide_eq_true (by omega)⟩
theorem lit_int {a b : Int} (h : (DataW.lit (.int .i64 a) : DataW Unit) = .lit (.int .i64 b)) : a = b := by injection h with h; injection h
theorem tab_below {W W' : World} {b : Nat} (h : Tab W b) (hb : Below W.heap.size W W') : Tab W' b := h.kept (row := none) ⟨hb.os, hb.tape, hb.output, hb.size, fun k hk _ => hb.block k hk⟩ (by simp)
theorem dsAl {W : World} {B : Nat} {v : Value} {ds : List Dir} (h : Ds W B v ds) (o : Obj) : Ds (W.alloc o) B v ds := ownsRow_below h (bSelf W o)
theorem tab_ne {W : World} {b B : Nat} {v : Value} {ds : List Dir} (h : Tab W b) (hd : Ds W B v ds) : some b ≠ v.ownBlock := by
  obtain ⟨es, clock, hb, _⟩ := h
  rcases hd.2 with ⟨rfl, _⟩ | ⟨g, cap, cur, rfl, _, hg, _⟩
  · simp [Value.ownBlock]
  · intro e
    simp [Value.ownBlock] at e
    subst e
    rw [hg] at hb
    cases hb
def strLenV : Value → Nat | .string s => s.size | _ => 0
/-- what directives tells -/
def DirsR (l : List UInt8) (w : World) (e : Ending) (w' : World) : Prop :=
  Below w.heap.size w w' ∧
  match formL l with
  | none => e = .returned (.tuple #[.slice none 0 0, .bool false])
  | some ds => ∃ v, e = .returned (.tuple #[v, .bool true]) ∧ Ds w' w.heap.size v ds
theorem DirsR.bad {l : List UInt8} {w w' : World} (h : Hid (formL l = none)) (hb : Below w.heap.size w w') : DirsR l w (.returned (.tuple #[.slice none 0 0, .bool false])) w' := by
  unfold DirsR; rw [h.out]; exact ⟨hb, rfl⟩
theorem DirsR.good {l : List UInt8} {w w' : World} {ds : List Dir} {v : Value} (h : Hid (formL l = some ds)) (hb : Below w.heap.size w w') (hd : Ds w' w.heap.size v ds) : DirsR l w (.returned (.tuple #[v, .bool true])) w' := by
  unfold DirsR; rw [h.out]; exact ⟨hb, v, rfl, hd⟩
theorem row_slice {w : World} {base n : Nat} {e : TypeId} {size : Nat} {v : Value} {xs : List Value} (h : w.ownsRow base e size v n xs) : ∃ ao cap, v = .slice ao n cap := by
  rcases h.2 with ⟨rfl, rfl⟩ | ⟨g, cap, cur, rfl, _⟩
  · exact ⟨none, 0, rfl⟩
  · exact ⟨_, cap, rfl⟩

set_option maxRecDepth 100000 in
set_option maxHeartbeats 4000000 in
theorem t45 (s : ByteArray) (w : World) (hG : Gl w) (hs : s.size ≤ 100000) : Calls Tryz.prog 45 #[.string s] w (DirsR s.data.toList w) := by
  have c66 := fun r w => t66 r w
  have c65 := t65 w
  have HG := Lib.hid hG
  have hsl : s.data.toList.length = s.size := rfl
  clear hG
  go_enter Tryz.func45, Tryz.ntmps45
  go_wp2_with fail
  refine c65.mono ?_
  rintro e1 w1 ⟨rfl, htab, hb1⟩
  have HT1 := Lib.hid htab
  have HB1 := Lib.hid hb1
  clear htab hb1 c65
  go_wp2_with fail
  refine (c66 _ _).mono ?_
  rintro e2 w2 ⟨rfl, rfl⟩
  have hbl0 := blanksL_length s.data.toList
  go_wp2_with fail
  go_loopw [5, 6] (fun l r wr => ∃ (acc : List Dir) (rs : ByteArray), Hid (Ds wr w.heap.size l acc) ∧ r = .string rs ∧ Hid (joinL acc rs.data.toList = restL s.data.toList) ∧ acc.length ≤ 50 ∧ Hid (blanksL rs.data.toList = rs.data.toList) ∧ rs.size ≤ s.size ∧ Hid (Tab wr w.heap.size) ∧ Hid (Below w.heap.size w wr))
    (fun _ r _ => strLenV r)
  case atStart =>
    refine ⟨[], ⟨(blanksL s.data.toList).toArray⟩, World.ownsRow_nil _ _ _ _, rfl, ?_, by simp, ?_, by show (blanksL s.data.toList).length ≤ _; omega, HT1, HB1⟩
    · show joinL [] (blanksL s.data.toList) = _
      rw [joinL_blanksL, joinL_start]
    · exact blanksL_blanksL _
  case round =>
    obtain ⟨acc, rs, hrow, rfl, hj, ha, hbb, hrs, hT, hB⟩ := hrel
    obtain ⟨wo, rfl⟩ : ∃ wo : World, wo = wr := ⟨_, rfl⟩
    obtain ⟨ao, cap, rfl⟩ := row_slice hrow.out
    have hrl : rs.data.toList.length = rs.size := rfl
    by_cases h0 : rs.size = 0
    · have hz : (rs.size : Int) ≤ 0 := by omega
      have hnil : rs.data.toList = [] := List.length_eq_zero_iff.1 (by omega)
      have HF : Hid (formL s.data.toList = some acc) := by
        show _ = _
        rw [formL_rest, ← hj.out, joinL_nil (by rw [hbb.out]; exact hnil)]
        show (if acc.length ≤ 50 then some acc else none) = _
        rw [if_pos ha]
      clear h0 hnil
      go_wp2
      go_ret2
      exact DirsR.good HF hB.out hrow.out
    · obtain ⟨c, m, hcm⟩ : ∃ c m, rs.data.toList = c :: m := by
        cases hx : rs.data.toList with
        | nil => rw [hx] at hrl; exact absurd hrl.symm h0
        | cons c m => exact ⟨c, m, rfl⟩
      have hz : (0 : Int) < rs.size := by omega
      have hz2 : 0 < rs.size := by omega
      have hc0 : rs[0]'hz2 = c := by
        have : rs[0]'hz2 = rs.data.toList[0]'(by omega) := rfl
        rw [this]; simp [hcm]
      obtain ⟨ms, hms⟩ : ∃ ms : ByteArray, ms = rs.extract 1 rs.size := ⟨_, rfl⟩
      have hml : ms.data.toList = m := by
        rw [hms, ByteArray.data_extract, Array.toList_extract, hcm]
        have : m.length + 1 = rs.size := by rw [← hrl, hcm]; rfl
        simp only [List.extract_eq_take_drop, List.drop_one, List.tail_cons]
        rw [← this, Nat.add_sub_cancel, List.take_length]
      have hmz : ms.size + 1 = rs.size := by
        have : m.length + 1 = rs.size := by rw [← hrl, hcm]; rfl
        rw [← this, ← hml]; rfl
      obtain ⟨hta1, hta2⟩ := tab_at c
      have hle := letters_eq c
      have HCM := Lib.hid hcm
      have HMS := Lib.hid hms.symm
      have HML := Lib.hid hml
      have HLE := Lib.hid hle
      have HBL : Hid (blanksL rs.data.toList = c :: m) := by show _ = _; rw [hbb.out, hcm]
      obtain ⟨q, hq⟩ : ∃ q, (⟨#[97, 65, 90, 72, 120, 64]⟩ : ByteArray).data.toList.contains c = q := ⟨_, rfl⟩
      rw [show ([97, 65, 90, 72, 120, 64] : List UInt8).contains c = q from hq] at HLE
      have c67 := fun v1 v2 v3 v4 v5 => t67 c v1 v2 v3 v4 v5 ⟨#[97, 65, 90, 72, 120, 64]⟩ q hq
      have hall : ∀ o, (wo.alloc o).ownsMap Tryz.prog 5 (plainElem (H := Unit) Tryz.prog 3) w.heap.size 12 sizesD := fun o => World.ownsMap.alloc hT.out o
      have HALL := Lib.hid hall
      have HTA1 := Lib.hid hta1
      have HTA2 := Lib.hid hta2
      clear h0 hcm hms hml hle hq hall hta1 hta2 hrl
      go_upto_region 7 with fail
      have k0 := Blk.new wo #[.int .u8 c.toNat, .bool false, .int .i64 0, .bool false, .bool false, .int .i64 0] 81
      have b0 := bSelf wo (.cells #[.int .u8 c.toNat, .bool false, .int .i64 0, .bool false, .bool false, .int .i64 0] 81)
      have hown := HALL.out (.cells #[.int .u8 c.toNat, .bool false, .int .i64 0, .bool false, .bool false, .int .i64 0] 81)
      generalize wo.alloc (.cells #[.int .u8 c.toNat, .bool false, .int .i64 0, .bool false, .bool false, .int .i64 0] 81) = wA at *
      obtain ⟨h0, h1, h2, h3, h4, h5⟩ := k0.six
      have f1 := k0.free 1
      have f2 := k0.free 2
      have K0 := Lib.hid k0
      have B0 := Lib.hid b0
      clear k0 b0
      go_upto_region 8 with (at_lookup; refine wpList_lookup_own_ok_int _ rfl _ _ 117 rfl 5 3 .i64 law5 Tryz.underlying117 Tryz.underlying3 (zero3 _) w.heap.size 12 sizesD rfl hown _ _ rfl (key5 (wfu8 c)) ?_; intro cv hat hwc; clear hwc; rw [HTA1.out] at hat; obtain rfl := lit_int hat; clear hat)
      rw [HTA2.out]
      have k2 := (K0.out.set 2 (.int .i64 (sizeC c))).set 1 (.bool (numC c))
      have b2 := bSet (bSet B0.out wo.heap.size 2 (Nat.le_refl _) (.int .i64 (sizeC c))) wo.heap.size 1 (Nat.le_refl _) (.bool (numC c))
      generalize (wA.setCell ⟨wo.heap.size, 2, none⟩ (.int .i64 (sizeC c))).setCell ⟨wo.heap.size, 1, none⟩ (.bool (numC c)) = wB at *
      have K2 : Hid (Blk wB wo.heap.size 81 [.int .u8 c.toNat, .bool (numC c), .int .i64 (sizeC c), .bool false, .bool false, .int .i64 0]) := k2
      have B2 := Lib.hid b2
      clear k2 b2 hown h0 h1 h2 h3 h4 h5 f1 f2 HALL K0 B0
      obtain ⟨h0, h1, h2, h3, h4, h5⟩ := K2.out.six
      have hal : (acc.length : Int) ≤ 50 := by omega
      have HB0 := Lib.hid (hB.out.trans (B2.out.mono hB.out.size))
      by_cases h50 : acc.length = 50
      · have hF : Hid (formL s.data.toList = none) := by
          show _ = _; rw [formL_rest, ← hj.out]; exact joinL_full HBL.out h50
        have h5 : ((acc.length : Int) == 50) = true := by rw [h50]; rfl
        clear h50
        cases hN : numC c with
        | true =>
          rw [hN] at h1
          clear hN
          go_wp2
          go_ret2
          exact DirsR.bad hF HB0.out
        | false =>
          rw [hN] at h1
          have c7 := fun x => c67 (.bool (numC c)) (.int .i64 (sizeC c)) (.bool false) (.bool false) x
          rw [hN] at c7
          clear hN
          cases q with
          | true =>
            go_wp2_with fail
            refine (c7 _ _).mono ?_
            rintro e3 w3 ⟨rfl, hb3⟩
            have HB3 := Lib.hid (HB0.out.trans (hb3.mono HB0.out.size))
            clear hb3
            go_wp2
            go_ret2
            exact DirsR.bad hF HB3.out
          | false =>
            go_wp2_with fail
            refine (c7 _ _).mono ?_
            rintro e3 w3 ⟨rfl, hb3⟩
            have HB3 := Lib.hid (HB0.out.trans (hb3.mono HB0.out.size))
            clear hb3
            go_wp2
            go_ret2
            exact DirsR.bad hF HB3.out
      · have h5 : ((acc.length : Int) == 50) = false := by rw [beq_eq_false_iff_ne]; omega
        have HB50 : acc.length < 50 := by omega
        clear h50
        have hbad : (numC c || q) = false → Hid (formL s.data.toList = none) := by
          intro hl
          show _ = _
          rw [formL_rest, ← hj.out, joinL_none HBL.out]
          · rfl
          · unfold dirL
            rw [if_neg]
            rw [HLE.out, hl]; decide
        have HBAD := Lib.hid hbad
        clear hbad
        cases hN : numC c with
        | false =>
          rw [hN] at h1
          have c7 := fun x => c67 (.bool (numC c)) (.int .i64 (sizeC c)) (.bool false) (.bool false) x
          rw [hN] at c7
          cases q with
          | false =>
            have hF := HBAD.out (by rw [hN]; rfl)
            clear hN
            go_wp2_with fail
            refine (c7 _ _).mono ?_
            rintro e3 w3 ⟨rfl, hb3⟩
            have HB3 := Lib.hid (HB0.out.trans (hb3.mono HB0.out.size))
            clear hb3
            go_wp2
            go_ret2
            exact DirsR.bad hF HB3.out
          | true =>
            have HN := Lib.hid hN
            clear hN
            go_wp2_with fail
            refine (c7 _ _).mono ?_
            rintro e3 w3 ⟨rfl, hb3⟩
            go_upto_region 10 with fail
            have KW := K2.out.below hb3 K2.out.lt
            have BW := B2.out.trans (hb3.mono (Nat.le_of_lt K2.out.lt))
            clear hb3
            have HKW := Lib.hid KW
            have HBW := Lib.hid BW
            clear KW BW
            have CO := t68 wo.heap.size c (.bool (numC c)) (.int .i64 (sizeC c)) (.bool false) (.bool false) (.int .i64 0) ms _ HKW.out
            have HCO := Lib.hid CO
            clear CO
            go_wp2_with fail
            rw [HMS.out]
            refine HCO.out.mono ?_
            rintro e4 w4 ⟨rfl, k4, hb4⟩
            have hol := orderL_length c ms.data.toList
            rw [HML.out] at k4 hol ⊢
            have hdl1 : ∀ k r, countL c (orderL c m).2 = some (k, r) → dirL c m = some (⟨c, (orderL c m).1, k⟩, r) := fun k r e => dirL_letter (by rw [HLE.out, HN.out]; rfl) e
            have hdl2 : countL c (orderL c m).2 = none → dirL c m = none := fun e => dirL_none e
            generalize hO : (orderL c m).2 = O at *
            generalize hgt : (orderL c m).1 = gt at *
            have HDL1 := Lib.hid hdl1
            have HDL2 := Lib.hid hdl2
            clear hO hgt hdl1 hdl2
            have hml2 : m.length = ms.size := by rw [← HML.out]; rfl
            have HW4 := Lib.hid (HBW.out.trans hb4)
            have HT4 := Lib.hid (hB.out.trans (HW4.out.mono hB.out.size))
            have C9 := t69 wo.heap.size c (.bool (numC c)) (.int .i64 (sizeC c)) (.bool (⟨c, gt, -2⟩ : Dir).great) ⟨O.toArray⟩ w4 (HG.out.below HT4.out) (by show O.length ≤ _; omega) k4
            have HC9 := Lib.hid C9
            clear C9 k4 hb4
            go_wp2_with fail
            refine HC9.out.mono ?_
            rintro e5 w5 hc5
            unfold CntR at hc5
            obtain ⟨hb5, hc5⟩ := hc5
            have HW5 := Lib.hid (HW4.out.trans hb5)
            have HT5 := Lib.hid (hB.out.trans (HW5.out.mono hB.out.size))
            clear hb5
            cases hcn : countL c O with
            | none =>
              rw [hcn] at hc5
              obtain ⟨r, rfl⟩ := hc5
              have hF : Hid (formL s.data.toList = none) := by
                show _ = _
                rw [formL_rest, ← hj.out, joinL_none HBL.out (HDL2.out hcn)]; rfl
              clear hcn
              go_wp2
              go_ret2
              exact DirsR.bad hF HT5.out
            | some kr =>
              obtain ⟨k, r⟩ := kr
              rw [hcn] at hc5
              obtain ⟨rfl, k5⟩ := hc5
              have hd : dirL c m = some (⟨c, gt, k⟩, r) := HDL1.out k r hcn
              have HJ : Hid (joinL (acc ++ [⟨c, gt, k⟩]) r = restL s.data.toList) := by
                show _ = _
                rw [joinL_some HBL.out hd, hj.out]
              have hrl := countL_length hcn
              have hbr := blanksL_length r
              clear hcn hd
              have k6 : Blk w5 wo.heap.size 81 (⟨c, gt, k⟩ : Dir).cs.toList := k5
              have hrow5 := ownsRow_below hrow.out HW5.out
              have htab5 := tab_below hT.out HW5.out
              obtain ⟨h0, h1, h2, h3, h4, h5⟩ := k6.six
              have HK6 := Lib.hid k6
              have HR5 : Hid (Ds w5 w.heap.size (.slice ao acc.length cap) acc) := hrow5
              have HTB5 := Lib.hid htab5
              clear k5 k6 hrow5 htab5
              go_wp2_with (at_builtin; refine app81 rfl _ _ rfl w.heap.size _ acc rfl (dsAl HR5.out _) w5.heap.size 1 ⟨c, gt, k⟩ rfl (newAt _ _ _ _ _ rfl rfl) (by omega) (by have := HT5.out.size; simp; omega) ?_; intro v6 w6 hown6 hgrow6)
              have hT5 : Below w.heap.size w (w5.alloc (.cells (⟨c, gt, k⟩ : Dir).cs 81)) := HT5.out.alloc HT5.out.size _
              have hB6 := Lib.hid (hT5.grown hgrow6.out hT5.size (fun j hj => (World.ownsRow.lt HR5.out j hj).1))
              have hT6 := Lib.hid ((World.ownsMap.alloc HTB5.out (.cells (⟨c, gt, k⟩ : Dir).cs 81)).kept hgrow6.out (tab_ne HTB5.out HR5.out))
              have hlen6 : (acc ++ [(⟨c, gt, k⟩ : Dir)]).length ≤ 50 := by simp; have := HB50; omega
              have hbr2 : (blanksL r).length ≤ ms.size := by omega
              clear hT5 hgrow6 HTB5 HR5
              go_wp2_with fail
              refine (c66 _ _).mono ?_
              rintro e7 w7 ⟨rfl, rfl⟩
              go_wp2
              go_roundw
              case rel =>
                refine ⟨acc ++ [⟨c, gt, k⟩], ⟨(blanksL r).toArray⟩, hown6, rfl, ?_, hlen6, blanksL_blanksL r, ?_, hT6, hB6⟩
                · show joinL _ (blanksL r) = _
                  rw [joinL_blanksL]; exact HJ.out
                · show (blanksL r).length ≤ _
                  omega
              case measure =>
                show (blanksL r).length < rs.size
                omega
        | true =>
          rw [hN] at h1
          have HN := Lib.hid hN
          clear hN
          go_upto_region 10 with fail
          have KW := K2.out
          have BW := B2.out
          have HKW := Lib.hid KW
          have HBW := Lib.hid BW
          clear KW BW
          have CO := t68 wo.heap.size c (.bool (numC c)) (.int .i64 (sizeC c)) (.bool false) (.bool false) (.int .i64 0) ms _ HKW.out
          have HCO := Lib.hid CO
          clear CO
          go_wp2_with fail
          rw [HMS.out]
          refine HCO.out.mono ?_
          rintro e4 w4 ⟨rfl, k4, hb4⟩
          have hol := orderL_length c ms.data.toList
          rw [HML.out] at k4 hol ⊢
          have hdl1 : ∀ k r, countL c (orderL c m).2 = some (k, r) → dirL c m = some (⟨c, (orderL c m).1, k⟩, r) := fun k r e => dirL_letter (by rw [HLE.out, HN.out]; rfl) e
          have hdl2 : countL c (orderL c m).2 = none → dirL c m = none := fun e => dirL_none e
          generalize hO : (orderL c m).2 = O at *
          generalize hgt : (orderL c m).1 = gt at *
          have HDL1 := Lib.hid hdl1
          have HDL2 := Lib.hid hdl2
          clear hO hgt hdl1 hdl2
          have hml2 : m.length = ms.size := by rw [← HML.out]; rfl
          have HW4 := Lib.hid (HBW.out.trans hb4)
          have HT4 := Lib.hid (hB.out.trans (HW4.out.mono hB.out.size))
          have C9 := t69 wo.heap.size c (.bool (numC c)) (.int .i64 (sizeC c)) (.bool (⟨c, gt, -2⟩ : Dir).great) ⟨O.toArray⟩ w4 (HG.out.below HT4.out) (by show O.length ≤ _; omega) k4
          have HC9 := Lib.hid C9
          clear C9 k4 hb4
          go_wp2_with fail
          refine HC9.out.mono ?_
          rintro e5 w5 hc5
          unfold CntR at hc5
          obtain ⟨hb5, hc5⟩ := hc5
          have HW5 := Lib.hid (HW4.out.trans hb5)
          have HT5 := Lib.hid (hB.out.trans (HW5.out.mono hB.out.size))
          clear hb5
          cases hcn : countL c O with
          | none =>
            rw [hcn] at hc5
            obtain ⟨r, rfl⟩ := hc5
            have hF : Hid (formL s.data.toList = none) := by
              show _ = _
              rw [formL_rest, ← hj.out, joinL_none HBL.out (HDL2.out hcn)]; rfl
            clear hcn
            go_wp2
            go_ret2
            exact DirsR.bad hF HT5.out
          | some kr =>
            obtain ⟨k, r⟩ := kr
            rw [hcn] at hc5
            obtain ⟨rfl, k5⟩ := hc5
            have hd : dirL c m = some (⟨c, gt, k⟩, r) := HDL1.out k r hcn
            have HJ : Hid (joinL (acc ++ [⟨c, gt, k⟩]) r = restL s.data.toList) := by
              show _ = _
              rw [joinL_some HBL.out hd, hj.out]
            have hrl := countL_length hcn
            have hbr := blanksL_length r
            clear hcn hd
            have k6 : Blk w5 wo.heap.size 81 (⟨c, gt, k⟩ : Dir).cs.toList := k5
            have hrow5 := ownsRow_below hrow.out HW5.out
            have htab5 := tab_below hT.out HW5.out
            obtain ⟨h0, h1, h2, h3, h4, h5⟩ := k6.six
            have HK6 := Lib.hid k6
            have HR5 : Hid (Ds w5 w.heap.size (.slice ao acc.length cap) acc) := hrow5
            have HTB5 := Lib.hid htab5
            clear k5 k6 hrow5 htab5
            go_wp2_with (at_builtin; refine app81 rfl _ _ rfl w.heap.size _ acc rfl (dsAl HR5.out _) w5.heap.size 1 ⟨c, gt, k⟩ rfl (newAt _ _ _ _ _ rfl rfl) (by omega) (by have := HT5.out.size; simp; omega) ?_; intro v6 w6 hown6 hgrow6)
            have hT5 : Below w.heap.size w (w5.alloc (.cells (⟨c, gt, k⟩ : Dir).cs 81)) := HT5.out.alloc HT5.out.size _
            have hB6 := Lib.hid (hT5.grown hgrow6.out hT5.size (fun j hj => (World.ownsRow.lt HR5.out j hj).1))
            have hT6 := Lib.hid ((World.ownsMap.alloc HTB5.out (.cells (⟨c, gt, k⟩ : Dir).cs 81)).kept hgrow6.out (tab_ne HTB5.out HR5.out))
            have hlen6 : (acc ++ [(⟨c, gt, k⟩ : Dir)]).length ≤ 50 := by simp; have := HB50; omega
            have hbr2 : (blanksL r).length ≤ ms.size := by omega
            clear hT5 hgrow6 HTB5 HR5
            go_wp2_with fail
            refine (c66 _ _).mono ?_
            rintro e7 w7 ⟨rfl, rfl⟩
            go_wp2
            go_roundw
            case rel =>
              refine ⟨acc ++ [⟨c, gt, k⟩], ⟨(blanksL r).toArray⟩, hown6, rfl, ?_, hlen6, blanksL_blanksL r, ?_, hT6, hB6⟩
              · show joinL _ (blanksL r) = _
                rw [joinL_blanksL]; exact HJ.out
              · show (blanksL r).length ≤ _
                omega
            case measure =>
              show (blanksL r).length < rs.size
              omega
end Go.Proofs.YtmbnckmhngijdaaGreatDoor
