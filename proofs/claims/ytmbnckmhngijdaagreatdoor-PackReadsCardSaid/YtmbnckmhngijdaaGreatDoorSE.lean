/- Contract of the reference's Unpack. -/
import Derived.Test.YtmbnckmhngijdaaGreatDoorSD
import Derived.Test.YtmbnckmhngijdaaGreatDoorRF
namespace Go.Proofs.YtmbnckmhngijdaaGreatDoor
open Go Go.RowKit

theorem t36 (d : Dir) (s : ByteArray) (w : World) (hok : d.Ok) (hn : numC d.c = false) (h120 : d.c ≠ 120) (h64 : d.c ≠ 64) (hs : s.size ≤ 1000000) :
    Calls Tryz.prog 36 #[.agg #[.int .u8 d.c.toNat, .bool d.gt, .int .i64 d.k], .string s] w (CutR (textR d s.data.toList) s.data.toList w) := by
  have hL := hok.letter
  rw [letters_eq, hn, Bool.false_or] at hL
  have hcs : d.c = 97 ∨ d.c = 65 ∨ d.c = 90 ∨ d.c = 72 := by
    simp only [List.contains_cons, List.contains_nil, Bool.or_false, Bool.or_eq_true, beq_iff_eq] at hL
    rcases hL with h | h | h | h | h | h
    · exact .inl h
    · exact .inr (.inl h)
    · exact .inr (.inr (.inl h))
    · exact .inr (.inr (.inr h))
    · exact absurd h h120
    · exact absurd h h64
  have hsl : s.data.toList.length = s.size := rfl
  have hf := hok.fine
  by_cases hk : d.k = -1
  · have hal : d.all = true := by unfold Dir.all; rw [hk]; rfl
    have hn0 : d.n = 0 := by unfold Dir.n; rw [if_pos hk]
    rw [textR_T, hal, hn0]
    rcases hcs with h | h | h | h
    · rw [if_neg (by rw [h]; decide)]; exact t36_oall d.c d.gt d.k s w (by rw [h]; decide) (by rw [h]; decide) (by rw [h]; decide) hk hs
    · rw [if_neg (by rw [h]; decide)]; exact t36_Aall d.c d.gt d.k s w h hk hs
    · rw [if_neg (by rw [h]; decide)]; exact t36_Zall d.c d.gt d.k s w h hk hs
    · rw [if_pos h]; exact t36_Hall d.c d.gt d.k s w h hk hs
  · have hal : d.all = false := by unfold Dir.all; exact decide_eq_false hk
    have hp := hf.pos hal h64
    have hkn : (d.k = -2 ∧ d.n = 1) ∨ d.k = (d.n : Int) := by
      rcases hok.count with h | h | h
      · exact absurd h hk
      · exact .inl ⟨h, by unfold Dir.n; rw [if_neg hk, if_pos h, if_neg h64]⟩
      · refine .inr ?_
        unfold Dir.n; rw [if_neg hk, if_neg (by omega)]; omega
    rw [textR_T, hal]
    rcases hcs with h | h | h | h
    · rw [if_neg (by rw [h]; decide)]; exact t36_ocnt d.c d.gt d.k s w (by rw [h]; decide) (by rw [h]; decide) (by rw [h]; decide) d.n hkn hp hf.n hs
    · rw [if_neg (by rw [h]; decide)]; exact t36_Acnt d.c d.gt d.k s w h d.n hkn hp hf.n hs
    · rw [if_neg (by rw [h]; decide)]; exact t36_Zcnt d.c d.gt d.k s w h d.n hkn hp hf.n hs
    · rw [if_pos h]; exact t36_Hcnt d.c d.gt d.k d.n s w h hkn hp hf.n hs

theorem info65 : (Tryz.prog.info? 65).map (fun i => (i.zero, i.size, i.bytes)) = some (some (.agg #[.bool false, .int .i64 0, .string ⟨#[]⟩]), 3, 32) := by kernel_rfl
/-- the reference's items in memory -/
def Iq (w : World) (B : Nat) (v : Value) (xs : List Itm) : Prop := w.ownsRow B 65 3 v xs.length (icells xs)
theorem Iq.below {W W' : World} {B : Nat} {v : Value} {xs : List Itm} (h : Iq W B v xs) (hb : Below W.heap.size W W') : Iq W' B v xs := ownsRow_below h hb
theorem iq_len {w : World} {B : Nat} {v : Value} {xs : List Itm} {x : Itm} (h : Iq w B v (xs ++ [x])) : w.ownsRow B 65 3 v (xs.length + 1) (icells (xs ++ [x])) := by
  unfold Iq at h; rw [List.length_append] at h; exact h
theorem app65 {w : World} {ops : Array Oper} {rest : List Oper} {o : Oper} {a : Act} {Q : Exit → Act → World → Prop} (hgd : o.guard = none) (s x : Operand)
    (ho : o.op = .call { callee := .builtin .append, args := #[s, x], argTypes := #[28, 28] }) (base : Nat) (v : Value) (xs : List Itm) (hs : a.eval s = v) (hown : Iq w base v xs)
    (g c : Nat) (d : Itm) (hx : a.eval x = .slice (some ⟨g, 0, none⟩) 1 c) (hc : Blk w g 65 d.cs.toList) (hn : xs.length ≤ 100000000) (hbase : base ≤ w.heap.size)
    (h : ∀ v' w', Hid (Iq w' base v' (xs ++ [d])) → Hid (w.grownBy w' v.ownBlock) → wpList Tryz.prog ops Q rest (a.put o.dst v') w') :
    wpList Tryz.prog ops Q (o :: rest) a w := by
  obtain ⟨i0, hi, hz0, hz1, hz2⟩ := info_parts info65
  refine wpList_append_own w hgd s x 28 ho base 65 i0 (.agg #[.bool false, .int .i64 0, .string ⟨#[]⟩]) 3 32 Tryz.underlying28 hi hz0 hz1 hz2 rfl (by decide) v xs.length (icells xs) hs hown ⟨g, 0, none⟩ 1 c d.cs.toList hx rfl ?_ ?_ (by unfold maxLen; omega) (by omega) hbase (fun v' w' h1 h2 _ => h v' w' ?_ h2)
  · intro j u hu
    rw [add_addr, Nat.zero_add]
    exact hc.cell j hu
  · intro u hu
    simp only [Itm.cs, List.mem_cons, List.mem_nil_iff, or_false] at hu
    rcases hu with rfl | rfl | rfl <;> rfl
  · show World.ownsRow _ _ _ _ _ _ _
    rw [icells_snoc, List.length_append]
    exact h1
def ReadF (r : Except Nat Rt) (w : World) (e : Ending) (w' : World) : Prop :=
  Below w.heap.size w w' ∧
  match r with
  | .error x => e = .returned (.tuple #[.slice none 0 0, .int .i64 x]) ∧ x ≠ 0
  | .ok st => ∃ v, e = .returned (.tuple #[v, .int .i64 0]) ∧ Iq w' w.heap.size v st.2
theorem ReadF.bad {r : Except Nat Rt} {w w' : World} {x : Nat} (h : Hid (r = .error x)) (hx : x ≠ 0) (hb : Below w.heap.size w w') : ReadF r w (.returned (.tuple #[.slice none 0 0, .int .i64 x])) w' := by
  unfold ReadF; rw [h.out]; exact ⟨hb, rfl, hx⟩
theorem ReadF.good {r : Except Nat Rt} {w w' : World} {st : Rt} {v : Value} (h : Hid (r = .ok st)) (hb : Below w.heap.size w w') (hd : Iq w' w.heap.size v st.2) : ReadF r w (.returned (.tuple #[v, .int .i64 0])) w' := by
  unfold ReadF; rw [h.out]; exact ⟨hb, v, rfl, hd⟩
def LoopF (s : ByteArray) (ds : List Dir) (W : World) (i r o : Value) (wr : World) : Prop :=
  ∃ (j p : Nat) (rs : ByteArray) (xs : List Itm), j ≤ ds.length ∧ i = .int .i64 j ∧ r = .string rs ∧ p ≤ s.size ∧ xs.length ≤ j * 1000001 ∧ Hid (rs.data.toList = s.data.toList.drop p) ∧ Hid (Iq wr W.heap.size o xs) ∧
    Hid (runR chrP s.data.toList (ds.drop j) (p, xs) = runR chrP s.data.toList ds (0, [])) ∧ Hid (Below W.heap.size W wr)
/-- the numbers of one directive: so many are left, the rest of the bytes, the items -/
def InF (all : Bool) (s : ByteArray) (d : Dir) (N x0 gb : Nat) (kv : Value) (R : Except Nat Rt) (W : World) (n r o : Value) (wr : World) : Prop :=
  ∃ (f p : Nat) (rs : ByteArray) (xs : List Itm), f ≤ N ∧ n = (if all then .int .i64 (-1) else .int .i64 f) ∧ r = .string rs ∧ p ≤ s.size ∧ (all = true → s.size < f + p) ∧ xs.length ≤ x0 + (N - f) ∧ Hid (rs.data.toList = s.data.toList.drop p) ∧ Hid (Iq wr W.heap.size o xs) ∧
    Hid (numbersR chrP s.data.toList d f (p, xs) = R) ∧ Hid (Blk wr gb 60 [.int .u8 d.c.toNat, .bool d.gt, kv]) ∧ Hid (Below W.heap.size W wr)
theorem chr_cnt {d : Dir} (_h : d.Ok) (hk : d.k ≠ -1) : d.all = false := by unfold Dir.all; exact decide_eq_false hk
set_option maxRecDepth 100000 in
set_option maxHeartbeats 8000000 in
theorem t13 (f s : ByteArray) (w : World) (hf : f.size ≤ 100000) (hs : s.size ≤ 1000000) : Calls Tryz.prog 13 #[.string f, .string s] w (ReadF (readR chrP f.data.toList s.data.toList) w) := by
  have hsi : (s.size : Int) ≤ 1000000 := by omega
  have hsl : s.data.toList.length = s.size := rfl
  have C := t32 f w hf
  unfold RfdR at C
  cases hff : formL f.data.toList with
  | none =>
    have HS : Hid (readR chrP f.data.toList s.data.toList = .error 4) := by show _ = _; unfold readR; rw [hff]
    rw [hff] at C
    clear hff
    go_enter Tryz.func13, Tryz.ntmps13
    go_wp2_with fail
    refine C.mono ?_
    rintro e w1 ⟨hb, v, rfl⟩
    have HB := Lib.hid hb
    clear hb
    go_wp2
    go_ret2
    exact ReadF.bad HS (by decide) HB.out
  | some ds =>
    have HS : Hid (readR chrP f.data.toList s.data.toList = runR chrP s.data.toList ds (0, [])) := by show _ = _; unfold readR; rw [hff]
    obtain ⟨hdl, hdok⟩ := formL_ok hff
    have HDOK := Lib.hid hdok
    rw [hff] at C
    clear hff hdok
    have hdli : (ds.length : Int) ≤ 50 := by omega
    go_enter Tryz.func13, Tryz.ntmps13
    go_wp2_with fail
    refine C.mono ?_
    rintro e w1 ⟨hb, v, rfl, hds⟩
    have HB := Lib.hid hb
    have HDS := Lib.hid hds
    obtain ⟨al, cl, rfl⟩ := row_slice hds
    clear hb hds C
    go_wp2_with fail
    go_loopw [10, 1, 9] (fun i r o wr => LoopF s ds w1 i r o wr) (fun i _ _ _ => ds.length - (intOf i).toNat)
    case atStart => exact ⟨0, 0, s, [], Nat.zero_le _, rfl, rfl, Nat.zero_le _, by simp, rfl, World.ownsRow_nil _ _ _ _, rfl, Below.refl _ _⟩
    case round =>
      obtain ⟨j, p, rs, xs, hj, rfl, rfl, hp, hxl, hrs, hown, hrun, hbl⟩ := hrel
      obtain ⟨ao, co, rfl⟩ := row_slice hown.out
      by_cases hlt : j < ds.length
      · have hlti : (j : Int) < ds.length := by omega
        obtain ⟨d, hd⟩ : ∃ d, ds[j]? = some d := ⟨ds[j], List.getElem?_eq_getElem hlt⟩
        have hdsr : Dr wr w.heap.size (.slice al ds.length cl) ds := ownsRow_below HDS.out hbl.out
        obtain ⟨gl, cl', hsl', hgl, e0, e1, e2⟩ := hdsr.cell hd
        simp only [Value.slice.injEq] at hsl'
        obtain ⟨rfl, _, rfl⟩ := hsl'
        have hok := HDOK.out d (List.mem_of_getElem? hd)
        have HOK := Lib.hid hok
        have hdn := hok.fine.n
        have hdrop : ds.drop j = d :: ds.drop (j + 1) := by
          rw [List.drop_eq_getElem_cons hlt]; congr 1
          have := List.getElem?_eq_getElem hlt
          rw [hd] at this; exact (Option.some.inj this).symm
        have hr2 := hrun.out
        rw [hdrop] at hr2
        have HR2 : Hid ((match stepR chrP s.data.toList d (p, xs) with | .error e => .error e | .ok st' => runR chrP s.data.toList (ds.drop (j + 1)) st') = runR chrP s.data.toList ds (0, [])) := hr2
        have hrz : rs.size = s.size - p := by
          have h1 : rs.data.toList.length = rs.size := rfl
          rw [← h1, hrs.out, List.length_drop, hsl]
        have hrzi : (rs.size : Int) ≤ 1000000 := by omega
        have HRZ := Lib.hid hrz
        have HXL0 : Hid (xs.length ≤ (j + 1) * 1000001) := Nat.le_trans hxl (Nat.mul_le_mul_right _ (by omega))
        have hx60 : xs.length ≤ 60000000 := by omega
        have hb3 := bSelf wr (.cells #[.int .u8 d.c.toNat, .bool d.gt, .int .i64 d.k] 60)
        have hk3 := Blk.new wr #[.int .u8 d.c.toNat, .bool d.gt, .int .i64 d.k] 60
        go_upto_region 10 with fail
        generalize wr.alloc (.cells #[.int .u8 d.c.toNat, .bool d.gt, .int .i64 d.k] 60) = W3 at *
        obtain ⟨gb, hgb⟩ : ∃ gb, wr.heap.size = gb := ⟨_, rfl⟩
        have HO3 : Hid (Iq W3 w1.heap.size (.slice ao xs.length co) xs) := hown.out.below hb3
        have HB3 := Lib.hid (bThen hbl.out hb3)
        rw [hgb] at hk3 ⊢
        have HK3 := Lib.hid hk3
        have d0 := hk3.cell 0 rfl
        have d1 := hk3.cell 1 rfl
        have d2 := hk3.cell 2 rfl
        have C33 := fun W => t33 d.c W
        have C34 := fun W => t34 d.c W
        clear hr2 hb3 hk3 e0 e1 e2 hgl hdsr hdrop hd hown hbl hrun hgb
        have hcnt : d.k = -1 ∨ d.k = -2 ∨ ∃ N : Nat, d.k = (N : Int) ∧ N ≤ 1000 := by
          rcases hok.count with h | h | h
          · exact .inl h
          · exact .inr (.inl h)
          · exact .inr (.inr ⟨d.k.toNat, by omega, by omega⟩)
        have HNM := Lib.hid hok.all
        clear hok
        by_cases h120 : d.c = 120
        · have t1 := u8_eq (n := 120) (k := 120) rfl h120
          have hk1 : d.k ≠ -1 := fun h => (HNM.out h).1 h120
          have HST : Hid (stepR chrP s.data.toList d (p, xs) = if s.size < p + d.n then .error 14 else .ok (p + d.n, xs)) := stepR_x h120
          rcases hcnt with h | hk | ⟨N, hk, hN⟩
          · exact absurd h hk1
          · have hdn1 : d.n = 1 := by unfold Dir.n; rw [if_neg hk1, if_pos hk, if_neg (by rw [h120]; decide)]
            rw [hdn1] at HST
            rw [hk] at d2
            by_cases hl : rs.size < 1
            · have hli : (rs.size : Int) < 1 := by omega
              have HE : Hid (readR chrP f.data.toList s.data.toList = .error 14) := by
                show _ = _; rw [HS.out, ← HR2.out, HST.out, if_pos (by omega)]
              clear hl h120 hk1 hk hdn1 hrz hxl
              go_wp2
              go_ret2
              exact ReadF.bad HE (by decide) (bThen HB.out HB3.out)
            · have hli : ¬ ((rs.size : Int) < 1) := by omega
              have hli2 : (1 : Int) ≤ rs.size := by omega
              have HRN : Hid (runR chrP s.data.toList (ds.drop (j + 1)) (p + 1, xs) = runR chrP s.data.toList ds (0, [])) := by
                show _ = _; rw [← HR2.out, HST.out, if_neg (by omega)]
              have HRS : Hid ((rs.extract 1 rs.size).data.toList = s.data.toList.drop (p + 1)) := by show _ = _; rw [extract_drop, hrs.out, List.drop_drop]
              have HPM : Hid (p + 1 ≤ s.size) := by show _ ≤ _; omega
              clear hl h120 hk1 hk hdn1 hrz hxl
              go_wp2
              go_roundw
              case rel => exact ⟨j + 1, p + 1, _, xs, by omega, by go_num, rfl, HPM.out, HXL0.out, HRS, HO3, HRN, HB3⟩
              case measure => simp [intOf]; omega
          · have hdn1 : d.n = N := by unfold Dir.n; rw [if_neg hk1, if_neg (by omega)]; omega
            have k2 : ((N : Int) == -2) = false := by rw [beq_eq_false_iff_ne]; omega
            have hNi : (N : Int) ≤ 1000 := by omega
            rw [hdn1] at HST
            rw [hk] at d2
            by_cases hl : rs.size < N
            · have hli : (rs.size : Int) < N := by omega
              have HE : Hid (readR chrP f.data.toList s.data.toList = .error 14) := by
                show _ = _; rw [HS.out, ← HR2.out, HST.out, if_pos (by omega)]
              clear hl h120 hk1 hk hdn1 hrz hxl
              go_wp2
              go_ret2
              exact ReadF.bad HE (by decide) (bThen HB.out HB3.out)
            · have hli : ¬ ((rs.size : Int) < N) := by omega
              have hli2 : (N : Int) ≤ rs.size := by omega
              have HRN : Hid (runR chrP s.data.toList (ds.drop (j + 1)) (p + N, xs) = runR chrP s.data.toList ds (0, [])) := by
                show _ = _; rw [← HR2.out, HST.out, if_neg (by omega)]
              have HRS : Hid ((rs.extract N rs.size).data.toList = s.data.toList.drop (p + N)) := by show _ = _; rw [extract_drop, hrs.out, List.drop_drop]
              have HPM : Hid (p + N ≤ s.size) := by show _ ≤ _; omega
              clear hl h120 hk1 hk hdn1 hrz hxl
              go_wp2
              go_roundw
              case rel => exact ⟨j + 1, p + N, _, xs, by omega, by go_num, rfl, HPM.out, HXL0.out, HRS, HO3, HRN, HB3⟩
              case measure => simp [intOf]; omega
        have t1 := u8_ne (n := 120) (k := 120) rfl h120
        by_cases h64 : d.c = 64
        · have t2 := u8_eq (n := 64) (k := 64) rfl h64
          have hk1 : d.k ≠ -1 := fun h => (HNM.out h).2 h64
          have HST : Hid (stepR chrP s.data.toList d (p, xs) = if s.size < d.n then .error 14 else .ok (d.n, xs)) := stepR_at h64
          rcases hcnt with h | hk | ⟨N, hk, hN⟩
          · exact absurd h hk1
          · have hdn1 : d.n = 0 := by unfold Dir.n; rw [if_neg hk1, if_pos hk, if_pos h64]
            have h00 : decide ((s.size : Int) < 0) = false := decide_eq_false (by omega)
            rw [hdn1] at HST
            rw [hk] at d2
            by_cases hl : s.size < 0
            · exact absurd hl (by omega)
            · have hli : ¬ ((s.size : Int) < 0) := by omega
              have hli2 : (0 : Int) ≤ s.size := by omega
              have HRN : Hid (runR chrP s.data.toList (ds.drop (j + 1)) (0, xs) = runR chrP s.data.toList ds (0, [])) := by
                show _ = _; rw [← HR2.out, HST.out, if_neg (by omega)]
              have HRS : Hid ((s.extract 0 s.size).data.toList = s.data.toList.drop 0) := extract_drop s 0
              have HPM : Hid (0 ≤ s.size) := by show _ ≤ _; omega
              clear hl h64 hk1 hk hdn1 hrz hxl
              go_wp2
              go_roundw
              case rel => exact ⟨j + 1, 0, _, xs, by omega, by go_num, rfl, HPM.out, HXL0.out, HRS, HO3, HRN, HB3⟩
              case measure => simp [intOf]; omega
          · have hdn1 : d.n = N := by unfold Dir.n; rw [if_neg hk1, if_neg (by omega)]; omega
            have k2 : ((N : Int) == -2) = false := by rw [beq_eq_false_iff_ne]; omega
            have hNi : (N : Int) ≤ 1000 := by omega
            have hz : max (0 : Int) (N : Int) = N := by omega
            rw [hdn1] at HST
            rw [hk] at d2
            by_cases hl : s.size < N
            · have hli : (s.size : Int) < N := by omega
              have HE : Hid (readR chrP f.data.toList s.data.toList = .error 14) := by
                show _ = _; rw [HS.out, ← HR2.out, HST.out, if_pos (by omega)]
              clear hl h64 hk1 hk hdn1 hrz hxl
              go_wp2
              go_ret2
              exact ReadF.bad HE (by decide) (bThen HB.out HB3.out)
            · have hli : ¬ ((s.size : Int) < N) := by omega
              have hli2 : (N : Int) ≤ s.size := by omega
              have HRN : Hid (runR chrP s.data.toList (ds.drop (j + 1)) (N, xs) = runR chrP s.data.toList ds (0, [])) := by
                show _ = _; rw [← HR2.out, HST.out, if_neg (by omega)]
              have HRS : Hid ((s.extract N s.size).data.toList = s.data.toList.drop N) := extract_drop s N
              have HPM : Hid (N ≤ s.size) := by show _ ≤ _; omega
              clear hl h64 hk1 hk hdn1 hrz hxl
              go_wp2
              go_roundw
              case rel => exact ⟨j + 1, N, _, xs, by omega, by go_num, rfl, HPM.out, HXL0.out, HRS, HO3, HRN, HB3⟩
              case measure => simp [intOf]; omega
        have t2 := u8_ne (n := 64) (k := 64) rfl h64
        cases hnc : numC d.c with
        | false =>
          rw [hnc] at C33
          have HST : Hid (stepR chrP s.data.toList d (p, xs) = .ok (p + (textR d (s.data.toList.drop p)).2, xs ++ [⟨true, 0, (textR d (s.data.toList.drop p)).1⟩])) := stepR_txt h120 h64 hnc
          have C36 := fun W => t36 d rs W HOK.out hnc h120 h64 (by omega)
          rw [hrs.out] at C36
          have htl := textR_le d (s.data.toList.drop p)
          rw [List.length_drop, hsl] at htl
          obtain ⟨T, hT⟩ : ∃ T, (textR d (s.data.toList.drop p)).1 = T := ⟨_, rfl⟩
          obtain ⟨q, hq⟩ : ∃ q, (textR d (s.data.toList.drop p)).2 = q := ⟨_, rfl⟩
          have C36b : ∀ W, Calls Tryz.prog 36 #[.agg #[.int .u8 d.c.toNat, .bool d.gt, .int .i64 d.k], .string rs] W fun e w' => e = .returned (.tuple #[.string (Itm.str ⟨true, 0, T⟩), .string ⟨((s.data.toList.drop p).drop q).toArray⟩]) ∧ Below W.heap.size W w' := fun W => (C36 W).mono (fun e w' h => by
            unfold CutR at h
            rw [hT, hq] at h
            exact h)
          rw [hT, hq] at HST
          rw [hq] at htl
          have HPM : Hid (p + q ≤ s.size) := by show _ ≤ _; omega
          have HRN : Hid (runR chrP s.data.toList (ds.drop (j + 1)) (p + q, xs ++ [⟨true, 0, T⟩]) = runR chrP s.data.toList ds (0, [])) := by
            show _ = _; rw [← HR2.out, HST.out]
          obtain ⟨rs2, hrs2⟩ : ∃ rs2 : ByteArray, rs2 = ⟨((s.data.toList.drop p).drop q).toArray⟩ := ⟨_, rfl⟩
          have HRS : Hid (rs2.data.toList = s.data.toList.drop (p + q)) := by show _ = _; rw [hrs2, List.drop_drop]
          rw [← hrs2] at C36b
          have HXL : Hid ((xs ++ [(⟨true, 0, T⟩ : Itm)]).length ≤ (j + 1) * 1000001) := by show _ ≤ _; simp; omega
          clear htl hT hq hrs2 C36 h120 h64 hnc HST hrz hxl
          rcases hcnt with hk | hk | ⟨N, hk, hN⟩
          · have hnothing : True := trivial
            rw [hk] at d2 C36b
            clear hk
            go_wp2_with (go_at_call 33; refine (C33 _).mono ?_; rintro e4 w4 ⟨rfl, rfl⟩)
            refine (C36b _).mono ?_
            rintro e5 w5 ⟨rfl, hb5⟩
            have HB5 := Lib.hid (bThen HB3.out hb5)
            have HO5 : Hid (Iq w5 w1.heap.size (.slice ao xs.length co) xs) := HO3.out.below hb5
            have HO6 : Hid (Iq (w5.alloc (.cells #[.bool true, .int .i64 0, .string (Itm.str ⟨true, 0, T⟩)] 65)) w1.heap.size (.slice ao xs.length co) xs) := HO5.out.below (bSelf _ _)
            have HK6 : Hid (Blk (w5.alloc (.cells #[.bool true, .int .i64 0, .string (Itm.str ⟨true, 0, T⟩)] 65)) w5.heap.size 65 (Itm.cs ⟨true, 0, T⟩).toList) := newAt _ _ _ _ _ rfl rfl
            have hn6 : xs.length ≤ 100000000 := by omega
            have HBS : Hid (w1.heap.size ≤ (w5.alloc (.cells #[.bool true, .int .i64 0, .string (Itm.str ⟨true, 0, T⟩)] 65)).heap.size) := (bAl HB5.out _).size
            clear hb5 d0 d1 d2
            go_wp2_with (at_builtin; refine app65 rfl _ _ rfl w1.heap.size (.slice ao xs.length co) xs rfl HO6.out w5.heap.size 1 ⟨true, 0, T⟩ rfl HK6.out hn6 HBS.out ?_; intro v6 w6 hown6 hgrow6; obtain ⟨a6, c6, rfl⟩ := row_slice hown6.out)
            have HB6 : Hid (Below w1.heap.size w1 w6) := (bAl HB5.out _).grown hgrow6.out HBS.out (fun k hk => (HO5.out.lt k hk).1)
            have HO7 : Hid (Iq w6 w1.heap.size (.slice a6 (xs.length + 1) c6) (xs ++ [⟨true, 0, T⟩])) := by have h := hown6.out; simp only [List.length_append, List.length_cons, List.length_nil] at h; exact h
            clear hown6 hgrow6
            go_roundw
            case rel => exact ⟨j + 1, p + q, rs2, xs ++ [⟨true, 0, T⟩], by omega, by go_num, rfl, HPM.out, HXL.out, HRS, HO7, HRN, HB6⟩
            case measure => simp [intOf]; omega
          · have hnothing : True := trivial
            rw [hk] at d2 C36b
            clear hk
            go_wp2_with (go_at_call 33; refine (C33 _).mono ?_; rintro e4 w4 ⟨rfl, rfl⟩)
            refine (C36b _).mono ?_
            rintro e5 w5 ⟨rfl, hb5⟩
            have HB5 := Lib.hid (bThen HB3.out hb5)
            have HO5 : Hid (Iq w5 w1.heap.size (.slice ao xs.length co) xs) := HO3.out.below hb5
            have HO6 : Hid (Iq (w5.alloc (.cells #[.bool true, .int .i64 0, .string (Itm.str ⟨true, 0, T⟩)] 65)) w1.heap.size (.slice ao xs.length co) xs) := HO5.out.below (bSelf _ _)
            have HK6 : Hid (Blk (w5.alloc (.cells #[.bool true, .int .i64 0, .string (Itm.str ⟨true, 0, T⟩)] 65)) w5.heap.size 65 (Itm.cs ⟨true, 0, T⟩).toList) := newAt _ _ _ _ _ rfl rfl
            have hn6 : xs.length ≤ 100000000 := by omega
            have HBS : Hid (w1.heap.size ≤ (w5.alloc (.cells #[.bool true, .int .i64 0, .string (Itm.str ⟨true, 0, T⟩)] 65)).heap.size) := (bAl HB5.out _).size
            clear hb5 d0 d1 d2
            go_wp2_with (at_builtin; refine app65 rfl _ _ rfl w1.heap.size (.slice ao xs.length co) xs rfl HO6.out w5.heap.size 1 ⟨true, 0, T⟩ rfl HK6.out hn6 HBS.out ?_; intro v6 w6 hown6 hgrow6; obtain ⟨a6, c6, rfl⟩ := row_slice hown6.out)
            have HB6 : Hid (Below w1.heap.size w1 w6) := (bAl HB5.out _).grown hgrow6.out HBS.out (fun k hk => (HO5.out.lt k hk).1)
            have HO7 : Hid (Iq w6 w1.heap.size (.slice a6 (xs.length + 1) c6) (xs ++ [⟨true, 0, T⟩])) := by have h := hown6.out; simp only [List.length_append, List.length_cons, List.length_nil] at h; exact h
            clear hown6 hgrow6
            go_roundw
            case rel => exact ⟨j + 1, p + q, rs2, xs ++ [⟨true, 0, T⟩], by omega, by go_num, rfl, HPM.out, HXL.out, HRS, HO7, HRN, HB6⟩
            case measure => simp [intOf]; omega
          · have k2 : ((N : Int) == -2) = false := by rw [beq_eq_false_iff_ne]; omega
            have hNi : (N : Int) ≤ 1000 := by omega
            rw [hk] at d2 C36b
            clear hk
            go_wp2_with (go_at_call 33; refine (C33 _).mono ?_; rintro e4 w4 ⟨rfl, rfl⟩)
            refine (C36b _).mono ?_
            rintro e5 w5 ⟨rfl, hb5⟩
            have HB5 := Lib.hid (bThen HB3.out hb5)
            have HO5 : Hid (Iq w5 w1.heap.size (.slice ao xs.length co) xs) := HO3.out.below hb5
            have HO6 : Hid (Iq (w5.alloc (.cells #[.bool true, .int .i64 0, .string (Itm.str ⟨true, 0, T⟩)] 65)) w1.heap.size (.slice ao xs.length co) xs) := HO5.out.below (bSelf _ _)
            have HK6 : Hid (Blk (w5.alloc (.cells #[.bool true, .int .i64 0, .string (Itm.str ⟨true, 0, T⟩)] 65)) w5.heap.size 65 (Itm.cs ⟨true, 0, T⟩).toList) := newAt _ _ _ _ _ rfl rfl
            have hn6 : xs.length ≤ 100000000 := by omega
            have HBS : Hid (w1.heap.size ≤ (w5.alloc (.cells #[.bool true, .int .i64 0, .string (Itm.str ⟨true, 0, T⟩)] 65)).heap.size) := (bAl HB5.out _).size
            clear hb5 d0 d1 d2
            go_wp2_with (at_builtin; refine app65 rfl _ _ rfl w1.heap.size (.slice ao xs.length co) xs rfl HO6.out w5.heap.size 1 ⟨true, 0, T⟩ rfl HK6.out hn6 HBS.out ?_; intro v6 w6 hown6 hgrow6; obtain ⟨a6, c6, rfl⟩ := row_slice hown6.out)
            have HB6 : Hid (Below w1.heap.size w1 w6) := (bAl HB5.out _).grown hgrow6.out HBS.out (fun k hk => (HO5.out.lt k hk).1)
            have HO7 : Hid (Iq w6 w1.heap.size (.slice a6 (xs.length + 1) c6) (xs ++ [⟨true, 0, T⟩])) := by have h := hown6.out; simp only [List.length_append, List.length_cons, List.length_nil] at h; exact h
            clear hown6 hgrow6
            go_roundw
            case rel => exact ⟨j + 1, p + q, rs2, xs ++ [⟨true, 0, T⟩], by omega, by go_num, rfl, HPM.out, HXL.out, HRS, HO7, HRN, HB6⟩
            case measure => simp [intOf]; omega
        | true =>
          rw [hnc] at C33
          have HNC := Lib.hid hnc
          have h8 := sizeC_le d.c
          have h8i : (sizeC d.c : Int) ≤ 8 := by omega
          obtain ⟨q, hq⟩ : ∃ q, max 1 (sizeC d.c) = q := ⟨_, rfl⟩
          have hqi : max (1 : Int) (sizeC d.c : Int) = (q : Int) := by omega
          have HQ : Hid (max (sizeC d.c) 1 = q) := by show _ = _; rw [Nat.max_comm]; exact hq
          have hq8 : (q : Int) ≤ 8 := by omega
          have HST : Hid (stepR chrP s.data.toList d (p, xs) = numbersR chrP s.data.toList d (numF d s) (p, xs)) := stepR_num h120 h64 hnc
          have HSL : Hid (∀ st, stepR chrP s.data.toList d (p, xs) = .ok st → st.2.length ≤ xs.length + 1000001) := fun st h => stepR_len hs hdn st h
          have H64 := Lib.hid h64
          clear h120 h64 hnc hq h8 hrz
          rcases hcnt with hk | hk | ⟨N, hk, hN⟩
          · have HAL : Hid (d.all = true) := by show _ = _; unfold Dir.all; rw [hk]; rfl
            have HNF : Hid (numF d s = s.size + 1) := by show _ = _; unfold numF; rw [HAL.out]; rfl
            have HST2 : Hid (numbersR chrP s.data.toList d (s.size + 1) (p, xs) = stepR chrP s.data.toList d (p, xs)) := by show _ = _; rw [HST.out, HNF.out]
            obtain ⟨R, hR⟩ : ∃ R, stepR chrP s.data.toList d (p, xs) = R := ⟨_, rfl⟩
            rw [hR] at HST2 HR2 HSL
            have HK3k : Hid (Blk W3 gb 60 [.int .u8 d.c.toNat, .bool d.gt, .int .i64 (-1)]) := by show Blk _ _ _ _; rw [← hk]; exact HK3.out
            have HKK := Lib.hid hk
            rw [hk] at d2
            clear hR HST hk HNF HK3
            go_upto_region 26 with (go_at_call 33; refine (C33 _).mono ?_; rintro e4 w4 ⟨rfl, rfl⟩)
            clear d0 d1 d2
            go_loopw [12, 1, 9] (fun n r o wr => InF true s d (s.size + 1) xs.length gb (.int .i64 (-1)) R w1 n r o wr) (fun _ r _ _ => strLenV r)
            case atStart => exact ⟨(s.size + 1), p, rs, xs, Nat.le_refl _, rfl, rfl, hp, (fun _ => by omega), by omega, hrs, HO3, HST2, HK3k, HB3⟩
            case round =>
              obtain ⟨f', p', rs', xs', hf', rfl, rfl, hp', hfp, hxl', hrs', hown, hnr, hbk, hbl⟩ := hrel
              obtain ⟨ao', co', rfl⟩ := row_slice hown.out
              have hrz2 : rs'.size = s.size - p' := by
                have h1 : rs'.data.toList.length = rs'.size := rfl
                rw [← h1, hrs'.out, List.length_drop]; rfl
              have d0 := hbk.out.cell 0 rfl
              have d1 := hbk.out.cell 1 rfl
              have d2 := hbk.out.cell 2 rfl
              have hrzi2 : (rs'.size : Int) ≤ 1000000 := by omega
              by_cases hstop : rs'.size < q
              · have hsti : (rs'.size : Int) < q := by omega
                have hstd : decide ((q : Int) ≤ rs'.size) = false := decide_eq_false (by omega)
                have hfp1 := hfp rfl
                have hnr2 := hnr.out
                rw [show f' = (f' - 1) + 1 by omega, numbersR_stop HAL.out (by rw [HQ.out, show s.data.toList.length = s.size from rfl]; omega)] at hnr2
                have HRN : Hid (runR chrP s.data.toList (ds.drop (j + 1)) (p', xs') = runR chrP s.data.toList ds (0, [])) := by show _ = _; rw [← HR2.out, ← hnr2]
                have HXL : Hid (xs'.length ≤ (j + 1) * 1000001) := by
                  have h := HSL.out (p', xs') hnr2.symm
                  show _ ≤ _
                  have h2 : xs'.length ≤ xs.length + 1000001 := h
                  omega
                clear hnr2
                go_wp2_with (go_at_call 34; refine (C34 _).mono ?_; rintro e4 w4 ⟨rfl, rfl⟩)
                go_roundw
                case rel => exact ⟨j + 1, p', rs', xs', by omega, by go_num, rfl, hp', HXL.out, hrs', hown, HRN, hbl⟩
                case measure => simp [intOf]; omega
              · have hsti : (q : Int) ≤ rs'.size := by omega
                have hstd : decide ((q : Int) ≤ rs'.size) = true := decide_eq_true hsti
                have hfp1 := hfp rfl
                obtain ⟨g, hg⟩ : ∃ g, f' = g + 1 := ⟨f' - 1, by omega⟩
                subst hg
                have hgo : ¬ (d.all = true ∧ s.data.toList.length - p' < max (sizeC d.c) 1) := fun h => by
                  have h2 := h.2; rw [HQ.out, show s.data.toList.length = s.size from rfl] at h2; omega
                have hnr2 := hnr.out
                rw [numbersR_go hgo] at hnr2
                have C35 := fun W => t35 d rs' W HNC.out (by omega)
                rw [hrs'.out, HKK.out] at C35
                have HKB := hbk
                cases hres : numberR chrP d (s.data.toList.drop p') with
                | error y =>
                  rw [hres] at C35 hnr2
                  have HE : Hid (readR chrP f.data.toList s.data.toList = .error y) := by show _ = _; rw [HS.out, ← HR2.out, ← hnr2]
                  clear hres hnr2 hgo hfp
                  go_wp2_with (go_at_call 34; refine (C34 _).mono ?_; rintro e4 w4 ⟨rfl, rfl⟩)
                  refine (C35 _).mono ?_
                  rintro e5 w5 ⟨hb5, ⟨a5, b5, rfl⟩, hy⟩
                  have HY := Lib.hid hy
                  have hyy : ((y : Int) == 0) = false := by rw [beq_eq_false_iff_ne]; omega
                  have hyn : ((y : Int) != 0) = true := by simp only [bne, hyy, Bool.not_false]
                  have HB5 := Lib.hid (bThen HB.out (bThen hbl.out hb5))
                  clear hb5 hy d0 d1 d2
                  go_wp2
                  go_ret2
                  exact ReadF.bad HE HY.out HB5.out
                | ok v =>
                  rw [hres] at C35 hnr2
                  have hvl := numberR_len HNC.out hres
                  rw [List.length_drop, show s.data.toList.length = s.size from rfl] at hvl
                  obtain ⟨x, m⟩ := v
                  have HNR : Hid (numbersR chrP s.data.toList d g (p' + m, xs' ++ [⟨false, x, []⟩]) = R) := hnr2
                  have HPM : Hid (p' + m ≤ s.size) := by show _ ≤ _; dsimp only at hvl; omega
                  have HM1 : Hid (1 ≤ m) := hvl.1
                  have hmz : m ≤ rs'.size := by dsimp only at hvl; omega
                  have hmi : (m : Int) ≤ rs'.size := by omega
                  have HRS : Hid ((rs'.extract m rs'.size).data.toList = s.data.toList.drop (p' + m)) := by show _ = _; rw [extract_drop, hrs'.out, List.drop_drop]
                  have HRZ2 : Hid ((rs'.extract m rs'.size).size < rs'.size) := by show _ < _; have := hvl.1; simp; dsimp only at this; omega
                  clear hres hnr2 hgo hvl hrz2 hmz
                  go_wp2_with (go_at_call 34; refine (C34 _).mono ?_; rintro e4 w4 ⟨rfl, rfl⟩)
                  refine (C35 _).mono ?_
                  rintro e5 w5 ⟨hb5, rfl⟩
                  have HB5 := Lib.hid (bThen hbl.out hb5)
                  have HO5 : Hid (Iq w5 w1.heap.size (.slice ao' xs'.length co') xs') := hown.out.below hb5
                  have HO6 : Hid (Iq (w5.alloc (.cells #[.bool false, .int .i64 x, .string ⟨#[]⟩] 65)) w1.heap.size (.slice ao' xs'.length co') xs') := HO5.out.below (bSelf _ _)
                  have HK6 : Hid (Blk (w5.alloc (.cells #[.bool false, .int .i64 x, .string ⟨#[]⟩] 65)) w5.heap.size 65 (Itm.cs ⟨false, x, []⟩).toList) := newAt _ _ _ _ _ rfl rfl
                  have hn6 : xs'.length ≤ 100000000 := by omega
                  have HBS : Hid (w1.heap.size ≤ (w5.alloc (.cells #[.bool false, .int .i64 x, .string ⟨#[]⟩] 65)).heap.size) := (bAl HB5.out _).size
                  have HKB6 := Lib.hid ((blkDown HKB.out hb5).alloc (.cells #[.bool false, .int .i64 x, .string ⟨#[]⟩] 65))
                  clear hb5 d0 d1 d2
                  go_wp2_with (at_builtin; refine app65 rfl _ _ rfl w1.heap.size (.slice ao' xs'.length co') xs' rfl HO6.out w5.heap.size 1 ⟨false, x, []⟩ rfl HK6.out hn6 HBS.out ?_; intro v6 w6 hown6 hgrow6; obtain ⟨a6, c6, rfl⟩ := row_slice hown6.out)
                  have HB6 : Hid (Below w1.heap.size w1 w6) := (bAl HB5.out _).grown hgrow6.out HBS.out (fun k hk => (HO5.out.lt k hk).1)
                  have HKB7 : Hid (Blk w6 gb 60 [.int .u8 d.c.toNat, .bool d.gt, .int .i64 (-1)]) := (Kp.grown hgrow6.out).blk HKB6.out (fun h => own_ne HO6.out HKB6.out (by decide) h)
                  have HO7 : Hid (Iq w6 w1.heap.size (.slice a6 (xs'.length + 1) c6) (xs' ++ [⟨false, x, []⟩])) := by have h := hown6.out; simp only [List.length_append, List.length_cons, List.length_nil] at h; exact h
                  have HXL : Hid ((xs' ++ [(⟨false, x, []⟩ : Itm)]).length ≤ xs.length + ((s.size + 1) - g)) := by show _ ≤ _; simp; omega
                  clear hown6 hgrow6
                  go_roundw
                  case rel => exact ⟨g, p' + m, _, xs' ++ [⟨false, x, []⟩], by omega, rfl, rfl, HPM.out, (fun _ => by have := HM1.out; omega), HXL.out, HRS, HO7, HNR, HKB7, HB6⟩
                  case measure => exact HRZ2.out
          · have hk1 : d.k ≠ -1 := by omega
            have HAL : Hid (d.all = false) := by show _ = _; unfold Dir.all; exact decide_eq_false hk1
            have HNF : Hid (numF d s = 1) := by show _ = _; unfold numF; rw [HAL.out, if_neg (by decide)]; unfold Dir.n; rw [if_neg hk1, if_pos hk, if_neg H64.out]
            have HST2 : Hid (numbersR chrP s.data.toList d 1 (p, xs) = stepR chrP s.data.toList d (p, xs)) := by show _ = _; rw [HST.out, HNF.out]
            obtain ⟨R, hR⟩ : ∃ R, stepR chrP s.data.toList d (p, xs) = R := ⟨_, rfl⟩
            rw [hR] at HST2 HR2 HSL
            have HK3k : Hid (Blk W3 gb 60 [.int .u8 d.c.toNat, .bool d.gt, .int .i64 (-2)]) := by show Blk _ _ _ _; rw [← hk]; exact HK3.out
            have HKK := Lib.hid hk
            rw [hk] at d2
            clear hR HST hk HNF HK3 hk1
            go_upto_region 26 with (go_at_call 33; refine (C33 _).mono ?_; rintro e4 w4 ⟨rfl, rfl⟩)
            clear d0 d1 d2
            go_loopw [12, 1, 9] (fun n r o wr => InF false s d 1 xs.length gb (.int .i64 (-2)) R w1 n r o wr) (fun n _ _ _ => (intOf n).toNat)
            case atStart => exact ⟨1, p, rs, xs, Nat.le_refl _, rfl, rfl, hp, (fun h => by cases h), by omega, hrs, HO3, HST2, HK3k, HB3⟩
            case round =>
              obtain ⟨f', p', rs', xs', hf', rfl, rfl, hp', hfp, hxl', hrs', hown, hnr, hbk, hbl⟩ := hrel
              obtain ⟨ao', co', rfl⟩ := row_slice hown.out
              have hrz2 : rs'.size = s.size - p' := by
                have h1 : rs'.data.toList.length = rs'.size := rfl
                rw [← h1, hrs'.out, List.length_drop]; rfl
              have d0 := hbk.out.cell 0 rfl
              have d1 := hbk.out.cell 1 rfl
              have d2 := hbk.out.cell 2 rfl
              have hrzi2 : (rs'.size : Int) ≤ 1000000 := by omega
              cases f' with
              | zero =>
                have hnr2 := hnr.out
                have hnr2 : Except.ok (p', xs') = R := hnr2
                have HRN : Hid (runR chrP s.data.toList (ds.drop (j + 1)) (p', xs') = runR chrP s.data.toList ds (0, [])) := by show _ = _; rw [← HR2.out, ← hnr2]
                have HXL : Hid (xs'.length ≤ (j + 1) * 1000001) := by
                  have h := HSL.out (p', xs') hnr2.symm
                  show _ ≤ _
                  have h2 : xs'.length ≤ xs.length + 1000001 := h
                  omega
                clear hnr2
                go_wp2_with (go_at_call 34; refine (C34 _).mono ?_; rintro e4 w4 ⟨rfl, rfl⟩)
                go_roundw
                case rel => exact ⟨j + 1, p', rs', xs', by omega, by go_num, rfl, hp', HXL.out, hrs', hown, HRN, hbl⟩
                case measure => simp [intOf]; omega
              | succ g =>
                have e0 : (((g + 1 : Nat) : Int) != 0) = true := by simp only [bne, show (((g + 1 : Nat) : Int) == 0) = false by rw [beq_eq_false_iff_ne]; omega, Bool.not_false]
                have e1 : (((g + 1 : Nat) : Int) != -1) = true := by simp only [bne, show (((g + 1 : Nat) : Int) == -1) = false by rw [beq_eq_false_iff_ne]; omega, Bool.not_false]
                have hgo : ¬ (d.all = true ∧ s.data.toList.length - p' < max (sizeC d.c) 1) := fun h => by rw [HAL.out] at h; exact absurd h.1 (by decide)
                have hgi : ((g + 1 : Nat) : Int) - 1 = g := by omega
                have hg0 : (0 : Int) < ((g + 1 : Nat) : Int) := by omega
                have hgb : ((g + 1 : Nat) : Int) ≤ 1000 := by omega
                have hnr2 := hnr.out
                rw [numbersR_go hgo] at hnr2
                have C35 := fun W => t35 d rs' W HNC.out (by omega)
                rw [hrs'.out, HKK.out] at C35
                have HKB := hbk
                cases hres : numberR chrP d (s.data.toList.drop p') with
                | error y =>
                  rw [hres] at C35 hnr2
                  have HE : Hid (readR chrP f.data.toList s.data.toList = .error y) := by show _ = _; rw [HS.out, ← HR2.out, ← hnr2]
                  clear hres hnr2 hgo hfp
                  go_wp2_with (go_at_call 34; refine (C34 _).mono ?_; rintro e4 w4 ⟨rfl, rfl⟩)
                  refine (C35 _).mono ?_
                  rintro e5 w5 ⟨hb5, ⟨a5, b5, rfl⟩, hy⟩
                  have HY := Lib.hid hy
                  have hyy : ((y : Int) == 0) = false := by rw [beq_eq_false_iff_ne]; omega
                  have hyn : ((y : Int) != 0) = true := by simp only [bne, hyy, Bool.not_false]
                  have HB5 := Lib.hid (bThen HB.out (bThen hbl.out hb5))
                  clear hb5 hy d0 d1 d2
                  go_wp2
                  go_ret2
                  exact ReadF.bad HE HY.out HB5.out
                | ok v =>
                  rw [hres] at C35 hnr2
                  have hvl := numberR_len HNC.out hres
                  rw [List.length_drop, show s.data.toList.length = s.size from rfl] at hvl
                  obtain ⟨x, m⟩ := v
                  have HNR : Hid (numbersR chrP s.data.toList d g (p' + m, xs' ++ [⟨false, x, []⟩]) = R) := hnr2
                  have HPM : Hid (p' + m ≤ s.size) := by show _ ≤ _; dsimp only at hvl; omega
                  have HM1 : Hid (1 ≤ m) := hvl.1
                  have hmz : m ≤ rs'.size := by dsimp only at hvl; omega
                  have hmi : (m : Int) ≤ rs'.size := by omega
                  have HRS : Hid ((rs'.extract m rs'.size).data.toList = s.data.toList.drop (p' + m)) := by show _ = _; rw [extract_drop, hrs'.out, List.drop_drop]
                  have HRZ2 : Hid ((rs'.extract m rs'.size).size < rs'.size) := by show _ < _; have := hvl.1; simp; dsimp only at this; omega
                  clear hres hnr2 hgo hvl hrz2 hmz
                  go_wp2_with (go_at_call 34; refine (C34 _).mono ?_; rintro e4 w4 ⟨rfl, rfl⟩)
                  refine (C35 _).mono ?_
                  rintro e5 w5 ⟨hb5, rfl⟩
                  have HB5 := Lib.hid (bThen hbl.out hb5)
                  have HO5 : Hid (Iq w5 w1.heap.size (.slice ao' xs'.length co') xs') := hown.out.below hb5
                  have HO6 : Hid (Iq (w5.alloc (.cells #[.bool false, .int .i64 x, .string ⟨#[]⟩] 65)) w1.heap.size (.slice ao' xs'.length co') xs') := HO5.out.below (bSelf _ _)
                  have HK6 : Hid (Blk (w5.alloc (.cells #[.bool false, .int .i64 x, .string ⟨#[]⟩] 65)) w5.heap.size 65 (Itm.cs ⟨false, x, []⟩).toList) := newAt _ _ _ _ _ rfl rfl
                  have hn6 : xs'.length ≤ 100000000 := by omega
                  have HBS : Hid (w1.heap.size ≤ (w5.alloc (.cells #[.bool false, .int .i64 x, .string ⟨#[]⟩] 65)).heap.size) := (bAl HB5.out _).size
                  have HKB6 := Lib.hid ((blkDown HKB.out hb5).alloc (.cells #[.bool false, .int .i64 x, .string ⟨#[]⟩] 65))
                  clear hb5 d0 d1 d2
                  go_wp2_with (at_builtin; refine app65 rfl _ _ rfl w1.heap.size (.slice ao' xs'.length co') xs' rfl HO6.out w5.heap.size 1 ⟨false, x, []⟩ rfl HK6.out hn6 HBS.out ?_; intro v6 w6 hown6 hgrow6; obtain ⟨a6, c6, rfl⟩ := row_slice hown6.out)
                  have HB6 : Hid (Below w1.heap.size w1 w6) := (bAl HB5.out _).grown hgrow6.out HBS.out (fun k hk => (HO5.out.lt k hk).1)
                  have HKB7 : Hid (Blk w6 gb 60 [.int .u8 d.c.toNat, .bool d.gt, .int .i64 (-2)]) := (Kp.grown hgrow6.out).blk HKB6.out (fun h => own_ne HO6.out HKB6.out (by decide) h)
                  have HO7 : Hid (Iq w6 w1.heap.size (.slice a6 (xs'.length + 1) c6) (xs' ++ [⟨false, x, []⟩])) := by have h := hown6.out; simp only [List.length_append, List.length_cons, List.length_nil] at h; exact h
                  have HXL : Hid ((xs' ++ [(⟨false, x, []⟩ : Itm)]).length ≤ xs.length + (1 - g)) := by show _ ≤ _; simp; omega
                  clear hown6 hgrow6
                  go_roundw
                  case rel => exact ⟨g, p' + m, _, xs' ++ [⟨false, x, []⟩], by omega, by go_num, rfl, HPM.out, (fun h => by cases h), HXL.out, HRS, HO7, HNR, HKB7, HB6⟩
                  case measure => simp [intOf]
          · have hk1 : d.k ≠ -1 := by omega
            have HAL : Hid (d.all = false) := by show _ = _; unfold Dir.all; exact decide_eq_false hk1
            have HNF : Hid (numF d s = N) := by show _ = _; unfold numF; rw [HAL.out, if_neg (by decide)]; unfold Dir.n; rw [if_neg hk1, if_neg (by omega)]; omega
            have k2 : ((N : Int) == -2) = false := by rw [beq_eq_false_iff_ne]; omega
            have hNi : (N : Int) ≤ 1000 := by omega
            have HST2 : Hid (numbersR chrP s.data.toList d N (p, xs) = stepR chrP s.data.toList d (p, xs)) := by show _ = _; rw [HST.out, HNF.out]
            obtain ⟨R, hR⟩ : ∃ R, stepR chrP s.data.toList d (p, xs) = R := ⟨_, rfl⟩
            rw [hR] at HST2 HR2 HSL
            have HK3k : Hid (Blk W3 gb 60 [.int .u8 d.c.toNat, .bool d.gt, .int .i64 (N : Int)]) := by show Blk _ _ _ _; rw [← hk]; exact HK3.out
            have HKK := Lib.hid hk
            rw [hk] at d2
            clear hR HST hk HNF HK3 hk1
            go_upto_region 26 with (go_at_call 33; refine (C33 _).mono ?_; rintro e4 w4 ⟨rfl, rfl⟩)
            clear d0 d1 d2 k2
            go_loopw [12, 1, 9] (fun n r o wr => InF false s d N xs.length gb (.int .i64 (N : Int)) R w1 n r o wr) (fun n _ _ _ => (intOf n).toNat)
            case atStart => exact ⟨N, p, rs, xs, Nat.le_refl _, rfl, rfl, hp, (fun h => by cases h), by omega, hrs, HO3, HST2, HK3k, HB3⟩
            case round =>
              obtain ⟨f', p', rs', xs', hf', rfl, rfl, hp', hfp, hxl', hrs', hown, hnr, hbk, hbl⟩ := hrel
              obtain ⟨ao', co', rfl⟩ := row_slice hown.out
              have hrz2 : rs'.size = s.size - p' := by
                have h1 : rs'.data.toList.length = rs'.size := rfl
                rw [← h1, hrs'.out, List.length_drop]; rfl
              have d0 := hbk.out.cell 0 rfl
              have d1 := hbk.out.cell 1 rfl
              have d2 := hbk.out.cell 2 rfl
              have hrzi2 : (rs'.size : Int) ≤ 1000000 := by omega
              cases f' with
              | zero =>
                have hnr2 := hnr.out
                have hnr2 : Except.ok (p', xs') = R := hnr2
                have HRN : Hid (runR chrP s.data.toList (ds.drop (j + 1)) (p', xs') = runR chrP s.data.toList ds (0, [])) := by show _ = _; rw [← HR2.out, ← hnr2]
                have HXL : Hid (xs'.length ≤ (j + 1) * 1000001) := by
                  have h := HSL.out (p', xs') hnr2.symm
                  show _ ≤ _
                  have h2 : xs'.length ≤ xs.length + 1000001 := h
                  omega
                clear hnr2
                go_wp2_with (go_at_call 34; refine (C34 _).mono ?_; rintro e4 w4 ⟨rfl, rfl⟩)
                go_roundw
                case rel => exact ⟨j + 1, p', rs', xs', by omega, by go_num, rfl, hp', HXL.out, hrs', hown, HRN, hbl⟩
                case measure => simp [intOf]; omega
              | succ g =>
                have e0 : (((g + 1 : Nat) : Int) != 0) = true := by simp only [bne, show (((g + 1 : Nat) : Int) == 0) = false by rw [beq_eq_false_iff_ne]; omega, Bool.not_false]
                have e1 : (((g + 1 : Nat) : Int) != -1) = true := by simp only [bne, show (((g + 1 : Nat) : Int) == -1) = false by rw [beq_eq_false_iff_ne]; omega, Bool.not_false]
                have hgo : ¬ (d.all = true ∧ s.data.toList.length - p' < max (sizeC d.c) 1) := fun h => by rw [HAL.out] at h; exact absurd h.1 (by decide)
                have hgi : ((g + 1 : Nat) : Int) - 1 = g := by omega
                have hg0 : (0 : Int) < ((g + 1 : Nat) : Int) := by omega
                have hgb : ((g + 1 : Nat) : Int) ≤ 1000 := by omega
                have hnr2 := hnr.out
                rw [numbersR_go hgo] at hnr2
                have C35 := fun W => t35 d rs' W HNC.out (by omega)
                rw [hrs'.out, HKK.out] at C35
                have HKB := hbk
                cases hres : numberR chrP d (s.data.toList.drop p') with
                | error y =>
                  rw [hres] at C35 hnr2
                  have HE : Hid (readR chrP f.data.toList s.data.toList = .error y) := by show _ = _; rw [HS.out, ← HR2.out, ← hnr2]
                  clear hres hnr2 hgo hfp
                  go_wp2_with (go_at_call 34; refine (C34 _).mono ?_; rintro e4 w4 ⟨rfl, rfl⟩)
                  refine (C35 _).mono ?_
                  rintro e5 w5 ⟨hb5, ⟨a5, b5, rfl⟩, hy⟩
                  have HY := Lib.hid hy
                  have hyy : ((y : Int) == 0) = false := by rw [beq_eq_false_iff_ne]; omega
                  have hyn : ((y : Int) != 0) = true := by simp only [bne, hyy, Bool.not_false]
                  have HB5 := Lib.hid (bThen HB.out (bThen hbl.out hb5))
                  clear hb5 hy d0 d1 d2
                  go_wp2
                  go_ret2
                  exact ReadF.bad HE HY.out HB5.out
                | ok v =>
                  rw [hres] at C35 hnr2
                  have hvl := numberR_len HNC.out hres
                  rw [List.length_drop, show s.data.toList.length = s.size from rfl] at hvl
                  obtain ⟨x, m⟩ := v
                  have HNR : Hid (numbersR chrP s.data.toList d g (p' + m, xs' ++ [⟨false, x, []⟩]) = R) := hnr2
                  have HPM : Hid (p' + m ≤ s.size) := by show _ ≤ _; dsimp only at hvl; omega
                  have HM1 : Hid (1 ≤ m) := hvl.1
                  have hmz : m ≤ rs'.size := by dsimp only at hvl; omega
                  have hmi : (m : Int) ≤ rs'.size := by omega
                  have HRS : Hid ((rs'.extract m rs'.size).data.toList = s.data.toList.drop (p' + m)) := by show _ = _; rw [extract_drop, hrs'.out, List.drop_drop]
                  have HRZ2 : Hid ((rs'.extract m rs'.size).size < rs'.size) := by show _ < _; have := hvl.1; simp; dsimp only at this; omega
                  clear hres hnr2 hgo hvl hrz2 hmz
                  go_wp2_with (go_at_call 34; refine (C34 _).mono ?_; rintro e4 w4 ⟨rfl, rfl⟩)
                  refine (C35 _).mono ?_
                  rintro e5 w5 ⟨hb5, rfl⟩
                  have HB5 := Lib.hid (bThen hbl.out hb5)
                  have HO5 : Hid (Iq w5 w1.heap.size (.slice ao' xs'.length co') xs') := hown.out.below hb5
                  have HO6 : Hid (Iq (w5.alloc (.cells #[.bool false, .int .i64 x, .string ⟨#[]⟩] 65)) w1.heap.size (.slice ao' xs'.length co') xs') := HO5.out.below (bSelf _ _)
                  have HK6 : Hid (Blk (w5.alloc (.cells #[.bool false, .int .i64 x, .string ⟨#[]⟩] 65)) w5.heap.size 65 (Itm.cs ⟨false, x, []⟩).toList) := newAt _ _ _ _ _ rfl rfl
                  have hn6 : xs'.length ≤ 100000000 := by omega
                  have HBS : Hid (w1.heap.size ≤ (w5.alloc (.cells #[.bool false, .int .i64 x, .string ⟨#[]⟩] 65)).heap.size) := (bAl HB5.out _).size
                  have HKB6 := Lib.hid ((blkDown HKB.out hb5).alloc (.cells #[.bool false, .int .i64 x, .string ⟨#[]⟩] 65))
                  clear hb5 d0 d1 d2
                  go_wp2_with (at_builtin; refine app65 rfl _ _ rfl w1.heap.size (.slice ao' xs'.length co') xs' rfl HO6.out w5.heap.size 1 ⟨false, x, []⟩ rfl HK6.out hn6 HBS.out ?_; intro v6 w6 hown6 hgrow6; obtain ⟨a6, c6, rfl⟩ := row_slice hown6.out)
                  have HB6 : Hid (Below w1.heap.size w1 w6) := (bAl HB5.out _).grown hgrow6.out HBS.out (fun k hk => (HO5.out.lt k hk).1)
                  have HKB7 : Hid (Blk w6 gb 60 [.int .u8 d.c.toNat, .bool d.gt, .int .i64 (N : Int)]) := (Kp.grown hgrow6.out).blk HKB6.out (fun h => own_ne HO6.out HKB6.out (by decide) h)
                  have HO7 : Hid (Iq w6 w1.heap.size (.slice a6 (xs'.length + 1) c6) (xs' ++ [⟨false, x, []⟩])) := by have h := hown6.out; simp only [List.length_append, List.length_cons, List.length_nil] at h; exact h
                  have HXL : Hid ((xs' ++ [(⟨false, x, []⟩ : Itm)]).length ≤ xs.length + (N - g)) := by show _ ≤ _; simp; omega
                  clear hown6 hgrow6
                  go_roundw
                  case rel => exact ⟨g, p' + m, _, xs' ++ [⟨false, x, []⟩], by omega, by go_num, rfl, HPM.out, (fun h => by cases h), HXL.out, HRS, HO7, HNR, HKB7, HB6⟩
                  case measure => simp [intOf]
      · obtain rfl : ds.length = j := by omega
        have hr2 := hrun.out
        rw [List.drop_length] at hr2
        have HE : Hid (readR chrP f.data.toList s.data.toList = .ok (p, xs)) := by show _ = _; rw [HS.out, ← hr2]; rfl
        have HOX : Hid (Iq wr w.heap.size (.slice ao xs.length co) xs) := ownsRow_mono hown.out HB.out.size
        clear hr2 hlt
        go_wp2
        go_ret2
        exact ReadF.good HE (bThen HB.out hbl.out) HOX.out
end Go.Proofs.YtmbnckmhngijdaaGreatDoor
