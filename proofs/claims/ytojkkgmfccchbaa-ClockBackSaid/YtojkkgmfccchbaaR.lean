/- Zones that are made: Zoned. -/
import Derived.Test.YtojkkgmfccchbaaQ
import Derived.Test.YtojkkgmfccchbaaRH
namespace Go.Proofs.Ytojkkgmfccchbaa
open Go Go.RowKit Go.Sort

/-- a slice of ints that reads as a list -/
def LR (w : World) (v : Value) (l : List Int) : Prop := ∃ (a : Option Addr) (cap : Nat), v = .slice a l.length cap ∧ l.length ≤ 9223372036854775807 ∧
  ∀ k x, l[k]? = some x → ∃ g o, a = some ⟨g, o, none⟩ ∧ g < w.heap.size ∧ w.cell? ⟨g, o + k, none⟩ = some (.int .i64 x)
def GoodZ (off : Int) (l : List Ch) : Prop := zOk off l = true ∧ ∀ c ∈ l, -100000 ≤ c.1 ∧ c.1 ≤ 16000000
theorem ordB_down : ∀ (l : List Ch) (f f' : Int), ordB f l = true → f' ≤ f → ordB f' l = true := by
  intro l
  cases l with
  | nil => intros; rfl
  | cons c r =>
    obtain ⟨a, o⟩ := c
    intro f f' h hf
    obtain ⟨g1, g2, g3⟩ := ordB_cons.1 h
    exact ordB_cons.2 ⟨⟨by omega, g1.2⟩, g2, g3⟩
theorem app83 {w : World} {ops : Array Oper} {rest : List Oper} {o : Oper} {a : Act} {Q : Exit → Act → World → Prop} (hgd : o.guard = none) (s x : Operand)
    (ho : o.op = .call { callee := .builtin .append, args := #[s, x], argTypes := #[56, 56] }) (base : Nat) (v : Value) (l : List Ch) (hs : a.eval s = v) (hown : CR w base 83 v l)
    (g c : Nat) (d : Ch) (hx : a.eval x = .slice (some ⟨g, 0, none⟩) 1 c) (hc : Blk w g 83 (chc d)) (hn : l.length ≤ 1000000) (hbase : base ≤ w.heap.size)
    (h : ∀ v' w', Hid (CR w' base 83 v' (l ++ [d])) → Hid (w.grownBy w' v.ownBlock) → wpList Try.prog ops Q rest (a.put o.dst v') w') :
    wpList Try.prog ops Q (o :: rest) a w := by
  refine wpList_append_own w hgd s x 56 ho base 83 _ (.agg #[.int .i64 0, .int .i64 0]) 2 16 Try.underlying56 info83 z83 s83 b83 rfl (by decide) v l.length (ccells l) hs hown ⟨g, 0, none⟩ 1 c (chc d) hx rfl ?_ ?_ (by unfold maxLen; omega) (by omega) hbase (fun v' w' h1 h2 _ => h v' w' ?_ h2)
  · intro j u hu
    rw [add_addr, Nat.zero_add]
    exact hc.cell j hu
  · intro u hu
    simp only [chc, List.mem_cons, List.mem_nil_iff, or_false] at hu
    rcases hu with rfl | rfl <;> rfl
  · show World.ownsRow _ _ _ _ _ _ _
    rw [ccells_snoc, List.length_append]
    exact h1
theorem u_m2 (n b : Int) (hb : 0 < b) (hb2 : b ≤ 1000000) : ∃ k : Int, wrap64 ((IntKind.u64.wrap n).tmod b) = k ∧ 0 ≤ k ∧ k < b := by
  refine ⟨_, rfl, ?_⟩
  rw [IntKind.wrap_u64]
  rw [Int.tmod_eq_emod_of_nonneg (Int.emod_nonneg _ (by decide))]
  have h1 := Int.emod_nonneg (n % 18446744073709551616) (show b ≠ 0 by omega)
  have h2 := Int.emod_lt_of_pos (n % 18446744073709551616) hb
  generalize n % 18446744073709551616 % b = k at *
  unfold wrap64; omega
def MadeZ (w : World) (e : Ending) (w' : World) : Prop := ∃ off l v, GoodZ off l ∧ e = .returned (ZV off v) ∧ ZR w' v l ∧ Below w.heap.size w w'
set_option maxRecDepth 100000 in
set_option maxHeartbeats 4000000 in
theorem t24 (v : Value) (l : List Int) (w : World) (hz : LR w v l) : Calls Try.prog 24 #[v] w (MadeZ w) := by
  obtain ⟨a, cap, rfl, hlen, hz⟩ := hz
  have HZ := Lib.hid hz
  clear hz
  cases l with
  | nil =>
    have hg : GoodZ 0 [] := ⟨by decide, fun c hc => by cases hc⟩
    have HG := Lib.hid hg
    clear hg
    go_enter Try.func24, Try.ntmps24
    go_wp2_with fail
    go_loop [5] (fun i => i = .int .i64 1) (fun _ => 0)
    case atStart => rfl
    case round =>
      obtain rfl := hrel
      go_wp2
      refine bodyPost_ret (v := ZV 0 (.slice none 0 0)) ?r rfl ⟨0, [], _, HG.out, rfl, ZR.nil _, ?b⟩
      case r => simp [results, Try.results24, go_sem]
      case b => exact bAl (bSelf w _) _
  | cons n0 l =>
    obtain ⟨g, o, rfl, hgl, c0⟩ := HZ.out 0 n0 rfl
    obtain ⟨k0, e0, a0, b0⟩ := u_m n0 193 (by decide) (by decide)
    have hne0 : g ≠ w.heap.size := by omega
    have hne1 : g ≠ w.heap.size + 1 := by omega
    have hlen' : ((n0 :: l).length : Int) ≤ 9223372036854775807 := by omega
    have hpos : (0 : Int) < ((n0 :: l).length : Int) := by simp only [List.length_cons]; omega
    have hpos2 : 0 < (n0 :: l).length := by simp
    rw [Nat.add_zero] at c0
    obtain ⟨L, hL⟩ : ∃ L, (n0 :: l) = L := ⟨_, rfl⟩
    rw [hL] at hlen hlen' hpos hpos2 ⊢
    have HZL : Hid (∀ k x, L[k]? = some x → w.cell? ⟨g, o + k, none⟩ = some (.int .i64 x)) := by
      intro k x hx
      rw [← hL] at hx
      obtain ⟨g', o', h1, _, h2⟩ := HZ.out k x hx
      obtain ⟨rfl, rfl⟩ : g = g' ∧ o = o' := by simpa using h1
      exact h2
    clear hL HZ
    go_enter Try.func24, Try.ntmps24
    go_wp2_with fail
    have hb0 : Below w.heap.size w ((w.alloc (.cells #[.int .i64 0, .slice none 0 0] 58)).alloc (.cells #[.int .i64 (900 * (k0 - 96)), .slice none 0 0] 58)) := bAl (bSelf w _) _
    have R0 : Hid (Blk ((w.alloc (.cells #[.int .i64 0, .slice none 0 0] 58)).alloc (.cells #[.int .i64 (900 * (k0 - 96)), .slice none 0 0] 58)) w.heap.size 58 [.int .i64 0, .slice none 0 0]) := (Blk.new w _ _).alloc _
    have Z0 : Hid (Blk ((w.alloc (.cells #[.int .i64 0, .slice none 0 0] 58)).alloc (.cells #[.int .i64 (900 * (k0 - 96)), .slice none 0 0] 58)) (w.heap.size + 1) 58 [.int .i64 (900 * (k0 - 96)), .slice none 0 0]) := newAt _ _ _ _ _ (by simp) rfl
    have hoff : isOf (900 * (k0 - 96)) = true := inB_t (by omega) (by omega)
    have HOF := Lib.hid hoff
    clear e0 c0 hoff
    generalize (w.alloc (.cells #[.int .i64 0, .slice none 0 0] 58)).alloc (.cells #[.int .i64 (900 * (k0 - 96)), .slice none 0 0] 58) = w1 at *
    generalize 900 * (k0 - 96) = off at *
    go_loopw [5, 4] (fun i t wr => ∃ (k : Nat) (at' : Int) (v : Value) (ch : List Ch), 1 ≤ k ∧ k ≤ 41 ∧ i = .int .i64 k ∧ t = .int .i64 at' ∧ -100000 ≤ at' ∧ at' ≤ -100000 + ((k : Int) - 1) * 400000 ∧ Hid (ch.length + 1 = k) ∧ Hid (∀ r, ordB (at' + 1) r = true → ordB (-100000000000) (ch ++ r) = true) ∧ Hid (∀ c ∈ ch, -100000 ≤ c.1 ∧ c.1 ≤ 16000000) ∧ Hid (CR wr (w.heap.size + 2) 83 v ch) ∧ Hid (Blk wr w.heap.size 58 [.int .i64 0, .slice none 0 0]) ∧ Hid (Blk wr (w.heap.size + 1) 58 [.int .i64 off, v]) ∧ Below w.heap.size w wr) (fun i _ _ => (100 - intOf i).toNat)
    case atStart => exact ⟨1, _, _, [], by omega, by omega, rfl, rfl, by omega, by omega, rfl, Lib.hid (fun r hr => ordB_down r _ _ hr (by omega)), Lib.hid (fun c hc => by cases hc), Lib.hid (CR.nil _ _ _), R0, Z0, hb0⟩
    case round =>
      obtain ⟨k, at', tv, ch, hk1, hk2, rfl, rfl, ht1, ht2, HL, HO, HB, C, R, Z, hb⟩ := hrel
      have zl := Z.out.lt
      have z1 := Z.out.cell 1 rfl
      by_cases hgo : k < L.length ∧ k ≤ 40
      · obtain ⟨h1, h2⟩ := hgo
        have hg : L[k]? = some L[k] := List.getElem?_eq_getElem h1
        have c1 := HZL.out k _ hg
        have c1' : wr.cell? ⟨g, o + k, none⟩ = some (.int .i64 L[k]) := (hb.cell (p := ⟨g, o + k, none⟩) hgl).trans c1
        obtain ⟨ka, ea, aa, ba⟩ := u_m2 L[k] 400000 (by decide) (by decide)
        obtain ⟨kb, eb, ab, bb⟩ := u_dm L[k] 7 193 (by decide) (by decide) (by decide)
        have h1' : (k : Int) < (L.length : Int) := by omega
        have h2' : (k : Int) ≤ 40 := by omega
        clear c1 hg
        generalize L[k] = x at *
        have HO2 : Hid (∀ r, ordB (at' + 1 + ka + 1) r = true → ordB (-100000000000) ((ch ++ [(at' + 1 + ka, 900 * (kb - 96))]) ++ r) = true) := by
          intro r hr
          rw [List.append_assoc]
          exact HO.out _ (ordB_cons.2 ⟨⟨by omega, by omega⟩, ⟨by omega, by omega⟩, hr⟩)
        have HB2 : Hid (∀ c ∈ ch ++ [(at' + 1 + ka, 900 * (kb - 96))], -100000 ≤ c.1 ∧ c.1 ≤ 16000000) := by
          intro c hc
          rcases List.mem_append.1 hc with hc | hc
          · exact HB.out c hc
          · have : c = (at' + 1 + ka, 900 * (kb - 96)) := by simpa using hc
            subst this
            exact ⟨by simp only; omega, by simp only; omega⟩
        have CW := Lib.hid (C.out.below (bSelf wr (.cells #[.int .i64 (at' + 1 + ka), .int .i64 (900 * (kb - 96))] 83)))
        have EW := Lib.hid (Blk.new wr #[.int .i64 (at' + 1 + ka), .int .i64 (900 * (kb - 96))] 83)
        have RW := Lib.hid (R.out.alloc (.cells #[.int .i64 (at' + 1 + ka), .int .i64 (900 * (kb - 96))] 83))
        have ZW := Lib.hid (Z.out.alloc (.cells #[.int .i64 (at' + 1 + ka), .int .i64 (900 * (kb - 96))] 83))
        have hbW := bAl hb (.cells #[.int .i64 (at' + 1 + ka), .int .i64 (900 * (kb - 96))] 83)
        have hcl : ch.length ≤ 1000000 := by have := HL.out; omega
        have HCL := Lib.hid hcl
        have hbs : w.heap.size + 2 ≤ (wr.alloc (.cells #[.int .i64 (at' + 1 + ka), .int .i64 (900 * (kb - 96))] 83)).heap.size := by simp; omega
        have HBS := Lib.hid hbs
        have HL5 : Hid ((ch ++ [(at' + 1 + ka, 900 * (kb - 96))]).length ≤ 1000000) := by show _ ≤ _; have := HL.out; rw [List.length_append]; simp; omega
        have H12 : Hid (w.heap.size + 1 < w.heap.size + 2) := Nat.lt_succ_self _
        clear hcl hbs
        go_wp2_with (at_builtin; refine app83 rfl _ _ rfl (w.heap.size + 2) tv ch rfl CW.out wr.heap.size 1 (at' + 1 + ka, 900 * (kb - 96)) rfl EW.out HCL.out HBS.out ?_; intro v5 w5 C5 g5; obtain ⟨ta, tc, rfl, _⟩ := CR.zr C5.out HL5.out; have Z5 := Lib.hid (ZW.out.grownC CW.out g5.out H12.out); have f3 := Z5.out.cell 1 rfl; have f4 := Z5.out.free 1)
        have R5 := RW.out.grownC CW.out g5.out (by omega)
        have hb5 := hbW.grown g5.out hbW.size (fun j hj => by have := CW.out.own hj; omega)
        have hln : (ch ++ [(at' + 1 + ka, 900 * (kb - 96))]).length = ch.length + 1 := by simp
        have C6 := C5.out
        rw [hln] at C6
        clear ea eb hln
        go_roundw
        case rel => exact ⟨k + 1, _, .slice ta (ch.length + 1) tc, ch ++ [(at' + 1 + ka, 900 * (kb - 96))], by omega, by omega, by go_num, rfl, by omega, by omega, by have := HL.out; show _ = _; rw [List.length_append]; simp; omega, HO2, HB2, Lib.hid (CR.setOther C6 ⟨w.heap.size + 1, 1, none⟩ _ (by show w.heap.size + 1 < _; omega)), Lib.hid (R5.setOther ⟨w.heap.size + 1, 1, none⟩ _ (by show w.heap.size ≠ w.heap.size + 1; omega)), Lib.hid (Z5.out.set 1 _), bSet hb5 _ _ (by omega) _⟩
        case measure => simp [intOf]; omega
      · have hgood : GoodZ off ch := by
          refine ⟨?_, HB.out⟩
          have h9 := HO.out [] rfl
          rw [List.append_nil] at h9
          have h8 := HL.out
          show ((isOf off && decide (ch.length ≤ 40)) && ordB (-100000000000) ch) = true
          rw [HOF.out, h9, decide_eq_true (show ch.length ≤ 40 by omega)]; rfl
        have HGD := Lib.hid hgood
        have z0 := Z.out.cell 0 rfl
        have r0 := R.out.cell 0 rfl
        have r1 := R.out.cell 1 rfl
        have g0 := R.out.free 0
        have g1 := R.out.free 1
        obtain ⟨ta, tc, rfl, _⟩ := CR.zr C.out (by have := HL.out; omega)
        have hcase : ¬ ((k : Int) < L.length) ∨ (¬ (k : Int) ≤ 40) := by omega
        clear hgood hgo
        rcases hcase with hcase | hcase
        all_goals
          go_wp2
          all_goals
            refine bodyPost_ret (v := ZV off (.slice ta ch.length tc)) ?r rfl ⟨off, ch, _, HGD.out, rfl, ?z, ?b⟩
            case r => simp [results, Try.results24, go_sem, r0, r1]
            case z => exact CR.zr ((C.out.setOther ⟨w.heap.size, 0, none⟩ _ (by show w.heap.size < _; omega)).setOther ⟨w.heap.size, 1, none⟩ _ (by show w.heap.size < _; omega)) (by have := HL.out; omega)
            case b => exact bSet (bSet hb _ _ (by omega) _) _ _ (by omega) _
end Go.Proofs.Ytojkkgmfccchbaa
