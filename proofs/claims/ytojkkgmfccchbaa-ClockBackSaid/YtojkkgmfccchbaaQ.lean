/- Zones that are made: zone. -/
import Derived.Test.YtojkkgmfccchbaaP
namespace Go.Proofs.Ytojkkgmfccchbaa
open Go Go.RowKit Go.Sort

abbrev chc (c : Ch) : List Value := [.int .i64 c.1, .int .i64 c.2]
def ccells (l : List Ch) : List Value := l.flatMap chc
theorem ccells_snoc (l : List Ch) (c : Ch) : ccells (l ++ [c]) = ccells l ++ chc c := by simp [ccells]
theorem ccells_get : ∀ (l : List Ch) (k : Nat) (c : Ch), l[k]? = some c → ∀ j x, (chc c)[j]? = some x → (ccells l)[k * 2 + j]? = some x := by
  intro l
  induction l with
  | nil => intro k p h; simp at h
  | cons q l ih =>
    intro k p h j x hx
    cases k with
    | zero =>
      have e : q = p := by simpa using h
      subst e
      have hj : j < 2 := by
        rcases Nat.lt_or_ge j 2 with h4 | h4
        · exact h4
        · rw [List.getElem?_eq_none (by simpa using h4)] at hx; cases hx
      show ((chc q) ++ ccells l)[0 * 2 + j]? = some x
      rw [Nat.zero_mul, Nat.zero_add, List.getElem?_append_left (by simpa using hj)]
      exact hx
    | succ k =>
      have h2 : l[k]? = some p := by simpa using h
      show ((chc q) ++ ccells l)[(k + 1) * 2 + j]? = some x
      rw [List.getElem?_append_right (by simp; omega)]
      have e : (k + 1) * 2 + j - (chc q).length = k * 2 + j := by simp; omega
      rw [e]
      exact ih k p h2 j x hx
/-- changes in a row of the call's own -/
def CR (w : World) (base : Nat) (e : TypeId) (v : Value) (l : List Ch) : Prop := w.ownsRow base e 2 v l.length (ccells l)
theorem CR.below {w w' : World} {base : Nat} {e : TypeId} {v : Value} {l : List Ch} (h : CR w base e v l) (hb : Below w.heap.size w w') : CR w' base e v l := ownsRow_below h hb
theorem CR.nil (w : World) (B : Nat) (e : TypeId) : CR w B e (.slice none 0 0) [] := ⟨rfl, .inl ⟨rfl, rfl⟩⟩
theorem CR.own {w : World} {base : Nat} {e : TypeId} {v : Value} {l : List Ch} (h : CR w base e v l) {g : Nat} (hg : v.ownBlock = some g) : base ≤ g := by
  obtain ⟨_, h2 | ⟨g', cap, cur, hv, hb, _⟩⟩ := h
  · rw [h2.1] at hg; cases hg
  · rw [hv] at hg
    have : g' = g := Option.some.inj hg
    omega
theorem CR.zr {w : World} {base : Nat} {e : TypeId} {v : Value} {l : List Ch} (h : CR w base e v l) (hl : l.length ≤ 1000000) : ZR w v l := by
  obtain ⟨h1, ⟨rfl, h2⟩ | ⟨g, cap, cur, rfl, hg, hh, hn, hm, hs, ht⟩⟩ := h
  · have : l = [] := List.eq_nil_of_length_eq_zero h2
    subst this
    exact ZR.nil w
  · refine ⟨some ⟨g, 0, none⟩, cap, rfl, by omega, fun k x hx => ⟨g, 0, rfl, lt_of_block hh, ?_⟩⟩
    have key : ∀ j y, (chc x)[j]? = some y → w.cell? ⟨g, k * 2 + j, none⟩ = some y := by
      intro j y hy
      have h3 := ccells_get l k x hx j y hy
      rw [← ht, List.getElem?_take] at h3
      split at h3
      · rw [cell_of_row w g _ cur e (0, 0) hh]
        simpa using h3
      · cases h3
    rw [Nat.zero_add]
    exact ⟨key 0 _ rfl, key 1 _ rfl⟩
theorem Blk.grownC {w w' : World} {g base : Nat} {v : Value} {l : List Ch} {e0 e : TypeId} {cs : List Value} (h : Blk w g e cs) (hr : CR w base e0 v l) (hg : w.grownBy w' v.ownBlock) (hlt : g < base) : Blk w' g e cs :=
  (hg.block g h.lt (fun h2 => by have := hr.own h2.symm; omega)).trans h
theorem CR.setOther {w : World} {base : Nat} {e : TypeId} {v : Value} {l : List Ch} (h : CR w base e v l) (a : Addr) (u : Value) (hne : a.block < base) : CR (w.setCell a u) base e v l := by
  obtain ⟨h1, h2 | ⟨g, cap, cur, hv, hb, hh, r⟩⟩ := h
  · exact ⟨h1, .inl h2⟩
  · exact ⟨h1, .inr ⟨g, cap, cur, hv, hb, (Below.heap_setCell w a u g (by omega)).trans hh, r⟩⟩
theorem two_new (w : World) (x y : Value) (t : TypeId) : ∀ j u, [x, y][j]? = some u → (w.alloc (.cells #[x, y] t)).cell? ((⟨w.heap.size, 0, none⟩ : Addr).add j) = some u := by
  intro j u hu
  rw [add_addr, Nat.zero_add]
  exact (Blk.new w #[x, y] t).cell j hu
theorem info69 : Try.prog.info? 69 = some (Try.prog.info? 69).get! := by kernel_rfl
theorem info83 : Try.prog.info? 83 = some (Try.prog.info? 83).get! := by kernel_rfl
theorem z69 : (Try.prog.info? 69).get!.zero = some (.agg #[.int .i64 0, .int .i64 0]) := by kernel_rfl
theorem s69 : (Try.prog.info? 69).get!.size = 2 := by kernel_rfl
theorem b69 : (Try.prog.info? 69).get!.bytes = 16 := by kernel_rfl
theorem z83 : (Try.prog.info? 83).get!.zero = some (.agg #[.int .i64 0, .int .i64 0]) := by kernel_rfl
theorem s83 : (Try.prog.info? 83).get!.size = 2 := by kernel_rfl
theorem b83 : (Try.prog.info? 83).get!.bytes = 16 := by kernel_rfl
def ZoneR (off : Int) (l : List Ch) (w : World) (e : Ending) (w' : World) : Prop := ∃ v, e = .returned (ZV off v) ∧ ZR w' v l ∧ Below w.heap.size w w'
set_option maxRecDepth 100000 in
set_option maxHeartbeats 4000000 in
theorem t23 (off : Int) (v : Value) (l : List Ch) (w : World) (hz : ZR w v l) (h100 : l.length ≤ 100) : Calls Try.prog 23 #[ZV off v] w (ZoneR off l w) := by
  obtain ⟨a, cap, rfl, hlen, hz⟩ := hz
  have HZ := Lib.hid hz
  have h100' : (l.length : Int) ≤ 100 := by omega
  clear hz
  go_enter Try.func23, Try.ntmps23
  go_wp2_with fail
  have hb0 : Below w.heap.size w (((w.alloc (.cells #[.int .i64 off, .slice a l.length cap] 58)).alloc (.cells #[.int .i64 0, .slice none 0 0] 52)).alloc (.cells #[.int .i64 off, .slice none 0 0] 52)) := bAl (bAl (bSelf w _) _) _
  have K0 : Hid (Blk (((w.alloc (.cells #[.int .i64 off, .slice a l.length cap] 58)).alloc (.cells #[.int .i64 0, .slice none 0 0] 52)).alloc (.cells #[.int .i64 off, .slice none 0 0] 52)) w.heap.size 58 [.int .i64 off, .slice a l.length cap]) := ((Blk.new w _ _).alloc _).alloc _
  have R0 : Hid (Blk (((w.alloc (.cells #[.int .i64 off, .slice a l.length cap] 58)).alloc (.cells #[.int .i64 0, .slice none 0 0] 52)).alloc (.cells #[.int .i64 off, .slice none 0 0] 52)) (w.heap.size + 1) 52 [.int .i64 0, .slice none 0 0]) := (newAt _ _ _ _ _ (by simp) rfl).alloc _
  have Z0 : Hid (Blk (((w.alloc (.cells #[.int .i64 off, .slice a l.length cap] 58)).alloc (.cells #[.int .i64 0, .slice none 0 0] 52)).alloc (.cells #[.int .i64 off, .slice none 0 0] 52)) (w.heap.size + 2) 52 [.int .i64 off, .slice none 0 0]) := newAt _ _ _ _ _ (by simp) rfl
  generalize ((w.alloc (.cells #[.int .i64 off, .slice a l.length cap] 58)).alloc (.cells #[.int .i64 0, .slice none 0 0] 52)).alloc (.cells #[.int .i64 off, .slice none 0 0] 52) = w1 at *
  go_loopw [4] (fun i wr => ∃ (k : Nat) (v : Value), k ≤ l.length ∧ i = .int .i64 k ∧ Hid (CR wr (w.heap.size + 3) 69 v (l.take k)) ∧ Hid (Blk wr w.heap.size 58 [.int .i64 off, .slice a l.length cap]) ∧ Hid (Blk wr (w.heap.size + 1) 52 [.int .i64 0, .slice none 0 0]) ∧ Hid (Blk wr (w.heap.size + 2) 52 [.int .i64 off, v]) ∧ Below w.heap.size w wr) (fun i _ => l.length - (intOf i).toNat)
  case atStart => exact ⟨0, _, Nat.zero_le _, rfl, Lib.hid (CR.nil _ _ _), K0, R0, Z0, hb0⟩
  case round =>
    obtain ⟨k, tv, hk, rfl, C, K, R, Z, hb⟩ := hrel
    have q1 := K.out.cell 1 rfl
    have ql := K.out.lt
    have zl := Z.out.lt
    have z1 := Z.out.cell 1 rfl
    by_cases hlt : k < l.length
    · have hg : l[k]? = some l[k] := List.getElem?_eq_getElem hlt
      obtain ⟨g, o, rfl, hgl, c1, c2⟩ := HZ.out k _ hg
      have c1' : wr.cell? ⟨g, o + k * 2, none⟩ = some (.int .i64 l[k].1) := (hb.cell (p := ⟨g, o + k * 2, none⟩) hgl).trans c1
      have c2' : wr.cell? ⟨g, o + k * 2 + 1, none⟩ = some (.int .i64 l[k].2) := (hb.cell (p := ⟨g, o + k * 2 + 1, none⟩) hgl).trans c2
      have hlt' : (k : Int) < l.length := by omega
      have hgw : g < wr.heap.size := Nat.lt_of_lt_of_le hgl hb.size
      have HTK : Hid (l.take (k + 1) = l.take k ++ [(l[k].1, l[k].2)]) := by show _ = _; rw [List.take_add_one, hg]; rfl
      have HKL : Hid ((l.take k).length = k) := by show _ = _; rw [List.length_take]; omega
      have z1' := (Z.out.alloc (.cells #[.int .i64 l[k].1, .int .i64 l[k].2] 69)).cell 1 rfl
      clear c1 c2 hg
      generalize l[k].1 = xa at *
      generalize l[k].2 = xo at *
      have hC0 : wr.ownsRow (w.heap.size + 3) 69 2 tv k (ccells (l.take k)) := by have h9 := C.out; unfold CR at h9; rw [HKL.out] at h9; exact h9
      have HC := Lib.hid hC0
      have hbs := hb.size
      clear hC0
      go_wp2_with fail
      go_region_law (refine step_append_lies _ rfl _ _ 50 rfl (w.heap.size + 3) 69 _ (.agg #[.int .i64 0, .int .i64 0]) 2 16 Try.underlying50 info69 z69 s69 b69 rfl (by decide) tv k (ccells (l.take k)) rfl (ownsRow_below HC.out ((bSelf wr (.cells #[.int .i64 xa, .int .i64 xo] 69)).drew)) ⟨wr.heap.size, 0, none⟩ 1 1 [_, _] rfl rfl (two_new wr _ _ 69) (by simp [Value.oneCell']) (by omega) (by unfold maxLen; omega) (by omega) (by simp; omega) _ rfl ?_; intro g2 cap2 w2 hown2 hgrow2 hat2 hlt2; have hk2 := Blk.grownC (w := (wr.alloc (.cells #[.int .i64 xa, .int .i64 xo] 69)).drew) (Z.out.alloc (.cells #[.int .i64 xa, .int .i64 xo] 69)) (C.out.below ((bSelf wr (.cells #[.int .i64 xa, .int .i64 xo] 69)).drew)) hgrow2 (by omega); have f3 := hk2.cell 1 rfl; have f4 := hk2.free 1)
      all_goals (
        have hCR : CR w2 (w.heap.size + 3) 69 (.slice (some ⟨g2, 0, none⟩) (k + 1) cap2) (l.take (k + 1)) := by
          unfold CR
          rw [HTK.out, List.length_append, HKL.out, ccells_snoc]
          exact hown2
        have hK2 := Blk.grownC (w := (wr.alloc (.cells #[.int .i64 xa, .int .i64 xo] 69)).drew) (K.out.alloc (.cells #[.int .i64 xa, .int .i64 xo] 69)) (C.out.below ((bSelf wr (.cells #[.int .i64 xa, .int .i64 xo] 69)).drew)) hgrow2 (by omega)
        have hR2 := Blk.grownC (w := (wr.alloc (.cells #[.int .i64 xa, .int .i64 xo] 69)).drew) (R.out.alloc (.cells #[.int .i64 xa, .int .i64 xo] 69)) (C.out.below ((bSelf wr (.cells #[.int .i64 xa, .int .i64 xo] 69)).drew)) hgrow2 (by omega)
        have hb2 := ((bAl hb (.cells #[.int .i64 xa, .int .i64 xo] 69)).drew).grown hgrow2 ((bAl hb (.cells #[.int .i64 xa, .int .i64 xo] 69)).drew).size (fun j hj => by have := C.out.own hj; omega)
        go_wp2_with fail
        go_roundw
        case rel => exact ⟨k + 1, _, by omega, by go_num, Lib.hid (hCR.setOther ⟨w.heap.size + 2, 1, none⟩ _ (by show w.heap.size + 2 < _; omega)), Lib.hid (hK2.setOther ⟨w.heap.size + 2, 1, none⟩ _ (by show w.heap.size ≠ w.heap.size + 2; omega)), Lib.hid (hR2.setOther ⟨w.heap.size + 2, 1, none⟩ _ (by show w.heap.size + 1 ≠ w.heap.size + 2; omega)), Lib.hid (hk2.set 1 _), bSet hb2 _ _ (by omega) _⟩
        case measure => simp [intOf]; omega)
    · have he : l.take k = l := List.take_of_length_le (by omega)
      have HCC : Hid (CR wr (w.heap.size + 3) 69 tv l) := by show CR _ _ _ _ _; have h9 := C.out; rw [he] at h9; exact h9
      have z0 := Z.out.cell 0 rfl
      have r0 := R.out.cell 0 rfl
      have r1 := R.out.cell 1 rfl
      have g0 := R.out.free 0
      have g1 := R.out.free 1
      have rl := R.out.lt
      clear he
      obtain ⟨ta, tc, rfl, _⟩ := CR.zr HCC.out (by omega)
      go_wp2
      refine bodyPost_ret (v := ZV off (.slice ta l.length tc)) ?r rfl ⟨_, rfl, ?z, ?b⟩
      case r => simp [results, Try.results23, go_sem, r0, r1]
      case z => exact CR.zr ((HCC.out.setOther ⟨w.heap.size + 1, 0, none⟩ _ (by show w.heap.size + 1 < _; omega)).setOther ⟨w.heap.size + 1, 1, none⟩ _ (by show w.heap.size + 1 < _; omega)) (by omega)
      case b => exact bSet (bSet hb _ _ (by omega) _) _ _ (by omega) _
end Go.Proofs.Ytojkkgmfccchbaa
