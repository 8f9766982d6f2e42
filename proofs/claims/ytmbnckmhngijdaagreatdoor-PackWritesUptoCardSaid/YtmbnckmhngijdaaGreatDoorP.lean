/- Contract of the writer's take. -/
import Derived.Test.YtmbnckmhngijdaaGreatDoorO
namespace Go.Proofs.YtmbnckmhngijdaaGreatDoor
open Go Go.RowKit

def Itm.str (x : Itm) : ByteArray := ⟨x.s.toArray⟩
/-- items in memory, below a block -/
def Its (B : Nat) (w : World) (v : Value) (xs : List Itm) : Prop :=
  ∃ p cap, v = .slice p xs.length cap ∧ xs.length ≤ 9223372036854775807 ∧ ∀ (k : Nat) (x : Itm), xs[k]? = some x → ∃ g off, p = some ⟨g, off, none⟩ ∧ g < B ∧
    w.cell? ⟨g, off + k * 3, none⟩ = some (.bool x.t) ∧ w.cell? ⟨g, off + k * 3 + 1, none⟩ = some (.int .i64 x.i) ∧ w.cell? ⟨g, off + k * 3 + 2, none⟩ = some (.string x.str)
theorem Its.below {B : Nat} {w w' : World} {v : Value} {xs : List Itm} (h : Its B w v xs) (hb : Below B w w') : Its B w' v xs := by
  obtain ⟨p, cap, h1, h2, h3⟩ := h
  refine ⟨p, cap, h1, h2, fun k x hx => ?_⟩
  obtain ⟨g, off, h4, h5, h6, h7, h8⟩ := h3 k x hx
  exact ⟨g, off, h4, h5, (hb.cell (p := ⟨g, _, none⟩) h5).trans h6, (hb.cell (p := ⟨g, _, none⟩) h5).trans h7, (hb.cell (p := ⟨g, _, none⟩) h5).trans h8⟩
theorem Its.mono {B B' : Nat} {w : World} {v : Value} {xs : List Itm} (h : Its B w v xs) (hB : B ≤ B') : Its B' w v xs := by
  obtain ⟨p, cap, h1, h2, h3⟩ := h
  refine ⟨p, cap, h1, h2, fun k x hx => ?_⟩
  obtain ⟨g, off, h4, h5, h6⟩ := h3 k x hx
  exact ⟨g, off, h4, Nat.lt_of_lt_of_le h5 hB, h6⟩
/-- items that are of a size -/
def ItsOk (xs : List Itm) : Prop := ∀ x ∈ xs, InInt x.i ∧ x.s.length ≤ 1100000
theorem addL_err {o b : List UInt8} {e : Nat} (h : addL o b = .error e) : e = 5 := by
  unfold addL at h; split at h
  · cases h; rfl
  · cases h
theorem sevL_len (m : Nat) : (sevL m).length ≤ 11 := by
  have := sevF_le 10 (m / 128)
  simp only [sevL, List.length_reverse, List.length_cons]; omega
theorem numB_len (d : Dir) (n : Int) : (numB d n).length ≤ 11 := by
  unfold numB
  have h1 := (utfL_pos n.toNat).2
  have h2 := sevL_len n.toNat
  have h3 := sizeC_le d.c
  repeat' split
  · omega
  · exact h2
  · rw [List.length_reverse, leL_length]; omega
  · rw [leL_length]; omega
theorem fillL_len (d : Dir) (s : List UInt8) : (fillL d s).length ≤ max (s.length + 1) d.n := by
  unfold fillL
  split
  · split
    · simp only [List.length_append, List.length_cons, List.length_nil]; omega
    · omega
  · split
    · split
      · simp only [List.length_append, List.length_cons, List.length_nil, List.length_take]; omega
      · simp only [List.length_take]; omega
    · simp only [List.length_append, List.length_replicate]; omega
theorem pairL_len (l : List Nat) : (pairL l).length = (l.length + 1) / 2 := by rw [pairL_N, List.length_map, pairN_length]
theorem itemL_len {d : Dir} {x : Itm} {b : List UInt8} (hd : d.Fine) (hx : x.s.length ≤ 1100000) (h : itemL d x = .ok b) : b.length ≤ 1200000 := by
  have hn := hd.n
  unfold itemL at h
  split at h
  · split at h
    · cases h
    · rename_i b' e
      cases h
      rw [hexB_N] at e
      unfold hexN at e
      cases hv : hexVs (x.s.take (if d.all then x.s.length else d.n)) with
      | none => rw [hv] at e; cases e
      | some v =>
        rw [hv] at e
        cases e
        have h1 := (hexVs_lt _ _ hv).1
        rw [pairL_len, List.length_append, List.length_replicate, h1, List.length_take]
        split <;> omega
  · split at h
    · split at h
      · cases h; have := numB_len d x.i; omega
      · cases h
    · cases h; have := fillL_len d x.s; omega
set_option maxRecDepth 100000 in
set_option maxHeartbeats 2000000 in
theorem t83 (B gw u : Nat) (iv bv : Value) (o : List UInt8) (xs : List Itm) (d : Dir) (w : World) (h : Wr w B gw iv u bv o) (hB : B ≤ w.heap.size) (hgw : gw < w.heap.size) (hI : Its B w iv xs) (hx : ItsOk xs) (hd : d.Fine) (h64 : d.c ≠ 64) (hu : u ≤ xs.length) :
    Calls Tryz.prog 83 #[.pointer (some ⟨gw, 0, none⟩), .agg #[.int .u8 d.c.toNat, .bool (numC d.c), .int .i64 (sizeC d.c), .bool d.great, .bool d.all, .int .i64 d.n]] w (WrR B gw iv (takeL xs d (o, u)) w) := by
  obtain ⟨p, cap, rfl, hxl, hI3⟩ := hI
  obtain ⟨h0, h1, h2⟩ := h.cells
  have hb0 := bSelf w (.cells #[.int .u8 d.c.toNat, .bool (numC d.c), .int .i64 (sizeC d.c), .bool d.great, .bool d.all, .int .i64 d.n] 81)
  have hk0 := Blk.new w #[.int .u8 d.c.toNat, .bool (numC d.c), .int .i64 (sizeC d.c), .bool d.great, .bool d.all, .int .i64 d.n] 81
  have HW := Lib.hid h
  have hxi : (xs.length : Int) ≤ 9223372036854775807 := by omega
  by_cases hend : u = xs.length
  · have HT : Hid (takeL xs d (o, u) = .error 14) := by
      show _ = _
      unfold takeL
      rw [show xs[(o, u).2]? = none from List.getElem?_eq_none (by omega)]
    have he : ((u : Int) == (xs.length : Int)) = true := by rw [hend]; exact beq_self_eq_true _
    have HI3 := Lib.hid hI3
    clear hI3 hend h hk0
    go_enter Tryz.func83, Tryz.ntmps83
    go_wp2
    go_quiet (fail)
    go_wp2
    go_ret
    exact WrR.bad 14 HT (by decide) ((Kp.of _ hb0).trans (Kp.of (fun _ => False) (below_drewN (Below.refl _ _) _)) (fun g hg => hg.elim))
  · have hlt : u < xs.length := by omega
    obtain ⟨x, hxu⟩ : ∃ x, xs[u]? = some x := ⟨xs[u], List.getElem?_eq_getElem hlt⟩
    have hxo := hx x (List.mem_of_getElem? hxu)
    have he : ((u : Int) == (xs.length : Int)) = false := by rw [beq_eq_false_iff_ne]; omega
    have hui : (u : Int) < xs.length := by omega
    obtain ⟨g, off, rfl, hg', c0, c1, c2⟩ := hI3 u x hxu
    have hg : g < w.heap.size := Nat.lt_of_lt_of_le hg' hB
    have HXU := Lib.hid hxu
    clear hI3 hend h hxu
    go_enter Tryz.func83, Tryz.ntmps83
    go_upto_region 1 with fail
    generalize w.alloc (.cells #[.int .u8 d.c.toNat, .bool (numC d.c), .int .i64 (sizeC d.c), .bool d.great, .bool d.all, .int .i64 d.n] 81) = W at *
    have c0 := below_cell hb0 c0
    have c1 := below_cell hb0 c1
    have c2 := below_cell hb0 c2
    have h0 := below_cell hb0 h0
    have h1 := below_cell hb0 h1
    have h2 := below_cell hb0 h2
    have hgw2 : gw < W.heap.size := Nat.lt_of_lt_of_le hgw hb0.size
    have hg2 : g < W.heap.size := Nat.lt_of_lt_of_le hg hb0.size
    have hgn : gw ≠ W.heap.size := by omega
    have hgn2 : g ≠ W.heap.size := by omega
    have HB0 := Lib.hid hb0
    have HK0 := Lib.hid hk0
    clear hb0 hk0
    go_quiet (fail)
    go_upto_region 3 with fail
    have kn : Blk ((W.drewN (nq + 1)).alloc (.cells #[.bool false, .int .i64 0, .string ⟨#[]⟩] 50)) W.heap.size 50 [.bool false, .int .i64 0, .string ⟨#[]⟩] := newAt _ _ _ _ _ rfl rfl
    have bX : Below W.heap.size W ((W.drewN (nq + 1)).alloc (.cells #[.bool false, .int .i64 0, .string ⟨#[]⟩] 50)) := (below_drewN (Below.refl _ W) (nq + 1)).alloc (Nat.le_refl _) _
    have n0 := kn.cell 0 rfl
    have n1 := kn.cell 1 rfl
    have n2 := kn.cell 2 rfl
    have f0 := kn.free 0
    have f1 := kn.free 1
    have f2 := kn.free 2
    have x0 := below_cell bX h0
    have x1 := below_cell bX h1
    have y0 := below_cell bX c0
    have y1 := below_cell bX c1
    have y2 := below_cell bX c2
    have KN := Lib.hid kn
    have BX := Lib.hid bX
    clear kn bX
    go_region
    have kn3 := ((KN.out.set 0 (.bool x.t)).set 1 (.int .i64 x.i)).set 2 (.string x.str)
    have b3 := bSet (bSet (bSet BX.out W.heap.size 0 (Nat.le_refl _) (.bool x.t)) W.heap.size 1 (Nat.le_refl _) (.int .i64 x.i)) W.heap.size 2 (Nat.le_refl _) (.string x.str)
    clear n0 n1 n2 f0 f1 f2 x0 x1 y0 y1 y2 KN BX c0 c1 c2 h0 h1 h2
    generalize ((((W.drewN (nq + 1)).alloc (.cells #[.bool false, .int .i64 0, .string ⟨#[]⟩] 50)).setCell ⟨W.heap.size, 0, none⟩ (.bool x.t)).setCell ⟨W.heap.size, 1, none⟩ (.int .i64 x.i)).setCell ⟨W.heap.size, 2, none⟩ (.string x.str) = W3 at *
    have k3 : Blk W3 W.heap.size 50 [.bool x.t, .int .i64 x.i, .string x.str] := kn3
    have kd := blkDown HK0.out b3
    have HB3 := Lib.hid (HB0.out.trans (b3.mono HB0.out.size))
    have HW3 : Hid (Wr W3 B gw (.slice (some ⟨g, off, none⟩) xs.length cap) u bv o) := ⟨blkDown HW.out.blk HB3.out, ownsRow_below HW.out.row HB3.out, HW.out.big⟩
    have HK3 := Lib.hid k3
    have HKD := Lib.hid kd
    have HGN := Lib.hid hgn
    have HGW : Hid (w.heap.size < W.heap.size) := HK0.out.lt
    obtain ⟨h0, h1, h2, h3, h4, h5⟩ := kd.six
    have i0 := k3.cell 0 rfl
    have i1 := k3.cell 1 rfl
    have i2 := k3.cell 2 rfl
    clear kn3 k3 kd b3 hgn hgn2 he
    cases hq : (x.t == numC d.c) with
    | true =>
      have HT : Hid (takeL xs d (o, u) = .error 1) := by
        show _ = _
        unfold takeL
        rw [show xs[(o, u).2]? = some x from HXU.out]
        dsimp only
        rw [if_pos (by simpa using hq)]
      go_wp2
      go_ret
      exact WrR.bad 1 HT (by decide) (Kp.of _ HB3.out)
    | false =>
      have HT : Hid (takeL xs d (o, u) = match itemL d x with | .error e => .error e | .ok b => (match addL o b with | .error e => .error e | .ok o' => .ok (o', u + 1))) := by
        show _ = _
        unfold takeL
        rw [show xs[(o, u).2]? = some x from HXU.out]
        dsimp only
        rw [if_neg (by simpa using hq)]
        rfl
      have w1 := HW3.out.blk.cell 1 rfl
      have fw := HW3.out.blk.free 1
      have hui2 : (u : Int) + 1 ≤ 9223372036854775807 := by omega
      go_upto_region 7 with fail
      have k4 := HW3.out.blk.set 1 (.int .i64 ((u : Int) + 1))
      have r4 : Hid ((W3.setCell ⟨gw, 1, none⟩ (.int .i64 ((u : Int) + 1))).ownsRow B 5 1 bv o.length (c8 o)) := (Kp.set W3 gw 1 _).row HW3.out.row (fun g' hg' e => by subst e; exact own_ne HW3.out.row HW3.out.blk (by decide) hg')
      have kp4 : Hid (Kp (WrS B gw w) w (W3.setCell ⟨gw, 1, none⟩ (.int .i64 ((u : Int) + 1)))) := (Kp.of _ HB3.out).trans (Kp.set W3 gw 1 _) (fun g hg => .inl (.inl hg))
      have kd4 := (Kp.set W3 gw 1 (.int .i64 ((u : Int) + 1))).blk HKD.out (by omega)
      have ki4 := (Kp.set W3 gw 1 (.int .i64 ((u : Int) + 1))).blk HK3.out (fun e => HGN.out e.symm)
      have hs4 : w.heap.size ≤ (W3.setCell ⟨gw, 1, none⟩ (.int .i64 ((u : Int) + 1))).heap.size := kp4.out.size
      generalize W3.setCell ⟨gw, 1, none⟩ (.int .i64 ((u : Int) + 1)) = W4 at *
      have HK4 : Hid (Blk W4 gw 74 [.slice (some ⟨g, off, none⟩) xs.length cap, .int .i64 ((u : Int) + 1), bv]) := k4
      clear h0 h1 h2 h3 h4 h5 i0 i1 i2 k4 w1 fw
      obtain ⟨h0, h1, h2, h3, h4, h5⟩ := kd4.six
      have i0 := ki4.cell 0 rfl
      have i1 := ki4.cell 1 rfl
      have i2 := ki4.cell 2 rfl
      clear kd4 ki4
      have C : ∀ W, Calls Tryz.prog 103 #[.agg #[.int .u8 d.c.toNat, .bool (numC d.c), .int .i64 (sizeC d.c), .bool d.great, .bool d.all, .int .i64 d.n], .agg #[.bool x.t, .int .i64 x.i, .string x.str]] W (ItemR (itemL d x) W) := fun W => t103 d x.t x.i x.str W hd h64 hxo.1 (Nat.le_trans hxo.2 (by omega))
      cases hit : itemL d x with
      | error e =>
        rw [hit] at C
        have HT2 : Hid (takeL xs d (o, u) = .error e) := by show _ = _; rw [HT.out, hit]
        clear hit
        go_wp2_with fail
        refine (C _).mono ?_
        rintro e5 W5 ⟨hb5, rfl, he5⟩
        have HE5 := Lib.hid he5
        have he6 : ((e : Int) == 0) = false := by rw [beq_eq_false_iff_ne]; omega
        have he7 : ((e : Int) != 0) = true := by simp only [bne, he6, Bool.not_false]
        have HB5 := Lib.hid hb5
        clear hb5 he5
        go_wp2
        go_ret
        exact WrR.bad e HT2 HE5.out (kp4.out.trans (Kp.of (fun _ => False) HB5.out) (fun g hg => hg.elim))
      | ok b =>
        rw [hit] at C
        have HT2 : Hid (takeL xs d (o, u) = stOf (addL o b) (u + 1)) := by
          show _ = _; rw [HT.out, hit]; dsimp only; unfold stOf; cases addL o b <;> rfl
        have HLN := Lib.hid (itemL_len hd hxo.2 hit)
        clear hit
        go_wp2_with fail
        refine (C _).mono ?_
        rintro e5 W5 ⟨hb5, g5, c5, rfl, hr5, hg5⟩
        have hbl : b.length ≤ 1200000 := HLN.out
        have HW5 : Wr W5 B gw (.slice (some ⟨g, off, none⟩) xs.length cap) (u + 1) bv o := ⟨blkDown HK4.out hb5, ownsRow_below r4.out hb5, HW3.out.big⟩
        have C80 := t80 B gw (u + 1) g5 b.length c5 _ bv o b W5 HW5 (by have := hb5.size; omega) rfl hr5 hbl
        rw [← HT2.out] at C80
        have HC := Lib.hid C80
        have HK5 : Hid (Kp (WrS B gw w) w W5) := kp4.out.trans (Kp.of (fun _ => False) hb5) (fun g hg => hg.elim)
        clear C80 HW5 hr5 hb5 hbl
        go_wp2_with fail
        refine HC.out.mono ?_
        rintro e6 W6 ⟨hk6, hr6⟩
        have HK6 : Hid (Kp (WrS B gw w) w W6) := WrS.trans HK5.out hk6
        clear hk6
        cases hres : takeL xs d (o, u) with
        | error y =>
          rw [hres] at hr6
          obtain ⟨rfl, hy⟩ := hr6
          have HR := Lib.hid hres
          clear hres
          go_wp2
          go_ret
          rw [HR.out]
          exact ⟨HK6.out, rfl, hy⟩
        | ok st =>
          rw [hres] at hr6
          obtain ⟨rfl, bv', hw6⟩ := hr6
          have HR := Lib.hid hres
          have HW6 := Lib.hid hw6
          clear hres hw6
          go_wp2
          go_ret
          rw [HR.out]
          exact ⟨HK6.out, rfl, bv', HW6.out⟩
end Go.Proofs.YtmbnckmhngijdaaGreatDoor
