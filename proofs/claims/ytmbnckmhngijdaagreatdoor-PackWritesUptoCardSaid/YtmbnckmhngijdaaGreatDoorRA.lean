/- Contracts of the reader's follow, of read and Unpack. -/
import Derived.Test.YtmbnckmhngijdaaGreatDoorZ
namespace Go.Proofs.YtmbnckmhngijdaaGreatDoor
open Go Go.RowKit

theorem stepR_x {s : List UInt8} {d : Dir} {p : Nat} {xs : List Itm} (h : d.c = 120) : stepR chrP s d (p, xs) = if s.length < p + d.n then .error 14 else .ok (p + d.n, xs) := by
  unfold stepR; rw [if_pos h]
theorem stepR_at {s : List UInt8} {d : Dir} {p : Nat} {xs : List Itm} (h : d.c = 64) : stepR chrP s d (p, xs) = if s.length < d.n then .error 14 else .ok (d.n, xs) := by
  unfold stepR; rw [if_neg (by rw [h]; decide), if_pos h]
theorem stepR_num {s : ByteArray} {d : Dir} {p : Nat} {xs : List Itm} (h1 : d.c ≠ 120) (h2 : d.c ≠ 64) (h : numC d.c = true) : stepR chrP s.data.toList d (p, xs) = numbersR chrP s.data.toList d (numF d s) (p, xs) := by
  unfold stepR; rw [if_neg h1, if_neg h2, if_pos h]; rfl
theorem stepR_txt {s : List UInt8} {d : Dir} {p : Nat} {xs : List Itm} (h1 : d.c ≠ 120) (h2 : d.c ≠ 64) (h : numC d.c = false) : stepR chrP s d (p, xs) = .ok (p + (textR d (s.drop p)).2, xs ++ [⟨true, 0, (textR d (s.drop p)).1⟩]) := by
  unfold stepR; rw [if_neg h1, if_neg h2, if_neg (by rw [h]; decide)]
theorem stepR_len {s : ByteArray} {d : Dir} {p : Nat} {xs : List Itm} (hs : s.size ≤ 1000000) (hd : d.n ≤ 1000) (st : Rt) (h : stepR chrP s.data.toList d (p, xs) = .ok st) : st.2.length ≤ xs.length + 1000001 := by
  by_cases h1 : d.c = 120
  · rw [stepR_x h1] at h
    split at h
    · cases h
    · cases h; simp only; omega
  by_cases h2 : d.c = 64
  · rw [stepR_at h2] at h
    split at h
    · cases h
    · cases h; simp only; omega
  cases hc : numC d.c with
  | true =>
    rw [stepR_num h1 h2 hc] at h
    have := numbersR_len _ _ _ h
    have hf : numF d s ≤ 1000001 := by unfold numF; split <;> omega
    simp only at this; omega
  | false =>
    rw [stepR_txt h1 h2 hc] at h
    cases h
    simp only [List.length_append, List.length_cons, List.length_nil]; omega
set_option maxRecDepth 100000 in
set_option maxHeartbeats 2000000 in
theorem t47_x (B gr p : Nat) (iv : Value) (xs : List Itm) (s : ByteArray) (d : Dir) (w : World) (_hG : Gl w) (_h5 : 5 ≤ B) (h : Rs w B gr s p iv xs) (_hB : B ≤ gr) (hs : s.size ≤ 1000000) (hd : d.n ≤ 1000) (_hx : xs.length ≤ 60000000) (hc : d.c = 120) :
    Calls Tryz.prog 47 #[.pointer (some ⟨gr, 0, none⟩), .agg #[.int .u8 d.c.toNat, .bool (numC d.c), .int .i64 (sizeC d.c), .bool d.great, .bool d.all, .int .i64 d.n]] w (RdR B gr s (stepR chrP s.data.toList d (p, xs)) w) := by
  have hgw := h.blk.lt
  have hpl := h.place
  have hsl : s.data.toList.length = s.size := rfl
  have hb0 := bSelf w (.cells #[.int .u8 d.c.toNat, .bool (numC d.c), .int .i64 (sizeC d.c), .bool d.great, .bool d.all, .int .i64 d.n] 81)
  have hk0 := Blk.new w #[.int .u8 d.c.toNat, .bool (numC d.c), .int .i64 (sizeC d.c), .bool d.great, .bool d.all, .int .i64 d.n] 81
  have hni : (d.n : Int) ≤ 1000 := by omega
  have hpi : (p : Int) ≤ 1000000 := by omega
  have d1 := u8_eq (n := 120) (k := 120) rfl hc
  obtain ⟨q, hq⟩ : ∃ q, p + d.n = q := ⟨_, rfl⟩
  have hsum : IntKind.i64.wrap ((p : Int) + d.n) = (q : Int) := by rw [IntWalk.i64_in _ (by omega)]; omega
  have HST : Hid (stepR chrP s.data.toList d (p, xs) = if s.size < q then .error 14 else .ok (q, xs)) := by show _ = _; rw [stepR_x hc, hq, hsl]
  have HW := Lib.hid h
  clear h hq hc
  by_cases hlt : s.size < q
  · have HE : Hid (stepR chrP s.data.toList d (p, xs) = .error 14) := by show _ = _; rw [HST.out, if_pos hlt]
    have C := fun W h => t70_bad B gr p q iv xs s W h hlt
    clear hlt
    go_enter Tryz.func47, Tryz.ntmps47
    go_upto_region 2 with fail
    generalize w.alloc (.cells #[.int .u8 d.c.toNat, .bool (numC d.c), .int .i64 (sizeC d.c), .bool d.great, .bool d.all, .int .i64 d.n] 81) = W at *
    have HB0 := Lib.hid hb0
    have HR0 : Hid (Rs W.drew B gr s p iv xs) := HW.out.below hb0.drew
    obtain ⟨_, h1, _⟩ := (HW.out.below hb0).cells
    obtain ⟨_, _, _, _, _, d5⟩ := hk0.six
    clear hk0 hb0
    go_region_law
      (first
        | (go_simp; go_at_call 70; (with_reducible refine (C _ HR0.out).mono ?_); rintro e w1 ⟨rfl, rfl⟩))
    all_goals (
      go_wp2
      go_ret
      exact RdR.bad HE (by decide) (Kp.of _ HB0.out.drew))
  · have HE : Hid (stepR chrP s.data.toList d (p, xs) = .ok (q, xs)) := by show _ = _; rw [HST.out, if_neg hlt]
    have C := fun W h => t70_good B gr p q iv xs s W h (by omega)
    clear hlt
    go_enter Tryz.func47, Tryz.ntmps47
    go_upto_region 2 with fail
    generalize w.alloc (.cells #[.int .u8 d.c.toNat, .bool (numC d.c), .int .i64 (sizeC d.c), .bool d.great, .bool d.all, .int .i64 d.n] 81) = W at *
    have HB0 := Lib.hid hb0
    have HR0 : Hid (Rs W.drew B gr s p iv xs) := HW.out.below hb0.drew
    obtain ⟨_, h1, _⟩ := (HW.out.below hb0).cells
    obtain ⟨_, _, _, _, _, d5⟩ := hk0.six
    clear hk0 hb0
    go_region_law
      (first
        | (go_simp; go_at_call 70; (with_reducible refine (C _ HR0.out).mono ?_); rintro e w1 ⟨rfl, hk1, hr1⟩))
    all_goals (
      go_wp2
      go_ret
      exact RdR.good HE (RsS.trans (Kp.of _ HB0.out.drew) hk1) hr1)
set_option maxRecDepth 100000 in
set_option maxHeartbeats 2000000 in
theorem t47_at (B gr p : Nat) (iv : Value) (xs : List Itm) (s : ByteArray) (d : Dir) (w : World) (_hG : Gl w) (_h5 : 5 ≤ B) (h : Rs w B gr s p iv xs) (_hB : B ≤ gr) (hs : s.size ≤ 1000000) (hd : d.n ≤ 1000) (_hx : xs.length ≤ 60000000) (hc : d.c = 64) :
    Calls Tryz.prog 47 #[.pointer (some ⟨gr, 0, none⟩), .agg #[.int .u8 d.c.toNat, .bool (numC d.c), .int .i64 (sizeC d.c), .bool d.great, .bool d.all, .int .i64 d.n]] w (RdR B gr s (stepR chrP s.data.toList d (p, xs)) w) := by
  have hgw := h.blk.lt
  have hpl := h.place
  have hsl : s.data.toList.length = s.size := rfl
  have hb0 := bSelf w (.cells #[.int .u8 d.c.toNat, .bool (numC d.c), .int .i64 (sizeC d.c), .bool d.great, .bool d.all, .int .i64 d.n] 81)
  have hk0 := Blk.new w #[.int .u8 d.c.toNat, .bool (numC d.c), .int .i64 (sizeC d.c), .bool d.great, .bool d.all, .int .i64 d.n] 81
  have hni : (d.n : Int) ≤ 1000 := by omega
  have hpi : (p : Int) ≤ 1000000 := by omega
  have d1 := u8_ne (n := 120) (k := 120) rfl (show d.c ≠ 120 by rw [hc]; decide)
  have d2 := u8_eq (n := 64) (k := 64) rfl hc
  have HST : Hid (stepR chrP s.data.toList d (p, xs) = if s.size < d.n then .error 14 else .ok (d.n, xs)) := by show _ = _; rw [stepR_at hc, hsl]
  have HW := Lib.hid h
  clear h  hc
  by_cases hlt : s.size < d.n
  · have HE : Hid (stepR chrP s.data.toList d (p, xs) = .error 14) := by show _ = _; rw [HST.out, if_pos hlt]
    have C := fun W h => t70_bad B gr p d.n iv xs s W h hlt
    clear hlt
    go_enter Tryz.func47, Tryz.ntmps47
    go_upto_region 4 with fail
    generalize w.alloc (.cells #[.int .u8 d.c.toNat, .bool (numC d.c), .int .i64 (sizeC d.c), .bool d.great, .bool d.all, .int .i64 d.n] 81) = W at *
    have HB0 := Lib.hid hb0
    have HR0 : Hid (Rs W B gr s p iv xs) := HW.out.below hb0
    obtain ⟨_, _, _, _, _, d5⟩ := hk0.six
    clear hk0 hb0
    go_wp2_with fail
    refine (C _ HR0.out).mono ?_
    rintro e w1 ⟨rfl, rfl⟩
    (
      go_wp2
      go_ret
      exact RdR.bad HE (by decide) (Kp.of _ HB0.out))
  · have HE : Hid (stepR chrP s.data.toList d (p, xs) = .ok (d.n, xs)) := by show _ = _; rw [HST.out, if_neg hlt]
    have C := fun W h => t70_good B gr p d.n iv xs s W h (by omega)
    clear hlt
    go_enter Tryz.func47, Tryz.ntmps47
    go_upto_region 4 with fail
    generalize w.alloc (.cells #[.int .u8 d.c.toNat, .bool (numC d.c), .int .i64 (sizeC d.c), .bool d.great, .bool d.all, .int .i64 d.n] 81) = W at *
    have HB0 := Lib.hid hb0
    have HR0 : Hid (Rs W B gr s p iv xs) := HW.out.below hb0
    obtain ⟨_, _, _, _, _, d5⟩ := hk0.six
    clear hk0 hb0
    go_wp2_with fail
    refine (C _ HR0.out).mono ?_
    rintro e w1 ⟨rfl, hk1, hr1⟩
    (
      go_wp2
      go_ret
      exact RdR.good HE (RsS.trans (Kp.of _ HB0.out) hk1) hr1)
set_option maxRecDepth 100000 in
set_option maxHeartbeats 2000000 in
theorem t47_num (B gr p : Nat) (iv : Value) (xs : List Itm) (s : ByteArray) (d : Dir) (w : World) (hG : Gl w) (h5 : 5 ≤ B) (h : Rs w B gr s p iv xs) (hB : B ≤ gr) (hs : s.size ≤ 1000000) (hd : d.n ≤ 1000) (hx : xs.length ≤ 60000000) (h120 : d.c ≠ 120) (h64 : d.c ≠ 64) (hc : numC d.c = true) :
    Calls Tryz.prog 47 #[.pointer (some ⟨gr, 0, none⟩), .agg #[.int .u8 d.c.toNat, .bool true, .int .i64 (sizeC d.c), .bool d.great, .bool d.all, .int .i64 d.n]] w (RdR B gr s (stepR chrP s.data.toList d (p, xs)) w) := by
  have hgw := h.blk.lt
  have hpl := h.place
  have hsl : s.data.toList.length = s.size := rfl
  have hb0 := bSelf w (.cells #[.int .u8 d.c.toNat, .bool true, .int .i64 (sizeC d.c), .bool d.great, .bool d.all, .int .i64 d.n] 81)
  have hk0 := Blk.new w #[.int .u8 d.c.toNat, .bool true, .int .i64 (sizeC d.c), .bool d.great, .bool d.all, .int .i64 d.n] 81
  have d1 := u8_ne (n := 120) (k := 120) rfl h120
  have d2 := u8_ne (n := 64) (k := 64) rfl h64
  have HST : Hid (stepR chrP s.data.toList d (p, xs) = numbersR chrP s.data.toList d (numF d s) (p, xs)) := stepR_num h120 h64 hc
  have C : ∀ W, Gl W → Rs W B gr s p iv xs → Calls Tryz.prog 71 #[.pointer (some ⟨gr, 0, none⟩), .agg #[.int .u8 d.c.toNat, .bool true, .int .i64 (sizeC d.c), .bool d.great, .bool d.all, .int .i64 d.n]] W (RdR B gr s (numbersR chrP s.data.toList d (numF d s) (p, xs)) W) := by
    intro W hGW hR
    cases hal : d.all with
    | true => have := t71_true B gr p iv xs s d W hGW h5 hR hB hs hd hc hal hx; exact this
    | false => have := t71_false B gr p iv xs s d W hGW h5 hR hB hs hd hc hal hx; exact this
  rw [← HST.out] at C
  obtain ⟨R, hR⟩ : ∃ R, stepR chrP s.data.toList d (p, xs) = R := ⟨_, rfl⟩
  rw [hR] at C ⊢
  have HW := Lib.hid h
  have HG := Lib.hid hG
  have HC := Lib.hid C
  clear h hG h120 h64 hc HST hR C
  go_enter Tryz.func47, Tryz.ntmps47
  go_upto_region 5 with fail
  generalize w.alloc (.cells #[.int .u8 d.c.toNat, .bool true, .int .i64 (sizeC d.c), .bool d.great, .bool d.all, .int .i64 d.n] 81) = W at *
  have HB0 := Lib.hid hb0
  obtain ⟨d0, d1', d2', d3', d4, d5⟩ := hk0.six
  have HGW := Lib.hid (HG.out.below hb0)
  have HRW := Lib.hid (HW.out.below hb0)
  clear hk0 hb0
  go_wp2_with fail
  refine (HC.out _ HGW.out HRW.out).mono ?_
  rintro e w1 ⟨hk1, hr1⟩
  have HK1 := Lib.hid (RsS.trans (Kp.of _ HB0.out) hk1)
  clear hk1
  cases R with
  | error y =>
    obtain ⟨rfl, hy⟩ := hr1
    have HY := Lib.hid hy
    clear hy
    go_wp2
    go_ret
    exact ⟨HK1.out, rfl, HY.out⟩
  | ok st =>
    obtain ⟨rfl, hr2⟩ := hr1
    have HR2 := Lib.hid hr2
    clear hr2
    go_wp2
    go_ret
    exact ⟨HK1.out, rfl, HR2.out⟩
set_option maxRecDepth 100000 in
set_option maxHeartbeats 2000000 in
theorem t47_txt (B gr p : Nat) (iv : Value) (xs : List Itm) (s : ByteArray) (d : Dir) (w : World) (hG : Gl w) (h5 : 5 ≤ B) (h : Rs w B gr s p iv xs) (hB : B ≤ gr) (hs : s.size ≤ 1000000) (hd : d.n ≤ 1000) (hx : xs.length ≤ 60000000) (h120 : d.c ≠ 120) (h64 : d.c ≠ 64) (hc : numC d.c = false) :
    Calls Tryz.prog 47 #[.pointer (some ⟨gr, 0, none⟩), .agg #[.int .u8 d.c.toNat, .bool false, .int .i64 (sizeC d.c), .bool d.great, .bool d.all, .int .i64 d.n]] w (RdR B gr s (stepR chrP s.data.toList d (p, xs)) w) := by
  have hgw := h.blk.lt
  have hpl := h.place
  have hsl : s.data.toList.length = s.size := rfl
  have hb0 := bSelf w (.cells #[.int .u8 d.c.toNat, .bool false, .int .i64 (sizeC d.c), .bool d.great, .bool d.all, .int .i64 d.n] 81)
  have hk0 := Blk.new w #[.int .u8 d.c.toNat, .bool false, .int .i64 (sizeC d.c), .bool d.great, .bool d.all, .int .i64 d.n] 81
  have d1 := u8_ne (n := 120) (k := 120) rfl h120
  have d2 := u8_ne (n := 64) (k := 64) rfl h64
  have HST : Hid (stepR chrP s.data.toList d (p, xs) = .ok (p + (textR d (s.data.toList.drop p)).2, xs ++ [⟨true, 0, (textR d (s.data.toList.drop p)).1⟩])) := stepR_txt h120 h64 hc
  have C : ∀ W, Gl W → Rs W B gr s p iv xs → Calls Tryz.prog 72 #[.pointer (some ⟨gr, 0, none⟩), .agg #[.int .u8 d.c.toNat, .bool false, .int .i64 (sizeC d.c), .bool d.great, .bool d.all, .int .i64 d.n]] W (TkT B gr s (textR d (s.data.toList.drop p)) p xs W) := by
    intro W hGW hR
    by_cases h72 : d.c = 72
    · exact t72_hex B gr p iv xs s d W hGW h5 hR hB hs hd hx h72
    · exact t72_txt B gr p iv xs s d W hGW h5 hR hB hs hd hx h72
  generalize textR d (s.data.toList.drop p) = R at *
  have HW := Lib.hid h
  have HG := Lib.hid hG
  have HC := Lib.hid C
  clear h hG h120 h64 hc C
  go_enter Tryz.func47, Tryz.ntmps47
  go_upto_region 5 with fail
  generalize w.alloc (.cells #[.int .u8 d.c.toNat, .bool false, .int .i64 (sizeC d.c), .bool d.great, .bool d.all, .int .i64 d.n] 81) = W at *
  have HB0 := Lib.hid hb0
  obtain ⟨d0, d1', d2', d3', d4, d5⟩ := hk0.six
  have HGW := Lib.hid (HG.out.below hb0)
  have HRW := Lib.hid (HW.out.below hb0)
  clear hk0 hb0
  go_wp2_with fail
  refine (HC.out _ HGW.out HRW.out).mono ?_
  rintro e w1 ⟨rfl, hk1, iv1, hr1⟩
  have HK1 := Lib.hid (RsS.trans (Kp.of _ HB0.out) hk1)
  have HR1 := Lib.hid hr1
  clear hk1 hr1
  go_wp2
  go_ret
  exact RdR.good HST HK1.out HR1.out
theorem t47 (B gr p : Nat) (iv : Value) (xs : List Itm) (s : ByteArray) (d : Dir) (w : World) (hG : Gl w) (h5 : 5 ≤ B) (h : Rs w B gr s p iv xs) (hB : B ≤ gr) (hs : s.size ≤ 1000000) (hd : d.n ≤ 1000) (hx : xs.length ≤ 60000000) :
    Calls Tryz.prog 47 #[.pointer (some ⟨gr, 0, none⟩), .agg #[.int .u8 d.c.toNat, .bool (numC d.c), .int .i64 (sizeC d.c), .bool d.great, .bool d.all, .int .i64 d.n]] w (RdR B gr s (stepR chrP s.data.toList d (p, xs)) w) := by
  by_cases h120 : d.c = 120
  · exact t47_x B gr p iv xs s d w hG h5 h hB hs hd hx h120
  by_cases h64 : d.c = 64
  · exact t47_at B gr p iv xs s d w hG h5 h hB hs hd hx h64
  cases hc : numC d.c with
  | true => have := t47_num B gr p iv xs s d w hG h5 h hB hs hd hx h120 h64 hc; exact this
  | false => have := t47_txt B gr p iv xs s d w hG h5 h hB hs hd hx h120 h64 hc; exact this

/-- what read tells -/
def ReadE (r : Except Nat Rt) (w : World) (e : Ending) (w' : World) : Prop :=
  Below w.heap.size w w' ∧
  match r with
  | .error x => e = .returned (.tuple #[.slice none 0 0, .int .i64 x]) ∧ x ≠ 0
  | .ok st => ∃ v, e = .returned (.tuple #[v, .int .i64 0]) ∧ Is w' w.heap.size v st.2
theorem ReadE.bad {r : Except Nat Rt} {w w' : World} {x : Nat} (h : Hid (r = .error x)) (hx : x ≠ 0) (hb : Below w.heap.size w w') : ReadE r w (.returned (.tuple #[.slice none 0 0, .int .i64 x])) w' := by
  unfold ReadE; rw [h.out]; exact ⟨hb, rfl, hx⟩
theorem ReadE.good {r : Except Nat Rt} {w w' : World} {st : Rt} {v : Value} (h : Hid (r = .ok st)) (hb : Below w.heap.size w w') (hd : Is w' w.heap.size v st.2) : ReadE r w (.returned (.tuple #[v, .int .i64 0])) w' := by
  unfold ReadE; rw [h.out]; exact ⟨hb, v, rfl, hd⟩
def LoopRd (B gr : Nat) (s : ByteArray) (ds : List Dir) (W : World) (i : Value) (wr : World) : Prop :=
  ∃ (j p : Nat) (iv : Value) (xs : List Itm), j ≤ ds.length ∧ i = .int .i64 j ∧ xs.length ≤ j * 1000001 ∧ Hid (Rs wr B gr s p iv xs) ∧ Hid (runR chrP s.data.toList (ds.drop j) (p, xs) = runR chrP s.data.toList ds (0, [])) ∧ Hid (Kp (RsS B gr W) W wr)
theorem RsS.notRow {w : World} {B B' gr g n size : Nat} {e t : TypeId} {v : Value} {xs cs : List Value} (h : w.ownsRow B' e size v n xs) (hk : Blk w gr t cs) (hne : e ≠ 50 ∧ e ≠ t) (hg : v.ownBlock = some g) : ¬ RsS B gr w g := by
  rcases h.2 with ⟨rfl, _⟩ | ⟨g', cap, cur, rfl, _, h2, _⟩
  · simp [Value.ownBlock] at hg
  · simp [Value.ownBlock] at hg
    subst hg
    have hb : Blk w g' e cur.toList := by simpa [Blk] using h2
    exact RsS.not hb hne.1 (fun e' => by
      subst e'
      have h3 := h2.symm.trans hk
      simp at h3
      exact hne.2 h3.2)
set_option maxRecDepth 100000 in
set_option maxHeartbeats 4000000 in
theorem t31 (f s : ByteArray) (w : World) (hG : Gl w) (hf : f.size ≤ 100000) (hs : s.size ≤ 1000000) :
    Calls Tryz.prog 31 #[.string f, .string s] w (ReadE (readR chrP f.data.toList s.data.toList) w) := by
  have C45 := t45 f w hG hf
  have HG := Lib.hid hG
  have h5 := hG.lt
  have HC45 := Lib.hid C45
  clear C45 hG
  go_enter Tryz.func31, Tryz.ntmps31
  go_wp2_with fail
  refine HC45.out.mono ?_
  rintro e1 w1 ⟨hb1, hr1⟩
  have HB1 := Lib.hid hb1
  clear HC45 hb1
  cases hfo : formL f.data.toList with
  | none =>
    rw [hfo] at hr1
    obtain rfl := hr1
    have HP : Hid (readR chrP f.data.toList s.data.toList = .error 4) := by show _ = _; unfold readR; rw [hfo]
    clear hfo
    go_wp2
    go_ret2
    exact ReadE.bad HP (by decide) HB1.out
  | some ds =>
    rw [hfo] at hr1
    obtain ⟨v, rfl, hds⟩ := hr1
    obtain ⟨al, cl, rfl⟩ := row_slice hds
    obtain ⟨hdl, hdok⟩ := formL_ok hfo
    have HP : Hid (readR chrP f.data.toList s.data.toList = runR chrP s.data.toList ds (0, [])) := by show _ = _; unfold readR; rw [hfo]
    have HDOK := Lib.hid hdok
    have HDS := Lib.hid hds
    clear hfo hds hdok
    go_upto_region 5 with fail
    have hk2 := Blk.new w1 #[.string s, .int .i64 0, .slice none 0 0] 92
    have hb2 := bSelf w1 (.cells #[.string s, .int .i64 0, .slice none 0 0] 92)
    have hgw : w.heap.size ≤ w1.heap.size := HB1.out.size
    obtain ⟨gw, hgwe⟩ : ∃ gw, w1.heap.size = gw := ⟨_, rfl⟩
    rw [hgwe] at hk2 hgw ⊢
    generalize w1.alloc (.cells #[.string s, .int .i64 0, .slice none 0 0] 92) = W2 at *
    clear hgwe
    have hBW := Lib.hid (bThen HB1.out hb2)
    have HDS2 : Hid (Ds W2 w.heap.size (.slice al ds.length cl) ds) := ownsRow_below HDS.out hb2
    have HKW := Lib.hid hk2
    have hw0 : Hid (Rs W2 w.heap.size gw s 0 (.slice none 0 0) []) := ⟨hk2, World.ownsRow_nil _ _ _ _, Nat.zero_le _⟩
    have HNR := Lib.hid (fun g hg => RsS.notRow (B := w.heap.size) (g := g) HDS2.out hk2 (by decide) hg)
    have hgw2 : gw < W2.heap.size := hk2.lt
    have hdli : (ds.length : Int) ≤ 50 := by omega
    clear hb2 hk2 HDS HB1
    go_wp2_with fail
    go_loopw [23] (fun i wr => LoopRd w.heap.size gw s ds W2 i wr) (fun i _ => ds.length - (intOf i).toNat)
    case atStart => exact ⟨0, 0, .slice none 0 0, [], Nat.zero_le _, rfl, by simp, hw0, rfl, Kp.refl _ _⟩
    case round =>
      obtain ⟨j, p, iv, xs, hj, rfl, hxl, hw, hrun, hkp⟩ := hrel
      obtain ⟨ai, ci, rfl⟩ := row_slice hw.out.row
      by_cases hlt : j < ds.length
      · have hlti : (j : Int) < ds.length := by omega
        obtain ⟨d, hd⟩ : ∃ d, ds[j]? = some d := ⟨ds[j], List.getElem?_eq_getElem hlt⟩
        have hdsr : Ds wr w.heap.size (.slice al ds.length cl) ds := hkp.out.row HDS2.out HNR.out
        obtain ⟨gl, cl', hsl, hgl, hcl⟩ := hdsr.cell hd
        simp only [Value.slice.injEq] at hsl
        obtain ⟨rfl, _, rfl⟩ := hsl
        have e0 : wr.cell? ⟨gl, j * 6, none⟩ = some (.int .u8 d.c.toNat) := hcl 0 _ rfl
        have e1 := hcl 1 _ rfl
        have e2 := hcl 2 _ rfl
        have e3 := hcl 3 _ rfl
        have e4 := hcl 4 _ rfl
        have e5 := hcl 5 _ rfl
        have hdf := (HDOK.out d (List.mem_of_getElem? hd)).fine
        have hdrop : ds.drop j = d :: ds.drop (j + 1) := by
          rw [List.drop_eq_getElem_cons hlt]; congr 1
          have := List.getElem?_eq_getElem hlt
          rw [hd] at this; exact (Option.some.inj this).symm
        have hr2 := hrun.out
        rw [hdrop] at hr2
        have HR2 : Hid ((match stepR chrP s.data.toList d (p, xs) with | .error e => .error e | .ok st' => runR chrP s.data.toList (ds.drop (j + 1)) st') = runR chrP s.data.toList ds (0, [])) := hr2
        clear hr2 hdrop hd hdsr hcl hgl
        go_upto_region 8 with fail
        have hb3 := bSelf wr (.cells #[.int .u8 d.c.toNat, .bool (numC d.c), .int .i64 (sizeC d.c), .bool d.great, .bool d.all, .int .i64 d.n] 81)
        have hk3 := Blk.new wr #[.int .u8 d.c.toNat, .bool (numC d.c), .int .i64 (sizeC d.c), .bool d.great, .bool d.all, .int .i64 d.n] 81
        generalize wr.alloc (.cells #[.int .u8 d.c.toNat, .bool (numC d.c), .int .i64 (sizeC d.c), .bool d.great, .bool d.all, .int .i64 d.n] 81) = W3 at *
        obtain ⟨d0, d1, d2, d3, d4, d5⟩ := hk3.six
        have HK3 : Hid (Kp (RsS w.heap.size gw W2) W2 W3) := RsS.trans hkp.out (Kp.of _ hb3)
        have HW3 := Lib.hid (hw.out.below hb3)
        have hBB : Below w.heap.size w W3 := hBW.out.trans (HK3.out.below (fun g hg => RsS.ge (by omega) hg) (by have := hBW.out.size; omega))
        have hj50 : j * 1000001 ≤ 50000050 := by omega
        have C := t47 w.heap.size gw p _ xs s d W3 (HG.out.belowB h5 hBB) h5 HW3.out (by omega) hs hdf.n (by omega)
        have HC := Lib.hid C
        have HUS := Lib.hid (stepR_len (s := s) (d := d) (p := p) (xs := xs) hs hdf.n)
        clear C hb3 hk3 hBB e0 e1 e2 e3 e4 e5 hw
        go_wp2_with fail
        refine HC.out.mono ?_
        rintro e2 w2 ⟨hk2, hr2⟩
        have HK4 : Hid (Kp (RsS w.heap.size gw W2) W2 w2) := RsS.trans HK3.out hk2
        clear hk2
        cases hres : stepR chrP s.data.toList d (p, xs) with
        | error y =>
          rw [hres] at hr2 HR2
          obtain ⟨rfl, hy⟩ := hr2
          have HP2 : Hid (readR chrP f.data.toList s.data.toList = .error y) := by show _ = _; rw [HP.out]; exact HR2.out.symm
          have hyy : ((y : Int) == 0) = false := by rw [beq_eq_false_iff_ne]; omega
          have hyn : ((y : Int) != 0) = true := by simp only [bne, hyy, Bool.not_false]
          have HY := Lib.hid hy
          have HB4 := Lib.hid (hBW.out.trans (HK4.out.below (fun g hg => RsS.ge (by omega) hg) (by have := hBW.out.size; omega)))
          clear hres hy HR2
          go_wp2
          go_ret2
          exact ReadE.bad HP2 HY.out HB4.out
        | ok st =>
          rw [hres] at hr2 HR2
          obtain ⟨rfl, iv2, hw2⟩ := hr2
          have hus := HUS.out st hres
          have HW2 := Lib.hid hw2
          clear hres hw2
          go_wp2
          go_roundw
          case rel => exact ⟨j + 1, st.1, iv2, st.2, by omega, by go_num, by omega, HW2, HR2, HK4⟩
          case measure => simp [intOf]; omega
      · obtain rfl : ds.length = j := by omega
        have hr2 := hrun.out
        rw [List.drop_length] at hr2
        have HP2 : Hid (readR chrP f.data.toList s.data.toList = .ok (p, xs)) := by show _ = _; rw [HP.out]; exact hr2.symm
        have HB4 := Lib.hid (hBW.out.trans (hkp.out.below (fun g hg => RsS.ge (by omega) hg) (by have := hBW.out.size; omega)))
        obtain ⟨x0, x1, x2⟩ := hw.out.cells
        clear hr2 hlt
        go_wp2
        go_ret2
        exact ReadE.good HP2 HB4.out hw.out.row
set_option maxRecDepth 100000 in
set_option maxHeartbeats 1000000 in
theorem t12 (f s : ByteArray) (w : World) (hG : Gl w) (hf : f.size ≤ 100000) (hs : s.size ≤ 1000000) :
    Calls Tryz.prog 12 #[.string f, .string s] w (ReadE (readR chrP f.data.toList s.data.toList) w) := by
  have C := t31 f s w hG hf hs
  have HC := Lib.hid C
  clear C
  cases hr : readR chrP f.data.toList s.data.toList with
  | error y =>
    rw [hr] at HC
    clear hr
    go_enter Tryz.func12, Tryz.ntmps12
    go_wp2_with fail
    refine HC.out.mono ?_
    rintro e w1 ⟨hb, rfl, hy⟩
    have HY := Lib.hid hy
    have HB := Lib.hid hb
    clear hb hy
    go_wp2
    go_ret2
    exact ⟨HB.out, rfl, HY.out⟩
  | ok st =>
    rw [hr] at HC
    clear hr
    go_enter Tryz.func12, Tryz.ntmps12
    go_wp2_with fail
    refine HC.out.mono ?_
    rintro e w1 ⟨hb, v, rfl, hrow⟩
    have HB := Lib.hid hb
    have HRO := Lib.hid hrow
    clear hb hrow
    go_wp2
    go_ret2
    exact ⟨HB.out, v, rfl, HRO.out⟩
end Go.Proofs.YtmbnckmhngijdaaGreatDoor
