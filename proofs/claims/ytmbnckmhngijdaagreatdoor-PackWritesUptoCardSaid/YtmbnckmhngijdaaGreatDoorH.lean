/- Contracts of uses, end, digitValue, add, goTo of the writer. -/
import Derived.Test.YtmbnckmhngijdaaGreatDoorG
namespace Go.Proofs.YtmbnckmhngijdaaGreatDoor
open Go Go.RowKit

def usesI (nb al : Bool) (n left : Int) : Int := if nb then (if al then left else n) else 1
theorem t82 (c : UInt8) (nb al gr : Bool) (sz n left : Int) (w : World) :
    Calls Tryz.prog 82 #[.agg #[.int .u8 c.toNat, .bool nb, .int .i64 sz, .bool gr, .bool al, .int .i64 n], .int .i64 left] w fun e w' => e = .returned (.int .i64 (usesI nb al n left)) ∧ Below w.heap.size w w' := by
  cases nb <;> cases al
  all_goals
    go_enter Tryz.func82, Tryz.ntmps82
    go_wp2
    go_ret
    exact ⟨rfl, bSelf w _⟩
def endI (c : UInt8) (nb : Bool) (sz n size : Int) : Int := if c = 64 then n else if c = 72 then size + (n + 1) / 2 else if nb then size + n * sz else size + n
set_option maxRecDepth 100000 in
set_option maxHeartbeats 1000000 in
theorem t46 (c : UInt8) (nb al gr : Bool) (sz n size : Nat) (w : World) (hn : n ≤ 1000) (hs : sz ≤ 8) (hz : size ≤ 1200000) :
    Calls Tryz.prog 46 #[.agg #[.int .u8 c.toNat, .bool nb, .int .i64 sz, .bool gr, .bool al, .int .i64 n], .int .i64 size] w fun e w' => e = .returned (.int .i64 (endI c nb sz n size)) ∧ Below w.heap.size w w' := by
  have hm : n * sz ≤ 8000 := Nat.le_trans (Nat.mul_le_mul hn hs) (by omega)
  have hmi : (0 : Int) ≤ (n : Int) * sz := Int.mul_nonneg (by omega) (by omega)
  have hmj : (n : Int) * sz ≤ 8000 := by exact_mod_cast hm
  have hn0 : (n : Int) ≤ 1000 := by omega
  have hz0 : (size : Int) ≤ 1200000 := by omega
  by_cases h1 : c = 64
  · have d1 := u8_eq (n := 64) (k := 64) rfl h1
    have HE : Hid (endI c nb sz n size = n) := by show _ = _; unfold endI; rw [if_pos h1]
    clear h1
    go_enter Tryz.func46, Tryz.ntmps46
    go_wp2
    go_ret
    exact ⟨by rw [HE.out]; rfl, bSelf w _⟩
  have d1 := u8_ne (n := 64) (k := 64) rfl h1
  by_cases h2 : c = 72
  · have d2 := u8_eq (n := 72) (k := 72) rfl h2
    have HE : Hid (endI c nb sz n size = (size : Int) + ((n : Int) + 1) / 2) := by show _ = _; unfold endI; rw [if_neg h1, if_pos h2]
    clear h1 h2
    go_enter Tryz.func46, Tryz.ntmps46
    go_wp2
    go_ret
    exact ⟨by rw [HE.out]; rfl, bSelf w _⟩
  have d2 := u8_ne (n := 72) (k := 72) rfl h2
  cases nb with
  | true =>
    have HE : Hid (endI c true sz n size = (size : Int) + (n : Int) * sz) := by show _ = _; unfold endI; rw [if_neg h1, if_neg h2]; rfl
    clear h1 h2
    go_enter Tryz.func46, Tryz.ntmps46
    go_wp2
    go_ret
    exact ⟨by rw [HE.out]; rfl, bSelf w _⟩
  | false =>
    have HE : Hid (endI c false sz n size = (size : Int) + (n : Int)) := by show _ = _; unfold endI; rw [if_neg h1, if_neg h2]; rfl
    clear h1 h2
    go_enter Tryz.func46, Tryz.ntmps46
    go_wp2
    go_ret
    exact ⟨by rw [HE.out]; rfl, bSelf w _⟩
def digV (b : UInt8) : Value := match hexV b with | some v => .tuple #[.int .u8 v, .bool true] | none => .tuple #[.int .u8 0, .bool false]
theorem t61 (b : UInt8) (w : World) : Calls Tryz.prog 61 #[.int .u8 b.toNat] w fun e w' => e = .returned (digV b) ∧ w = w' := by
  have hb := b.toNat_lt
  by_cases h1 : 48 ≤ b.toNat ∧ b.toNat ≤ 57
  · have e1 : (48 : Int) ≤ b.toNat := by omega
    have e2 : (b.toNat : Int) ≤ 57 := by omega
    have HD : Hid (digV b = .tuple #[.int .u8 ((b.toNat : Int) - 48), .bool true]) := by
      show _ = _
      unfold digV hexV
      rw [if_pos h1]
      have : ((b.toNat - 48 : Nat) : Int) = (b.toNat : Int) - 48 := by omega
      show Value.tuple #[.int .u8 ((b.toNat - 48 : Nat) : Int), .bool true] = _
      rw [this]
    clear h1
    go_enter Tryz.func61, Tryz.ntmps61
    go_wp2
    go_ret2
    exact ⟨by rw [HD.out]; rfl, rfl⟩
  · by_cases h2 : 97 ≤ b.toNat ∧ b.toNat ≤ 102
    · have e1 : (97 : Int) ≤ b.toNat := by omega
      have e2 : (b.toNat : Int) ≤ 102 := by omega
      have e3 : (48 : Int) ≤ b.toNat := by omega
      have e4 : decide ((b.toNat : Int) ≤ 57) = false := decide_eq_false (by omega)
      have HD : Hid (digV b = .tuple #[.int .u8 ((b.toNat : Int) - 97 + 10), .bool true]) := by
        show _ = _
        unfold digV hexV
        rw [if_neg h1, if_pos h2]
        have : ((b.toNat - 87 : Nat) : Int) = (b.toNat : Int) - 97 + 10 := by omega
        show Value.tuple #[.int .u8 ((b.toNat - 87 : Nat) : Int), .bool true] = _
        rw [this]
      clear h1 h2
      go_enter Tryz.func61, Tryz.ntmps61
      go_wp2
      go_ret2
      exact ⟨by rw [HD.out]; rfl, rfl⟩
    · have HD : Hid (digV b = .tuple #[.int .u8 0, .bool false]) := by
        show _ = _
        unfold digV hexV
        rw [if_neg h1, if_neg h2]
      by_cases h3 : b.toNat < 48
      · have e1 : decide ((48 : Int) ≤ b.toNat) = false := decide_eq_false (by omega)
        have e2 : decide ((97 : Int) ≤ b.toNat) = false := decide_eq_false (by omega)
        clear h1 h2 h3
        go_enter Tryz.func61, Tryz.ntmps61
        go_wp2
        go_ret2
        exact ⟨by rw [HD.out]; rfl, rfl⟩
      · have e1 : decide ((48 : Int) ≤ b.toNat) = true := decide_eq_true (by omega)
        have e2 : decide ((b.toNat : Int) ≤ 57) = false := decide_eq_false (by omega)
        by_cases h4 : b.toNat < 97
        · have e3 : decide ((97 : Int) ≤ b.toNat) = false := decide_eq_false (by omega)
          clear h1 h2 h3 h4
          go_enter Tryz.func61, Tryz.ntmps61
          go_wp2
          go_ret2
          exact ⟨by rw [HD.out]; rfl, rfl⟩
        · have e3 : decide ((97 : Int) ≤ b.toNat) = true := decide_eq_true (by omega)
          have e4 : decide ((b.toNat : Int) ≤ 102) = false := decide_eq_false (by omega)
          clear h1 h2 h3 h4
          go_enter Tryz.func61, Tryz.ntmps61
          go_wp2
          go_ret2
          exact ⟨by rw [HD.out]; rfl, rfl⟩

/-- a writer: its items, how many are used, its bytes -/
structure Wr (w : World) (B gw : Nat) (iv : Value) (u : Nat) (bv : Value) (o : List UInt8) : Prop where
  blk : Blk w gw 74 [iv, .int .i64 u, bv]
  row : w.ownsRow B 5 1 bv o.length (c8 o)
  big : o.length ≤ 100000
/-- the blocks that a writer's functions may change: its own, and bytes that were made since -/
def WrS (B gw : Nat) (w : World) (k : Nat) : Prop := k = gw ∨ (B ≤ k ∧ ∃ cs, w.heap[k]? = some (.cells cs 5 (0, 0)))
theorem WrS.trans {B gw : Nat} {w w1 w2 : World} (h : Kp (WrS B gw w) w w1) (k : Kp (WrS B gw w1) w1 w2) : Kp (WrS B gw w) w w2 :=
  h.trans k fun g hg => by
    rcases hg with rfl | ⟨h1, cs, h2⟩
    · exact .inl (.inl rfl)
    · rcases Nat.lt_or_ge g w.heap.size with h3 | h3
      · by_cases h4 : WrS B gw w g
        · exact .inl h4
        · exact .inl (.inr ⟨h1, cs, (h.block g h3 h4).symm.trans h2⟩)
      · exact .inr h3
theorem WrS.own {w : World} {B gw n : Nat} {v : Value} {xs : List Value} (h : w.ownsRow B 5 1 v n xs) {g : Nat} (hg : v.ownBlock = some g) : WrS B gw w g := by
  rcases h.2 with ⟨rfl, _⟩ | ⟨g', cap, cur, rfl, h1, h2, _⟩
  · simp [Value.ownBlock] at hg
  · simp [Value.ownBlock] at hg
    subst hg
    exact .inr ⟨h1, cur, h2⟩
theorem WrS.not {w : World} {B gw g : Nat} {e : TypeId} {cs : List Value} (h : Blk w g e cs) (he : e ≠ 5) (hne : g ≠ gw) : ¬ WrS B gw w g := by
  rintro (h1 | ⟨_, c, h1⟩)
  · exact hne h1
  · have h2 := h1.symm.trans h
    simp at h2
    exact he h2.2.symm
/-- what a writer's function tells: an error, or the writer's new state -/
def WrR (B gw : Nat) (iv : Value) (r : Except Nat St) (w : World) (e : Ending) (w' : World) : Prop :=
  Kp (WrS B gw w) w w' ∧
  match r with
  | .error x => e = .returned (.int .i64 x) ∧ x ≠ 0
  | .ok st => e = .returned (.int .i64 0) ∧ ∃ bv', Wr w' B gw iv st.2 bv' st.1
theorem WrR.bad {B gw : Nat} {iv : Value} {r : Except Nat St} {w w' : World} (x : Nat) (hr : Hid (r = .error x)) (hx : x ≠ 0) (hk : Kp (WrS B gw w) w w') : WrR B gw iv r w (.returned (.int .i64 x)) w' := by
  unfold WrR; rw [hr.out]; exact ⟨hk, rfl, hx⟩
theorem WrR.good {B gw : Nat} {iv bv : Value} {r : Except Nat St} {w w' : World} {u : Nat} {o : List UInt8} (hr : Hid (r = .ok (o, u))) (hk : Kp (WrS B gw w) w w') (h : Wr w' B gw iv u bv o) : WrR B gw iv r w (.returned (.int .i64 0)) w' := by
  unfold WrR; rw [hr.out]; exact ⟨hk, rfl, bv, h⟩
def stOf (r : Except Nat (List UInt8)) (u : Nat) : Except Nat St := match r with | .ok o => .ok (o, u) | .error x => .error x
theorem Wr.cells {w : World} {B gw u : Nat} {iv bv : Value} {o : List UInt8} (h : Wr w B gw iv u bv o) : w.cell? ⟨gw, 0, none⟩ = some iv ∧ w.cell? ⟨gw, 1, none⟩ = some (.int .i64 u) ∧ w.cell? ⟨gw, 2, none⟩ = some bv :=
  ⟨h.blk.cell 0 rfl, h.blk.cell 1 rfl, h.blk.cell 2 rfl⟩
set_option maxRecDepth 100000 in
set_option maxHeartbeats 1000000 in
theorem t80 (B gw u g m c : Nat) (iv bv : Value) (o b : List UInt8) (w : World) (h : Wr w B gw iv u bv o) (hB : B ≤ w.heap.size) (hm : b.length = m) (hb : Rd w g b) (hml : m ≤ 1200000) :
    Calls Tryz.prog 80 #[.pointer (some ⟨gw, 0, none⟩), .slice (some ⟨g, 0, none⟩) m c] w (WrR B gw iv (stOf (addL o b) u) w) := by
  obtain ⟨h0, h1, h2⟩ := h.cells
  obtain ⟨ao, cap, rfl⟩ := row_slice h.row
  have ho := h.big
  have hoi : (o.length : Int) ≤ 100000 := by omega
  have hmi : (m : Int) ≤ 1200000 := by omega
  have f2 := h.blk.free 2
  have HW := Lib.hid h
  have HM := Lib.hid hm
  have HNE := Lib.hid (own_ne h.row h.blk (by decide))
  clear h
  by_cases hbig : 100000 < o.length + m
  · have hbi : (100000 : Int) < (o.length : Int) + m := by omega
    have HR : Hid (stOf (addL o b) u = .error 5) := by
      show _ = _; unfold addL; rw [hm, if_pos hbig]; rfl
    clear hbig hm
    go_enter Tryz.func80, Tryz.ntmps80
    go_wp2
    go_ret
    exact WrR.bad 5 HR (by decide) (Kp.refl _ _)
  · have hbi : (o.length : Int) + m ≤ 100000 := by omega
    have hbn : o.length + m ≤ 100000 := by omega
    have HR : Hid (stOf (addL o b) u = .ok (o ++ b, u)) := by
      show _ = _; unfold addL; rw [hm, if_neg hbig]; rfl
    clear hbig hm
    go_enter Tryz.func80, Tryz.ntmps80
    go_wp2_with (at_builtin; refine app8n rfl _ _ rfl B _ o.length o rfl HW.out.row g m c b rfl HM.out hb (by omega) hB ?_; intro v1 w1 hown1 hgrow1; obtain ⟨a1, c1, rfl⟩ := row_slice hown1.out; have k1 := (Kp.grown hgrow1.out).blk HW.out.blk HNE.out; have f2 := k1.free 2; have h2 := k1.cell 2 rfl)
    have HK1 := Lib.hid ((Kp.grown hgrow1.out).weaken (T := WrS B gw w) (fun g h => WrS.own HW.out.row h))
    go_ret
    have hk2 := k1.set 2 (.slice a1 (o.length + m) c1)
    refine WrR.good HR (HK1.out.trans (Kp.set _ gw 2 _) (fun g h => .inl (.inl h))) (bv := .slice a1 (o.length + m) c1) ⟨hk2, ?_, by rw [List.length_append, HM.out]; omega⟩
    have h9 := (Kp.set w1 gw 2 (.slice a1 (o.length + m) c1)).row hown1.out (fun g' hg' e => by subst e; exact own_ne hown1.out k1 (by decide) hg')
    rw [List.length_append, HM.out]
    exact h9

/-- taking bytes off the end of a row -/
theorem ownsRow_take {w : World} {B n k cap : Nat} {a : Option Addr} {xs : List UInt8} (h : w.ownsRow B 5 1 (.slice a n cap) n (c8 xs)) (hk : k ≤ n) (hn : xs.length = n) (ha : a = none → n = 0) : w.ownsRow B 5 1 (.slice a k cap) k (c8 (xs.take k)) := by
  obtain ⟨hl, h2⟩ := h
  refine ⟨by simp [c8]; omega, ?_⟩
  rcases h2 with ⟨h3, h4⟩ | ⟨g, cap', cur, h3, h4, h5, h6, h7, h8, h9⟩
  · left
    simp only [Value.slice.injEq] at h3
    exact ⟨by rw [h3.1, h3.2.2]; congr 1; omega, by omega⟩
  · right
    simp only [Value.slice.injEq] at h3
    obtain ⟨rfl, _, rfl⟩ := h3
    refine ⟨g, cap, cur, rfl, h4, h5, by omega, h7, h8, ?_⟩
    have : c8 (xs.take k) = (c8 xs).take k := by simp [c8, List.map_take]
    rw [this, ← h9, List.take_take, Nat.mul_one, Nat.mul_one, Nat.min_eq_left hk]

def goL (o : List UInt8) (n u : Nat) : Except Nat St := .ok (if o.length < n then o ++ List.replicate (n - o.length) 0 else o.take n, u)
set_option maxRecDepth 100000 in
set_option maxHeartbeats 1000000 in
theorem t81 (B gw u n : Nat) (iv bv : Value) (o : List UInt8) (w : World) (h : Wr w B gw iv u bv o) (hB : B ≤ w.heap.size) (hn : n ≤ 1000) :
    Calls Tryz.prog 81 #[.pointer (some ⟨gw, 0, none⟩), .int .i64 n] w (WrR B gw iv (goL o n u) w) := by
  obtain ⟨h0, h1, h2⟩ := h.cells
  obtain ⟨ao, cap, rfl⟩ := row_slice h.row
  have ho := h.big
  have hoi : (o.length : Int) ≤ 100000 := by omega
  have hni : (n : Int) ≤ 1000 := by omega
  have f2 := h.blk.free 2
  have HW := Lib.hid h
  have hnil : ao = none → cap = 0 ∧ o.length = 0 := fun e => by
    rcases h.row.2 with ⟨h3, h4⟩ | ⟨g, c, cur, h3, _⟩
    · simp only [Value.slice.injEq] at h3; exact ⟨h3.2.2, h4⟩
    · rw [e] at h3; simp at h3
  have hcap : o.length ≤ cap ∧ cap ≤ 9223372036854775807 := by
    rcases h.row.2 with ⟨h3, h4⟩ | ⟨g, c, cur, h3, _, _, h5, h6, _⟩
    · simp only [Value.slice.injEq] at h3; rw [h3.2.2, h4]; omega
    · simp only [Value.slice.injEq] at h3; unfold maxLen at h6; rw [h3.2.2]; exact ⟨h5, h6⟩
  have HN := Lib.hid hnil
  clear h hnil
  by_cases hbig : o.length < n
  · have hbi : (o.length : Int) < n := by omega
    have hsub : ((n - o.length : Nat) : Int) = (n : Int) - o.length := by omega
    have HSUB := Lib.hid hsub.symm
    have HR : Hid (stOf (addL o (List.replicate (n - o.length) 0)) u = goL o n u) := by
      show _ = _
      unfold addL goL
      rw [if_pos hbig, if_neg (by rw [List.length_replicate]; omega)]; rfl
    have hk : n - o.length ≤ 1000 := by omega
    generalize n - o.length = k at *
    clear hbig hsub
    go_enter Tryz.func81, Tryz.ntmps81
    go_wp2_with (at_make; refine mk8 _ rfl _ _ rfl _ _ k rfl rfl HSUB.out HSUB.out (by omega) ?_; intro w1 hb1 hbl1)
    have HW1 : Wr w1 B gw iv u (.slice ao o.length cap) o := ⟨blkDown HW.out.blk hbl1, ownsRow_below HW.out.row hbl1, HW.out.big⟩
    have C := t80 B gw u w.heap.size k k iv _ o (List.replicate k 0) w1 HW1 (Nat.le_trans hB hbl1.size) (by simp) hb1.out.rd (by omega)
    rw [HR.out] at C
    have HC := Lib.hid C
    have HKB := Lib.hid (Kp.of (WrS B gw w) hbl1)
    clear C HW1 hbl1
    go_wp2_with fail
    refine HC.out.mono ?_
    rintro e w2 ⟨hk2, rfl, bv', hw2⟩
    have HK2 := Lib.hid hk2
    have HW2 := Lib.hid hw2
    clear hk2 hw2
    go_wp2
    go_ret
    exact ⟨WrS.trans HKB.out HK2.out, rfl, bv', HW2.out⟩
  · have hbi : (n : Int) ≤ o.length := by omega
    have hni2 : (n : Int) ≤ cap := by omega
    have hnn : n ≤ o.length := by omega
    have HR : Hid (goL o n u = .ok (o.take n, u)) := by
      show _ = _; unfold goL; rw [if_neg hbig]
    clear hbig
    go_enter Tryz.func81, Tryz.ntmps81
    go_wp2
    go_ret
    have hk2 := HW.out.blk.set 2 (.slice ao n cap)
    refine WrR.good HR ((Kp.set w gw 2 _).weaken (fun g h => .inl h)) (bv := .slice ao n cap) ⟨hk2, ?_, by rw [List.length_take]; omega⟩
    have hr := ownsRow_take HW.out.row hnn rfl (fun e => (HN.out e).2)
    have h9 := (Kp.set w gw 2 (.slice ao n cap)).row hr (fun g' hg' e => by subst e; exact own_ne hr HW.out.blk (by decide) hg')
    rw [List.length_take, Nat.min_eq_left hnn]
    exact h9
end Go.Proofs.YtmbnckmhngijdaaGreatDoor
