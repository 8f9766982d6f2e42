/- Contracts of slices.Reverse of bytes, sevens, fromNumber. -/
import Derived.Test.YtmbnckmhngijdaaGreatDoorI
import Derived.RegionTactic
import Derived.ChangeAlike
namespace Go.Proofs.YtmbnckmhngijdaaGreatDoor
open Go Go.RowKit

theorem grown_refl (w : World) (r : Option Nat) : w.grownBy w r := ⟨rfl, rfl, rfl, Nat.le_refl _, fun _ _ _ => rfl⟩
theorem grown_trans {a b c : World} {r : Option Nat} (h : a.grownBy b r) (k : b.grownBy c r) : a.grownBy c r :=
  ⟨k.os.trans h.os, k.tape.trans h.tape, k.output.trans h.output, Nat.le_trans h.size k.size, fun i hi hne => (k.block i (Nat.lt_of_lt_of_le hi h.size) hne).trans (h.block i hi hne)⟩
theorem grown_set {a b : World} {g : Nat} (h : a.grownBy b (some g)) (j : Nat) (u : Value) : a.grownBy (b.setCell ⟨g, j, none⟩ u) (some g) :=
  grown_trans h ⟨rfl, rfl, rfl, by simp, fun k _ hk => Below.heap_setCell b ⟨g, j, none⟩ u k (fun e => hk (by rw [e]))⟩
/-- from outside in, the first k pairs are exchanged -/
def swp (l : List UInt8) (k i : Nat) : UInt8 := if i < k ∨ l.length < i + 1 + k then l.getD (l.length - 1 - i) 0 else l.getD i 0
def swpL (l : List UInt8) (k : Nat) : List UInt8 := (List.range l.length).map (swp l k)
theorem swpL_length (l : List UInt8) (k : Nat) : (swpL l k).length = l.length := by simp [swpL]
theorem swpL_zero (l : List UInt8) : swpL l 0 = l := by
  apply List.ext_getElem
  · simp [swpL]
  · intro i h1 h2
    simp [swpL, swp, h2]
    intro h; omega
theorem swpL_end (l : List UInt8) (k : Nat) (h : l.length ≤ 2 * k + 1) : swpL l k = l.reverse := by
  apply List.ext_getElem
  · simp [swpL]
  · intro i h1 h2
    simp only [List.length_reverse] at h2
    simp only [swpL, List.getElem_map, List.getElem_range, swp, List.getElem_reverse]
    split
    · simp [List.getD_eq_getElem?_getD, show l.length - 1 - i < l.length by omega]
    · have : i = l.length - 1 - i := by omega
      rw [List.getD_eq_getElem?_getD, List.getElem?_eq_getElem h2, Option.getD_some]
      congr 1
theorem swpL_get (l : List UInt8) (k i : Nat) (hi : i < l.length) : (swpL l k)[i]? = some (swp l k i) := by
  simp [swpL, hi]
theorem swpL_step (l : List UInt8) (k : Nat) (h : 2 * k + 1 < l.length) : ((swpL l k).set k (swp l k (l.length - 1 - k))).set (l.length - 1 - k) (swp l k k) = swpL l (k + 1) := by
  apply List.ext_getElem
  · simp [swpL]
  · intro i h1 h2
    have hi : i < l.length := by simpa [swpL] using h2
    rw [List.getElem_set, List.getElem_set]
    have e : ∀ m, (swpL l m)[i]'(by rw [swpL_length]; exact hi) = swp l m i := fun m => by simp [swpL]
    rw [e, e]
    unfold swp
    split
    · subst i
      rw [if_neg (by omega), if_pos (by omega), show l.length - 1 - (l.length - 1 - k) = k by omega]
    · split
      · subst i
        rw [if_neg (by omega), if_pos (by omega)]
      · by_cases hc : i < k ∨ l.length < i + 1 + k
        · rw [if_pos hc, if_pos (by omega)]
        · rw [if_neg hc, if_neg (by omega)]

def RevR (g : Nat) (l : List UInt8) (post : List Value) (w : World) (e : Ending) (w' : World) : Prop := (∃ v, e = .returned v) ∧ Blk w' g 5 (c8 l.reverse ++ post) ∧ w.grownBy w' (some g)
set_option maxRecDepth 100000 in
set_option maxHeartbeats 2000000 in
theorem t137 (g n cap : Nat) (l : List UInt8) (post : List Value) (w : World) (hn : l.length = n) (hs : n ≤ 1000000000) (hB : Blk w g 5 (c8 l ++ post)) :
    Calls Tryz.prog 137 #[.slice (some ⟨g, 0, none⟩) n cap] w (RevR g l post w) := by
  have HB := Lib.hid hB
  have HN := Lib.hid hn
  have HSL := Lib.hid (fun k => swpL_length l k)
  have H0 := Lib.hid (swpL_zero l)
  clear hB hn
  go_enter Tryz.func137, Tryz.ntmps137
  go_wp2
  go_loopw [2, 3] (fun i j wr => ∃ k : Nat, 2 * k ≤ n + 1 ∧ i = .int .i64 k ∧ j = .int .i64 ((n : Int) - 1 - k) ∧ Hid (Blk wr g 5 (c8 (swpL l k) ++ post)) ∧ w.grownBy wr (some g)) (fun i _ _ => n - (intOf i).toNat)
  case atStart => exact ⟨0, by omega, rfl, congrArg (Value.int .i64) (by omega), by rw [H0.out]; exact HB, grown_refl _ _⟩
  case round =>
    obtain ⟨k, hk, rfl, rfl, hb, hgr⟩ := hrel
    by_cases hlt : 2 * k + 1 < n
    · obtain ⟨j, hj⟩ : ∃ j : Nat, j = n - 1 - k := ⟨_, rfl⟩
      have hji : (n : Int) - 1 - k = j := by omega
      have hjn : (j : Int) < n := by omega
      have hkn : (k : Int) < n := by omega
      have hkj : k < j := by omega
      have HJ := Lib.hid hj
      rw [hji]
      have hck : wr.cell? ⟨g, k, none⟩ = some (.int .u8 ((swp l k k).toNat : Int)) := hb.out.cell k (by rw [List.getElem?_append_left (by rw [List.length_map, HSL.out, HN.out]; omega), List.getElem?_map, swpL_get l k k (by rw [HN.out]; omega)]; rfl)
      have hcj : wr.cell? ⟨g, j, none⟩ = some (.int .u8 ((swp l k j).toNat : Int)) := hb.out.cell j (by rw [List.getElem?_append_left (by rw [List.length_map, HSL.out, HN.out]; omega), List.getElem?_map, swpL_get l k j (by rw [HN.out]; omega)]; rfl)
      have hfk : wr.frozen? ⟨g, k, none⟩ = false := hb.out.free _
      have hfj : wr.frozen? ⟨g, j, none⟩ = false := hb.out.free _
      have hne : k ≠ j := by omega
      have hne2 : j ≠ k := by omega
      have hz0 : (0 : Int) ≤ k := by omega
      have hz1 : (0 : Int) ≤ j := by omega
      have hkj2 : (k : Int) < j := by omega
      clear hji hj hlt hk
      go_wp2
      go_region
      go_wp2
      go_roundw
      case rel =>
        have hblk : Blk ((wr.setCell ⟨g, k, none⟩ (.int .u8 ((swp l k j).toNat : Int))).setCell ⟨g, j, none⟩ (.int .u8 ((swp l k k).toNat : Int))) g 5 (c8 (swpL l (k + 1)) ++ post) := by
          have h1 := (hb.out.set k (.int .u8 ((swp l k j).toNat : Int))).set j (.int .u8 ((swp l k k).toNat : Int))
          rw [List.set_append_left _ _ (by rw [List.length_map, HSL.out, HN.out]; omega), List.set_append_left _ _ (by rw [List.length_set, List.length_map, HSL.out, HN.out]; omega)] at h1
          have h2 := swpL_step l k (by rw [HN.out]; have := HJ.out; omega)
          rw [HN.out, ← HJ.out] at h2
          rw [← h2, c8, List.map_set, List.map_set]
          exact h1
        exact ⟨k + 1, by have := HJ.out; omega, by go_num, congrArg (Value.int .i64) (by have := HJ.out; omega), hblk, grown_trans (grown_set (grown_set hgr _ _) _ _) ⟨rfl, rfl, rfl, Nat.le_refl _, fun _ _ _ => rfl⟩⟩
      case measure => first | (simp [intOf]; omega) | simp [intOf]
    · have hE := swpL_end l k (by rw [HN.out]; omega)
      have hge : (n : Int) - 1 - k ≤ k := by omega
      have HE := Lib.hid hE
      clear hE hlt
      go_wp2
      go_end0
      exact ⟨⟨_, rfl⟩, by rw [← HE.out]; exact hb.out, hgr⟩

/-- bytes that a function makes -/
def BtsR (l : List UInt8) (w : World) (e : Ending) (w' : World) : Prop := ∃ g c, e = .returned (.slice (some ⟨g, 0, none⟩) l.length c) ∧ Rd w' g l ∧ Below w.heap.size w w' ∧ w.heap.size ≤ g
theorem row_blk {w : World} {B n : Nat} {v : Value} {l : List UInt8} (h : w.ownsRow B 5 1 v n (c8 l)) (hn : 0 < n) : ∃ g cap post, v = .slice (some ⟨g, 0, none⟩) n cap ∧ B ≤ g ∧ Blk w g 5 (c8 l ++ post) ∧ l.length = n ∧ cap ≤ maxLen := by
  rcases row_cases h with ⟨h1, h2 | ⟨g, cs, h3, h4, _, h6, h7, h8, h9⟩⟩
  · omega
  · refine ⟨g, cs.length, cs.drop n, h3, h4, ?_, by simpa using h1, h8⟩
    rw [← h9, List.take_append_drop]
    exact h6
theorem Blk.rdp {w : World} {g : Nat} {b : List UInt8} {post : List Value} (h : Blk w g 5 (c8 b ++ post)) : Rd w g b := fun k x hx => h.cell k (by
  have : k < b.length := (List.getElem?_eq_some_iff.1 hx).1
  rw [List.getElem?_append_left (by simpa using this)]
  exact c8_get hx)
theorem u8_of (n : Nat) (h : n < 256) : ((UInt8.ofNat n).toNat : Int) = (n : Int) := by
  rw [UInt8.toNat_ofNat']; omega
theorem sevF_step (f m : Nat) (h : m ≠ 0) : sevF (f + 1) m = UInt8.ofNat (m % 128 + 128) :: sevF f (m / 128) := by
  rw [sevF, if_neg h]
theorem sevF_zero (f : Nat) : sevF f 0 = [] := by cases f <;> simp [sevF]
theorem sevF_le : ∀ (f m : Nat), (sevF f m).length ≤ f
  | 0, _ => Nat.le_refl _
  | f + 1, m => by
    rw [sevF]; split
    · simp
    · have := sevF_le f (m / 128); simp; omega
def revSev (m : Nat) : List UInt8 := UInt8.ofNat (m % 128) :: sevF 10 (m / 128)
theorem app81b {w : World} {ops : Array Oper} {rest : List Oper} {o : Oper} {a : Act} {Q : Exit → Act → World → Prop} (hgd : o.guard = none) (s x : Operand)
    (ho : o.op = .call { callee := .builtin .append, args := #[s, x], argTypes := #[72, 72] }) (base : Nat) (v : Value) (n : Nat) (ys : List UInt8) (hs : a.eval s = v) (hown : w.ownsRow base 5 1 v n (c8 ys))
    (g c : Nat) (C : UInt8) (hx : a.eval x = .slice (some ⟨g, 0, none⟩) 1 c) (hc : w.cell? ⟨g, 0, none⟩ = some (.int .u8 (C.toNat : Int))) (hn : n ≤ 1000000) (hbase : base ≤ w.heap.size)
    (h : ∀ v' w', Hid (w'.ownsRow base 5 1 v' (n + 1) (c8 (ys ++ [C]))) → Hid (w.grownBy w' v.ownBlock) → wpList Tryz.prog ops Q rest (a.put o.dst v') w') :
    wpList Tryz.prog ops Q (o :: rest) a w :=
  app8n hgd s x ho base v n ys hs hown g 1 c [C] hx rfl (fun k y hy => by
    cases k with
    | zero => simp at hy; rw [← hy]; exact hc
    | succ k => simp at hy) (by omega) hbase h
theorem cell_one {w : World} {g : Nat} {e : TypeId} {x : Value} (h : Blk w g e [x]) : w.cell? ⟨g, 0, none⟩ = some x := h.cell 0 rfl
def SevR (n : Nat) (w : World) (m v : Value) (wr : World) : Prop :=
  ∃ (q f : Nat) (ys : List UInt8), m = .int .i64 q ∧ q ≤ 9223372036854775807 ∧ f ≤ 10 ∧ ys.length + f = 11 ∧ q < 128 ^ f ∧ Hid (ys ++ sevF f q = revSev n) ∧ Hid (wr.ownsRow w.heap.size 5 1 v ys.length (c8 ys)) ∧ Hid (Below w.heap.size w wr)
set_option maxRecDepth 100000 in
set_option maxHeartbeats 2000000 in
theorem t136 (n : Nat) (w : World) (hn : n ≤ 9223372036854775807) : Calls Tryz.prog 136 #[.int .i64 n] w (BtsR (sevL n) w) := by
  have hni : (n : Int) ≤ 9223372036854775807 := by omega
  have H0 : Hid ((n : Int) % 128 = ((UInt8.ofNat (n % 128)).toNat : Int)) := by
    show _ = _; rw [u8_of _ (by omega)]; omega
  have HM0 : Hid ((n : Int) / 128 = ((n / 128 : Nat) : Int)) := by show _ = _; omega
  have hw0 : IntKind.u8.wrap ((n : Int) % 128) = (n : Int) % 128 := by rw [IntKind.wrap_u8]; omega
  have hlen := sevF_le 10 (n / 128)
  have HREV : Hid (sevL n = (revSev n).reverse) := rfl
  go_enter Tryz.func136, Tryz.ntmps136
  go_wp2
  have hnew := Blk.new w #[.int .u8 ((n : Int) % 128)] 5
  rw [H0.out] at hnew ⊢
  have hrow := hnew.row (base := w.heap.size) (n := 1) (Nat.le_refl _) (by simp) (by simp [maxLen])
  have hB := bSelf w (.cells #[.int .u8 ((UInt8.ofNat (n % 128)).toNat : Int)] 5)
  rw [HM0.out]
  generalize hW : w.alloc (.cells #[.int .u8 ((UInt8.ofNat (n % 128)).toNat : Int)] 5) = W at *
  clear hW hnew hw0
  go_loopw [0, 3] (fun m v wr => SevR n w m v wr) (fun m _ _ => (intOf m).toNat)
  case atStart => exact ⟨n / 128, 10, [UInt8.ofNat (n % 128)], rfl, by omega, by omega, rfl, by omega, rfl, hrow, hB⟩
  case round =>
    obtain ⟨q, f, ys, rfl, hq, hf, hyf, hqf, hj, hr, hb⟩ := hrel
    obtain ⟨wo, rfl⟩ : ∃ wo : World, wo = wr := ⟨_, rfl⟩
    obtain ⟨g, cap, post, rfl, hg, hblk, hyl, hcm⟩ := row_blk hr.out (by omega)
    by_cases h0 : q = 0
    · subst h0
      have HE : Hid (ys = revSev n) := by
        show _ = _
        rw [← hj.out, sevF_zero, List.append_nil]
      have C := t137 g ys.length cap ys post wo rfl (by omega) hblk
      have HC := Lib.hid C
      clear C
      go_wp2_with fail
      refine HC.out.mono ?_
      rintro e w2 ⟨⟨v2, rfl⟩, hb2, hg2⟩
      have HB2 := Lib.hid hb2
      have HG2 := Lib.hid hg2
      clear hb2 hg2
      go_wp2
      go_ret
      have hbl : Below w.heap.size w w2 := hb.out.grown HG2.out hb.out.size (fun j hj => by cases hj; exact hg)
      have e1 : (sevL n).length = ys.length := by rw [HREV.out, ← HE.out, List.length_reverse]
      refine ⟨g, cap, by rw [e1]; rfl, ?_, hbl, hg⟩
      rw [HREV.out, ← HE.out]
      exact HB2.out.rdp
    · obtain ⟨f', rfl⟩ : ∃ f', f = f' + 1 := ⟨f - 1, by
        rcases f with _ | f
        · simp at hqf; omega
        · omega⟩
      have hq0 : (0 : Int) < q := by omega
      have hqi : (q : Int) ≤ 9223372036854775807 := by omega
      have hcv : (q : Int) % 128 + 128 = ((UInt8.ofNat (q % 128 + 128)).toNat : Int) := by
        rw [u8_of _ (by omega)]; omega
      have hwr : IntKind.u8.wrap ((q : Int) % 128 + 128) = (q : Int) % 128 + 128 := by rw [IntKind.wrap_u8]; omega
      have hqd : (q : Int) / 128 = ((q / 128 : Nat) : Int) := by omega
      have hst := sevF_step f' q h0
      have hj2 : Hid ((ys ++ [UInt8.ofNat (q % 128 + 128)]) ++ sevF f' (q / 128) = revSev n) := by
        show _ = _
        rw [← hj.out, hst, List.append_assoc]; rfl
      have hqf2 : q / 128 < 128 ^ f' := by
        rw [Nat.pow_succ] at hqf
        exact Nat.div_lt_of_lt_mul (by rw [Nat.mul_comm]; exact hqf)
      have hqs : q / 128 < q := Nat.div_lt_self (by omega) (by omega)
      have HCV := Lib.hid hcv
      have HQD := Lib.hid hqd
      have HQF := Lib.hid hqf2
      have HQS := Lib.hid hqs
      clear hcv hqd hst hqf hqf2 h0 hblk hqs
      go_wp2_with (at_builtin; refine app81b rfl _ _ rfl w.heap.size _ ys.length ys rfl (ownsRow_below hr.out (bSelf _ _)) wo.heap.size 1 (UInt8.ofNat (q % 128 + 128)) rfl (by rw [← HCV.out]; exact (newAt _ _ _ _ _ rfl rfl).cell 0 rfl) (by omega) (by have := hb.out.size; simp; omega) ?_; intro v1 w1 hown1 hgrow1; obtain ⟨a1, c1, rfl⟩ := row_slice hown1.out)
      have hB1 : Below w.heap.size w w1 := (hb.out.alloc hb.out.size _).grown hgrow1.out (by have := hb.out.size; simp; omega) (fun j hj => by cases hj; exact hg)
      go_roundw
      case rel =>
        refine ⟨q / 128, f', ys ++ [UInt8.ofNat (q % 128 + 128)], congrArg (Value.int .i64) HQD.out, by have := HQS.out; omega, by omega, by simp; omega, HQF.out, hj2, ?_, hB1⟩
        rw [List.length_append]
        exact hown1
      case measure =>
        have := HQS.out
        have h2 := HQD.out
        show max ((q : Int) / 128) 0 < (q : Int)
        omega
end Go.Proofs.YtmbnckmhngijdaaGreatDoor
