/- TableOnce: the walk. -/
import Derived.Test.YtagejkolgicecaaL
namespace Go.Proofs.Ytagejkolgicecaa
open Go Go.RowKit Go.Maps
/-- deeds as they are read: what is done, and the first argument -/
def Ds (w : World) (ao : Option Addr) (ds : List (Int × Int)) : Prop :=
  ∀ (j : Nat) (d a : Int), ds[j]? = some (d, a) → ∃ db off, ao = some ⟨db, off, none⟩ ∧ db < w.heap.size ∧ w.cell? ⟨db, off + j * 4, none⟩ = some (.int .i64 d) ∧ w.cell? ⟨db, off + j * 4 + 1, none⟩ = some (.int .i64 a)
theorem Ds.below {w w' : World} {B : Nat} {ao : Option Addr} {ds : List (Int × Int)} (h : Ds w ao ds) (hb : Below w.heap.size w w') : Ds w' ao ds := fun j d a hj => by
  obtain ⟨db, off, h1, h2, h3, h4⟩ := h j d a hj
  exact ⟨db, off, h1, Nat.lt_of_lt_of_le h2 hb.size, below_cell hb h3, below_cell hb h4⟩
theorem t28T {F : Nat → Prop} {b : Nat} {S : Tb} (w : World) (h : Tab F w b S) {x : Int} (hx : WF x) : Calls Try.prog 28 #[.pointer (some ⟨b, 0, none⟩), .int .i64 x] w fun e w' => e = S.getE x ∧ Below w.heap.size w w' := by
  obtain ⟨hO, m0, m1, kv, hW⟩ := h
  exact t28 w hW hx
theorem delE_ret (S : Tb) (k : Int) : ∃ v, S.delE k = .returned v := by
  unfold Tb.delE; split
  · exact ⟨_, rfl⟩
  · split <;> exact ⟨_, rfl⟩
def OnceAt (w : World) (b tb j : Nat) (wr : World) : Prop :=
  ∃ S T p, Once j S T p ∧ Tab (fun i => w.heap.size ≤ i ∧ i ≠ tb) wr b S ∧ Blk wr tb 52 (T.map Value.bool) ∧ Below w.heap.size w wr
set_option maxRecDepth 100000 in
set_option maxHeartbeats 4000000 in
theorem t7 (w : World) (ao : Option Addr) (cap : Nat) (ds : List (Int × Int)) (hD : Ds w ao ds) (hl : ds.length ≤ 9223372036854775807) :
    Calls Try.prog 7 #[.slice ao ds.length cap] w fun e w' => e = .returned (.bool true) ∧ Below w.heap.size w w' := by
  have HD := Lib.hid hD
  have C20 := Lib.hid (t20 (fun i => w.heap.size ≤ i) w (fun i h => h))
  clear hD
  go_enter Try.func7, Try.ntmps7
  go_wp2_with fail
  refine C20.out.mono ?_
  rintro e w1 ⟨b, rfl, h1, hb1, _⟩
  go_wp2_with fail
  refine (t24 (S := Tb.new) w1 h1 (lt_eq (m := 0) rfl (by omega))).mono ?_
  rintro e w2 ⟨rfl, h2, T2⟩
  rw [show Tb.new.walkE = .returned (.tuple #[.int .i64 0, .int .i64 0]) by kernel_rfl]
  have hB2 : Below w.heap.size w w2 := hb1.trans (T2.below hb1.size (fun k hk => hk))
  have hst : Hid (OnceAt w b w2.heap.size 0 (w2.alloc (.cells #[.bool false, .bool false, .bool false, .bool false, .bool false, .bool false, .bool false, .bool false, .bool false, .bool false, .bool false, .bool false, .bool false, .bool false, .bool false, .bool false] 52))) :=
    ⟨_, List.replicate 16 false, 0, Once.first, (h2.mono (fun i hi hf => ⟨hf, by omega⟩)).below (bSelf _ _), Blk.new _ _ _, bAl hB2 _⟩
  have HTL0 : Hid (w.heap.size ≤ w2.heap.size) := hB2.size
  clear h1 h2 T2 hB2 hb1 C20
  go_wp2_with fail
  generalize w2.heap.size = tb at *
  go_loopw [7] (fun i wr => ∃ j : Nat, j ≤ ds.length ∧ j ≤ 300 ∧ i = .int .i64 j ∧ Hid (OnceAt w b tb j wr)) (fun i _ => ds.length - (intOf i).toNat)
  case atStart => exact ⟨0, Nat.zero_le _, Nat.zero_le _, rfl, hst⟩
  case round =>
    obtain ⟨j, hj, hj3, rfl, HI⟩ := hrel
    clear hst
    by_cases hlt : j < ds.length
    · by_cases h3 : j < 300
      · obtain ⟨d, a, hg⟩ : ∃ d a, ds[j]? = some (d, a) := ⟨_, _, List.getElem?_eq_getElem hlt⟩
        obtain ⟨S, T, p, hI, hT, hTB, hB⟩ := HI.out
        obtain ⟨db, off, rfl, hdb, c0, c1⟩ := HD.out.below (B := 0) hB j d a hg
        obtain ⟨k, hk, ek⟩ := and15 a
        obtain ⟨m, hm, em⟩ := and3 d
        have hlt' : (j : Int) < ds.length := by omega
        have h3' : (j : Int) < 300 := by omega
        have htl := hTB.lt
        have HTL : Hid (w.heap.size ≤ tb) := HTL0
        have HN : Hid (∀ W : World, wr.heap.size ≤ W.heap.size → ∀ i, W.heap.size ≤ i → w.heap.size ≤ i ∧ i ≠ tb) := fun W hW i hi => by have := hB.size; omega
        have HIc := Lib.hid hI
        have HT := Lib.hid hT
        have HTB := Lib.hid hTB
        have HB := Lib.hid hB
        have hptb := hI.pt
        clear hI hT hTB hB HI hg
        have htb1 : T.length = 16 := HIc.out.tl
        rcases (by omega : m = 0 ∨ m = 1 ∨ (m ≠ 0 ∧ m ≠ 1)) with h0 | h0 | h0
        · have em' : bits .and .i64 d 3 = 0 := by rw [em, h0]; rfl
          have hln := HIc.out.len
          clear em h0 hm
          go_wp2_with fail
          refine (t28T wr HT.out (wf_small (k := k) (by omega))).mono ?_
          rintro e w3 ⟨rfl, hb3⟩
          have C21 := Lib.hid (t21 _ b S w3 (HT.out.below hb3) (HN.out w3 hb3.size) (wf_small (k := k) (by omega)) (j : Int) (by omega))
          have hE : S.allE [((k : Int), (j : Int))] = 0 := allE_one HIc.out.fz HIc.out.st (by omega)
          have hA : S.all [((k : Int), (j : Int))] = S.set k j := all_one HIc.out.fz HIc.out.st (by omega)
          rw [hE, hA] at C21
          have TB3 := Lib.hid (blkDown HTB.out hb3)
          have HB3 := Lib.hid (bThen HB.out hb3)
          clear hb3 hE hA
          cases hh : S.has k with
          | true =>
            have hNx := Lib.hid (HIc.out.put_old hk j hh)
            rw [show S.getE k = .returned (.tuple #[.int .i64 (S.vl k), .int .i64 0]) by unfold Tb.getE; rw [hh]; rfl]
            generalize S.vl k = vl
            clear hh
            go_wp2_with fail
            refine C21.out.mono ?_
            rintro e w4 ⟨rfl, hT4, hU4⟩
            have hNew : Hid (OnceAt w b tb (j + 1) w4) := ⟨_, T, p, hNx.out, hT4, hU4.blk TB3.out (fun h => h.2 rfl), HB3.out.trans (hU4.below HB3.out.size (fun k hk => hk.1))⟩
            clear hT4 hU4 c0 c1
            go_wp2_with fail
            go_roundw
            case rel => exact ⟨j + 1, by omega, by omega, by go_num, hNew⟩
            case measure => simp [intOf]; omega
          | false =>
            have hNx := Lib.hid (HIc.out.put_new hk j)
            rw [show S.getE k = .returned (.tuple #[.int .i64 0, .int .i64 3]) by unfold Tb.getE; rw [hh]; rfl]
            clear hh
            go_wp2_with fail
            refine C21.out.mono ?_
            rintro e w4 ⟨rfl, hT4, hU4⟩
            have TB4 : Blk w4 tb 52 (T.map Value.bool) := hU4.blk TB3.out (fun h => h.2 rfl)
            have hbw := hT4
            have hFw : Turn (fun i => i = tb) w4 (w4.setCell ⟨tb, k, none⟩ (.bool false)) := turnSet w4 tb k _
            have hNew : Hid (OnceAt w b tb (j + 1) (w4.setCell ⟨tb, k, none⟩ (.bool false))) :=
              ⟨_, T.set k false, p, hNx.out, hT4.turn hFw (fun i hi e => hi.2 e), by have h1 := TB4.set k (.bool false); rw [List.map_set]; exact h1, (HB3.out.trans (hU4.below HB3.out.size (fun k hk => hk.1))).trans (hFw.below (Nat.le_trans HTL.out (Nat.le_of_lt TB4.lt)) (fun i hi => by rw [hi]; exact HTL.out))⟩
            have hck : w4.cell? ⟨tb, k, none⟩ = some (.bool (T[k]'(by omega))) := TB4.cell k (by simp)
            have hfk := TB4.free k
            have hk' : (k : Int) ≤ 15 := by omega
            clear hT4 hU4 c0 c1 TB4 hFw
            generalize T[k]'_ = tk at hck
            go_wp2_with fail
            go_roundw
            case rel => exact ⟨j + 1, by omega, by omega, by go_num, hNew⟩
            case measure => simp [intOf]; omega
        · have em' : bits .and .i64 d 3 = 1 := by rw [em, h0]; rfl
          have hNx := Lib.hid (HIc.out.del k)
          clear em h0 hm
          go_wp2_with fail
          refine (t22 wr HT.out (k := k) (wf_small (k := k) (by omega))).mono ?_
          rintro e w4 ⟨rfl, hT4, hU4⟩
          obtain ⟨v, hv⟩ : ∃ v, S.delE k = .returned v := delE_ret S k
          rw [hv]
          have hNew : Hid (OnceAt w b tb (j + 1) w4) := ⟨_, T, p, hNx.out, hT4, hU4.blk HTB.out (fun h => h.2 rfl), HB.out.trans (hU4.below HB.out.size (fun k hk => hk.1))⟩
          clear hT4 hU4 c0 c1 hv
          go_wp2_with fail
          go_roundw
          case rel => exact ⟨j + 1, by omega, by omega, by go_num, hNew⟩
          case measure => simp [intOf]; omega
        · have em0 : ¬ (bits .and .i64 d 3 = 0) := by rw [em]; omega
          have em1 : ¬ (bits .and .i64 d 3 = 1) := by rw [em]; omega
          have eb0 : (bits .and .i64 d 3 == 0) = false := by simpa using em0
          have eb1 : (bits .and .i64 d 3 == 1) = false := by simpa using em1
          clear em h0 hm
          go_wp2_with fail
          refine (t25 wr HT.out (x := 0) (by decide)).mono ?_
          rintro e w4 ⟨rfl, hT4, hU4⟩
          cases hf : S.front p with
          | none =>
            rw [show S.nextE 0 = tup3 0 0 14 by unfold Tb.nextE; rw [HIc.out.wk]; simp only [hf], tup3]
            have hS : S.next 0 = S.over 0 := by unfold Tb.next; rw [HIc.out.wk]; simp only [hf]
            have HB4 := Lib.hid (HB.out.trans (hU4.below HB.out.size (fun k hk => hk.1)))
            have HT4 := Lib.hid hT4
            clear hT4 hU4 c0 c1 hf
            go_wp2_with fail
            refine (t25 w4 HT4.out (x := 0) (by decide)).mono ?_
            rintro e w5 ⟨rfl, hT5, hU5⟩
            rw [hS, show (S.over 0).nextE 0 = tup3 0 0 1 by unfold Tb.nextE Tb.over upd; rfl, tup3]
            have HB5 := Lib.hid (HB4.out.trans (hU5.below HB4.out.size (fun k hk => hk.1)))
            clear hT5 hU5 hS
            go_wp2_with (go_at_call 15; refine (t15 _).mono ?_; rintro e w9 ⟨rfl, hb9⟩; have H9 := Lib.hid hb9; clear hb9)
            go_ret
            exact ⟨rfl, bThen HB5.out H9.out⟩
          | some x =>
            obtain ⟨q, hq15, rfl⟩ := HIc.out.rng x (front_some hf).1
            obtain ⟨ht, _, hNx⟩ := HIc.out.next hf
            rw [show S.nextE 0 = tup3 q (S.vl q) 0 by unfold Tb.nextE; rw [HIc.out.wk]; simp only [hf], tup3]
            have hS : S.next 0 = { S with wk := upd S.wk 0 (some (S.pl q)) } := by unfold Tb.next; rw [HIc.out.wk]; simp only [hf]
            rw [hS] at hT4
            have TB4 : Blk w4 tb 52 (T.map Value.bool) := hU4.blk HTB.out (fun h => h.2 rfl)
            have hFw : Turn (fun i => i = tb) w4 (w4.setCell ⟨tb, q, none⟩ (.bool true)) := turnSet w4 tb q _
            have hNew : Hid (OnceAt w b tb (j + 1) (w4.setCell ⟨tb, q, none⟩ (.bool true))) :=
              ⟨_, T.set q true, _, hNx, hT4.turn hFw (fun i hi e => hi.2 e), by have h1 := TB4.set q (.bool true); rw [List.map_set]; exact h1, (HB.out.trans (hU4.below HB.out.size (fun k hk => hk.1))).trans (hFw.below (Nat.le_trans HTL.out (Nat.le_of_lt TB4.lt)) (fun i hi => by rw [hi]; exact HTL.out))⟩
            have hck : w4.cell? ⟨tb, q, none⟩ = some (.bool false) := TB4.cell q (by rw [List.getElem?_map, ht]; rfl)
            have hfk := TB4.free q
            have hk' : (q : Int) ≤ 15 := by omega
            generalize S.vl q = vl
            clear hT4 hU4 c0 c1 hf hS TB4 hFw ht hNx
            go_wp2_with fail
            go_roundw
            case rel => exact ⟨j + 1, by omega, by omega, by go_num, hNew⟩
            case measure => simp [intOf]; omega
      · have h3' : (j : Int) = 300 := by omega
        have hlt' : (j : Int) < ds.length := by omega
        have hB := HI.out
        obtain ⟨_, _, _, _, _, _, hBw⟩ := hB
        have HB := Lib.hid hBw
        clear hBw HI
        go_wp2_with (go_at_call 15; refine (t15 _).mono ?_; rintro e w9 ⟨rfl, hb9⟩; have H9 := Lib.hid hb9; clear hb9)
        go_ret
        exact ⟨rfl, bThen HB.out H9.out⟩
    · obtain rfl : j = ds.length := by omega
      have hB := HI.out
      obtain ⟨_, _, _, _, _, _, hBw⟩ := hB
      have HB := Lib.hid hBw
      clear hBw HI
      go_wp2_with (go_at_call 15; refine (t15 _).mono ?_; rintro e w9 ⟨rfl, hb9⟩; have H9 := Lib.hid hb9; clear hb9)
      go_ret
      exact ⟨rfl, bThen HB.out H9.out⟩
end Go.Proofs.Ytagejkolgicecaa
