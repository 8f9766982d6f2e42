/- The reference's digits: trimmed, sizes, sums, differences, products. -/
import Derived.Test.YtifhiefdhhmdeaaGreatDoorD
import Derived.Test.YtifhiefdhhmdeaaGreatDoorF
import Derived.BigRegion
import Derived.Laws.AppendOwnNone
import Derived.RegionTactic
namespace Go.Proofs.YtifhiefdhhmdeaaGreatDoor
open Go Go.RowKit

abbrev Ld (n : Nat) : Nat := (dgs 10 n).length
theorem dgs10_lt (n : Nat) : ∀ d ∈ dgs 10 n, d < 10 := dgs_lt (by omega) n
theorem Dg.cells {w : World} {v : Value} {n : Nat} (h : Dg w v n) : ∃ p cap, v = .slice p (Ld n) cap ∧ Ld n ≤ cap ∧ cap ≤ maxLen ∧ ∀ (k x : Nat), (dgs 10 n)[k]? = some x → ∃ g, p = some ⟨g, 0, none⟩ ∧ g < w.heap.size ∧ w.cell? ⟨g, k, none⟩ = some (.int .i64 x) := by
  rcases h.read with ⟨rfl, rfl⟩ | ⟨gb, cap, rfl, h1, h2, h3, h4⟩
  · exact ⟨none, 0, rfl, by simp [dgs, dgsF], by simp, fun k x hx => by simp [dgs, dgsF] at hx⟩
  · exact ⟨_, cap, rfl, h1, h2, fun k x hx => ⟨gb, rfl, h3, h4 k x hx⟩⟩

theorem Dg.nil {w : World} {m c n : Nat} (h : Dg w (.slice none m c) n) : c = 0 := by
  rcases h.read with ⟨h1, _⟩ | ⟨gb, cap, h1, _⟩
  · exact (Value.slice.inj h1).2.2
  · cases (Value.slice.inj h1).1
set_option maxHeartbeats 400000 in
theorem t120s (g n cap : Nat) (xs : List Nat) (w : World) (hn : xs.length = n) (hc : n ≤ cap) (hm : cap ≤ maxLen) (hd : ∀ d ∈ xs, d < 10) (hr : ∀ (k x : Nat), xs[k]? = some x → w.cell? ⟨g, k, none⟩ = some (.int .i64 x)) :
    Calls Tryz.prog 120 #[.slice (some ⟨g, 0, none⟩) n cap] w fun e w' => e = .returned (.slice (some ⟨g, 0, none⟩) (dgs 10 (val 10 xs)).length cap) ∧ w = w' := by
  unfold maxLen at hm
  have HR := Lib.hid hr
  clear hr
  go_enter Tryz.func120, Tryz.ntmps120
  go_wp2
  go_loop [0] (fun v => ∃ k : Nat, k ≤ n ∧ Hid (val 10 (xs.take k) = val 10 xs) ∧ v = .slice (some ⟨g, 0, none⟩) k cap) (fun v => match v with | .slice _ k _ => k | _ => 0)
  case atStart => exact ⟨n, Nat.le_refl _, by show _ = _; rw [List.take_of_length_le (by omega)], rfl⟩
  case round =>
    obtain ⟨k, hk, hv, rfl⟩ := hrel
    by_cases h0 : k = 0
    · subst h0
      go_wp2
      go_ret
      refine ⟨ret_slice ?_, rfl⟩
      rw [trim_done (by omega) xs hd 0 (by omega) hv.out (.inl rfl)]
      rfl
    · obtain ⟨j, rfl⟩ : ∃ j, k = j + 1 := ⟨k - 1, by omega⟩
      have hj : j < xs.length := by omega
      have hcell := HR.out j xs[j] (List.getElem?_eq_getElem hj)
      have hz : Hid (xs[j] = xs[j]) := rfl
      generalize hx : xs[j] = x at hcell hz
      have HX := Lib.hid hx
      clear hx hn hz
      by_cases hx0 : x = 0
      · subst hx0
        go_wp2
        go_round
        case rel =>
          refine ⟨j, by omega, ?_, rfl⟩
          show _ = _
          rw [← hv.out, val_drop_zero 10 xs j hj HX.out]
        case measure => show j < j + 1; omega
      · go_wp2
        go_ret
        refine ⟨ret_slice ?_, rfl⟩
        rw [trim_done (by omega) xs hd (j + 1) (by omega) hv.out (.inr (by
          have := HX.out
          simp [List.getD_eq_getElem?_getD, List.getElem?_eq_getElem hj, this, hx0]))]
        simp; omega
theorem t120n (w : World) : Calls Tryz.prog 120 #[.slice none 0 0] w fun e w' => e = .returned (.slice none 0 0) ∧ w = w' := by
  go_enter Tryz.func120, Tryz.ntmps120
  go_wp2
  go_loop [0] (fun v => v = .slice none 0 0) (fun v => match v with | .slice _ k _ => k | _ => 0)
  case atStart => rfl
  case round =>
    obtain rfl := hrel
    go_wp2
    go_ret
    exact ⟨rfl, rfl⟩
/-- what trimmed leaves of a row of digits reads as the natural -/
theorem t120 (v : Value) (k : Nat) (ys : List Nat) (w : World) (h : w.ownsRow 0 3 1 v k (c64 ys)) (hd : ∀ d ∈ ys, d < 10) :
    Calls Tryz.prog 120 #[v] w fun e w' => ∃ u, e = .returned u ∧ Dg w' u (val 10 ys) ∧ w = w' ∧ ∀ g, u.ownBlock = some g → v.ownBlock = some g := by
  obtain ⟨hlen, ⟨rfl, rfl, h2⟩ | ⟨g, cs, rfl, h3, h4, h5, h6, h7, h8⟩⟩ := row_cases h
  · have hy : ys = [] := by simpa [c64] using h2
    subst hy
    refine (t120n w).mono ?_
    rintro e w' ⟨rfl, rfl⟩
    exact ⟨_, rfl, by simpa [Dg, dgs, dgsF] using World.ownsRow_nil w 0 3 1, rfl, fun _ h => h⟩
  · have hk : ys.length = k := by simpa [c64] using hlen
    have hcell : ∀ (j x : Nat), ys[j]? = some x → w.cell? ⟨g, j, none⟩ = some (.int .i64 x) := fun j x hx => h5.cell j (by
      have h9 : (c64 ys)[j]? = some (.int .i64 x) := c64_get hx
      rw [← h8, List.getElem?_take] at h9
      split at h9
      · exact h9
      · cases h9)
    refine (t120s g k cs.length ys w hk h6 h7 hd hcell).mono ?_
    rintro e w' ⟨rfl, rfl⟩
    refine ⟨_, rfl, ?_, rfl, fun _ h => h⟩
    have hl : (dgs 10 (val 10 ys)).length ≤ ys.length := by
      rw [dgs_length_le (by omega)]; exact val_lt ys hd
    have h10 : cs.take (dgs 10 (val 10 ys)).length = c64 (dgs 10 (val 10 ys)) := by
      have := dgs_take (b := 10) (by omega) ys hd
      rw [← this, c64, List.map_take, show List.map (fun x : Nat => Value.int .i64 (x : Int)) ys = c64 ys from rfl, ← h8, List.take_take, List.length_take, Nat.min_eq_left hl, Nat.min_eq_left (by omega)]
    have h11 := h5.row (base := 0) (n := (dgs 10 (val 10 ys)).length) (Nat.zero_le _) (by omega) h7
    rw [h10] at h11
    exact h11

set_option maxRecDepth 100000 in
set_option maxHeartbeats 1000000 in
theorem t121 (va vb : Value) (A B : Nat) (w : World) (hA : Dg w va A) (hB : Dg w vb B) :
    Calls Tryz.prog 121 #[va, vb] w fun e w' => e = .returned (.int .i64 (cmpN A B)) ∧ ∃ n, w' = w.drewN n := by
  obtain ⟨p, ca, rfl, a1, a2, hA1⟩ := hA.cells
  obtain ⟨q, cb, rfl, b1, b2, hB1⟩ := hB.cells
  unfold maxLen at a2 b2
  have HA := Lib.hid hA1
  have HB := Lib.hid hB1
  clear hA hB hA1 hB1
  by_cases hne : Ld A = Ld B
  · have HAL : Hid ((dgs 10 A).length = Ld A) := rfl
    have HBL : Hid ((dgs 10 B).length = Ld A) := hne.symm
    rw [← hne] at b1 ⊢
    clear hne
    generalize Ld A = x at *
    go_enter Tryz.func121, Tryz.ntmps121
    go_wp2_with fail
    go_loopw [5] (fun i wr => ∃ k : Nat, k ≤ x ∧ i = .int .i64 ((k : Int) - 1) ∧ Hid ((dgs 10 A).drop k = (dgs 10 B).drop k) ∧ ∃ n, Hid (wr = w.drewN n)) (fun i _ => (intOf i + 1).toNat)
    case atStart => exact ⟨x, Nat.le_refl _, rfl, by show _ = _; rw [List.drop_of_length_le (by rw [HAL.out]; omega), List.drop_of_length_le (by rw [HBL.out]; omega)], 0, rfl⟩
    case round =>
      obtain ⟨k, hk, rfl, hd, n, hw⟩ := hrel
      by_cases h0 : k = 0
      · subst h0
        have heq : A = B := dgs_inj (b := 10) (by omega) (by simpa using hd.out)
        have HC := Lib.hid (cmpN_eq heq)
        clear heq
        go_wp2
        go_ret
        exact ⟨by rw [HC.out]; rfl, n, hw.out⟩
      · obtain ⟨j, rfl⟩ : ∃ j, k = j + 1 := ⟨k - 1, by omega⟩
        have hja : j < (dgs 10 A).length := by rw [HAL.out]; omega
        have hjb : j < (dgs 10 B).length := by rw [HBL.out]; omega
        obtain ⟨ga, rfl, -, hca⟩ := HA.out j _ (List.getElem?_eq_getElem hja)
        obtain ⟨gb, rfl, -, hcb⟩ := HB.out j _ (List.getElem?_eq_getElem hjb)
        have hca' : wr.cell? ⟨ga, j, none⟩ = some (.int .i64 ((dgs 10 A)[j] : Nat)) := by rw [hw.out]; simpa using hca
        have hcb' : wr.cell? ⟨gb, j, none⟩ = some (.int .i64 ((dgs 10 B)[j] : Nat)) := by rw [hw.out]; simpa using hcb
        clear hca hcb
        have hd2 := fun h => cmp_step _ _ j hja hjb hd.out h
        have hd3 := fun h => cmp_val (b := 10) _ _ (dgs10_lt A) (dgs10_lt B) j hja hjb hd.out h
        have hd4 := fun h => cmp_val (b := 10) _ _ (dgs10_lt B) (dgs10_lt A) j hjb hja hd.out.symm h
        rw [val_dgs (by omega), val_dgs (by omega)] at hd3 hd4
        generalize (dgs 10 A)[j] = X at hca' hd2 hd3 hd4
        generalize (dgs 10 B)[j] = Y at hcb' hd2 hd3 hd4
        have hD2 := Lib.hid hd2
        have hD3 := Lib.hid hd3
        have hD4 := Lib.hid hd4
        clear hd2 hd3 hd4
        have hi0 : (0 : Int) ≤ j := by omega
        have hi1 : (j : Int) < x := by omega
        rcases Nat.lt_trichotomy X Y with hlt | heq | hgt
        · have hl1 : (X : Int) < Y := by omega
          have HC := Lib.hid (cmpN_lt (hD3.out hlt))
          clear hlt
          go_wp2
          go_quiet (fail)
          go_wp2
          go_ret
          exact ⟨by rw [HC.out]; rfl, n + nq, by rw [hw.out, World.drewN_drewN]⟩
        · subst heq
          have hd' := Lib.hid (hD2.out rfl)
          have hnl : ¬ ((X : Int) < X) := by omega
          go_wp2
          go_quiet (fail)
          have hq0 : nq = nq := rfl
          generalize hn1 : nq = n1 at *
          clear hq0 hn1
          go_wp2
          go_quiet (fail)
          go_wp2
          go_roundw
          case rel => exact ⟨j, by omega, rfl, hd', n + n1 + nq, by show _ = _; rw [hw.out, World.drewN_drewN, Nat.add_assoc]⟩
          case measure => first | (simp [intOf]; omega) | simp [intOf]
        · have hg1 : (Y : Int) < X := by omega
          have hg2 : ¬ ((X : Int) < Y) := by omega
          have HC := Lib.hid (cmpN_gt (hD4.out hgt))
          clear hgt
          go_wp2
          go_quiet (fail)
          have hq0 : nq = nq := rfl
          generalize hn1 : nq = n1 at *
          clear hq0 hn1
          go_wp2
          go_quiet (fail)
          go_wp2
          go_ret
          refine ⟨by rw [HC.out]; rfl, ?_⟩
          rw [hw.out]; simp only [World.drewN_drewN]
          exact ⟨_, rfl⟩
  · rcases Nat.lt_or_gt_of_ne hne with h | h
    · have HC := Lib.hid (cmpN_lt (cmp_len (by omega) A B h))
      have h1 : (Ld A : Int) < Ld B := by omega
      clear h hne
      generalize Ld A = x at *
      generalize Ld B = y at *
      have hn2 : ((x : Int) != y) = true := by simp; omega
      go_enter Tryz.func121, Tryz.ntmps121
      go_wp2_with fail
      go_ret
      exact ⟨by rw [HC.out]; rfl, 0, rfl⟩
    · have HC := Lib.hid (cmpN_gt (cmp_len (by omega) B A h))
      have h1 : (Ld B : Int) < Ld A := by omega
      clear h hne
      generalize Ld A = x at *
      generalize Ld B = y at *
      have hn2 : ((x : Int) != y) = true := by simp; omega
      have hn3 : ¬ ((x : Int) < y) := by omega
      go_enter Tryz.func121, Tryz.ntmps121
      go_wp2_with fail
      go_ret
      exact ⟨by rw [HC.out]; rfl, 0, rfl⟩
/-- digits as a result -/
def DgR (n : Nat) (w : World) (e : Ending) (w' : World) : Prop := ∃ v, e = .returned v ∧ Dg w' v n ∧ Below w.heap.size w w' ∧ ∀ g, v.ownBlock = some g → w.heap.size ≤ g
theorem app64 {w : World} {ops : Array Oper} {rest : List Oper} {o : Oper} {a : Act} {Q : Exit → Act → World → Prop} (hgd : o.guard = none) (s x : Operand)
    (ho : o.op = .call { callee := .builtin .append, args := #[s, x], argTypes := #[22, 22] }) (base : Nat) (v : Value) (n : Nat) (ys : List Nat) (hs : a.eval s = v) (hown : w.ownsRow base 3 1 v n (c64 ys))
    (g c C : Nat) (hx : a.eval x = .slice (some ⟨g, 0, none⟩) 1 c) (hc : w.cell? ⟨g, 0, none⟩ = some (.int .i64 C)) (hn : n ≤ 1000000000) (hbase : base ≤ w.heap.size)
    (h : ∀ v' w', Hid (w'.ownsRow base 3 1 v' (n + 1) (c64 (ys ++ [C]))) → Hid (w.grownBy w' v.ownBlock) → wpList Tryz.prog ops Q rest (a.put o.dst v') w') :
    wpList Tryz.prog ops Q (o :: rest) a w := by
  obtain ⟨i0, hi, hz0, hz1, hz2⟩ := info_parts info3
  refine wpList_append_own w hgd s x 22 ho base 3 i0 (.int .i64 0) 1 8 Tryz.underlying22 hi hz0 hz1 hz2 rfl (by decide) v n (c64 ys) hs hown ⟨g, 0, none⟩ 1 c [.int .i64 (C : Int)] hx rfl ?_ (by simp [Value.oneCell']) (by unfold maxLen; omega) (by omega) hbase (fun v' w' h1 h2 _ => h v' w' ?_ h2)
  · intro j u hu
    rw [add_addr, Nat.zero_add]
    cases j with
    | zero => simp at hu; rw [← hu]; exact hc
    | succ j => simp at hu
  · show World.ownsRow _ _ _ _ _ _ _
    rw [c64, List.map_append]
    exact h1
/-- append(a row of the call's own, a row ...) -/
theorem appL {w : World} {ops : Array Oper} {rest : List Oper} {o : Oper} {a : Act} {Q : Exit → Act → World → Prop} (hgd : o.guard = none) (s x : Operand)
    (ho : o.op = .call { callee := .builtin .append, args := #[s, x], argTypes := #[22, 22] }) (base : Nat) (v : Value) (n : Nat) (ys : List Nat) (hs : a.eval s = v) (hown : w.ownsRow base 3 1 v n (c64 ys))
    (p : Option Addr) (m c : Nat) (zs : List Nat) (hx : a.eval x = .slice p m c) (hz : zs.length = m) (hp : p = none → c = 0) (hc : ∀ j z, zs[j]? = some z → ∃ g, p = some ⟨g, 0, none⟩ ∧ w.cell? ⟨g, j, none⟩ = some (.int .i64 (z : Nat))) (hn : n + m ≤ 1000000000) (hbase : base ≤ w.heap.size)
    (h : ∀ v' w', Hid (w'.ownsRow base 3 1 v' (n + m) (c64 (ys ++ zs))) → Hid (w.grownBy w' v.ownBlock) → wpList Tryz.prog ops Q rest (a.put o.dst v') w') :
    wpList Tryz.prog ops Q (o :: rest) a w := by
  obtain ⟨i0, hi, hz0, hz1, hz2⟩ := info_parts info3
  cases p with
  | none =>
    have hm : zs = [] := by
      cases zs with
      | nil => rfl
      | cons z l => obtain ⟨g, h1, _⟩ := hc 0 z rfl; cases h1
    subst hm
    obtain rfl : m = 0 := by simpa using hz.symm
    obtain rfl := hp rfl
    refine wpList_append_own_none hgd s x 22 ho base 3 i0 1 Tryz.underlying22 hi v n (c64 ys) hs hown hx (h v w ?_ ⟨rfl, rfl, rfl, Nat.le_refl _, fun _ _ _ => rfl⟩)
    show World.ownsRow _ _ _ _ _ _ _
    rw [List.append_nil]
    exact hown
  | some ad =>
    refine wpList_append_own w hgd s x 22 ho base 3 i0 (.int .i64 0) 1 8 Tryz.underlying22 hi hz0 hz1 hz2 rfl (by decide) v n (c64 ys) hs hown ad m c (c64 zs) hx (by simp [hz]) ?_ (by simp [Value.oneCell', c64]) (by unfold maxLen; omega) (by omega) hbase (fun v' w' h1 h2 _ => h v' w' ?_ h2)
    · intro j u hu
      have hj : j < zs.length := by
        rcases Nat.lt_or_ge j zs.length with h9 | h9
        · exact h9
        · rw [List.getElem?_eq_none (by simpa using h9)] at hu; cases hu
      obtain ⟨g, h8, h9⟩ := hc j _ (List.getElem?_eq_getElem hj)
      obtain rfl := Option.some.inj h8
      rw [add_addr, Nat.zero_add, h9]
      rw [c64_get (List.getElem?_eq_getElem hj)] at hu
      exact hu
    · show World.ownsRow _ _ _ _ _ _ _
      rw [c64, List.map_append]
      exact h1
theorem row_form {w : World} {base n : Nat} {e : TypeId} {v : Value} {xs : List Value} (h : w.ownsRow base e 1 v n xs) : ∃ p c, v = .slice p n c := by
  rcases row_cases h with ⟨_, ⟨rfl, rfl, _⟩ | ⟨g, cs, rfl, _⟩⟩
  · exact ⟨none, 0, rfl⟩
  · exact ⟨_, _, rfl⟩
theorem row_own {w : World} {base n q : Nat} {e : TypeId} {v : Value} {xs : List Value} (h : w.ownsRow base e 1 v n xs) (hq : v.ownBlock = some q) : base ≤ q := by
  rcases row_cases h with ⟨_, ⟨rfl, _, _⟩ | ⟨g, cs, rfl, hg, _⟩⟩
  · cases hq
  · simp [Value.ownBlock] at hq
    omega
theorem dig_snoc {b x : Nat} {ys : List Nat} (h : ∀ z ∈ ys, z < b) (hx : x < b) : Hid (∀ z ∈ ys ++ [x], z < b) := fun z hz => by
  rcases List.mem_append.1 hz with h1 | h1
  · exact h z h1
  · rw [List.mem_singleton.1 h1]; exact hx
theorem plus_step (xs bs ys : List Nat) (k C : Nat) (hl : ys.length = k) (hv : val 10 ys + C * 10 ^ k = val 10 (xs.take k) + val 10 (bs.take k)) :
    val 10 (ys ++ [(C + xs.getD k 0 + bs.getD k 0) % 10]) + (C + xs.getD k 0 + bs.getD k 0) / 10 * 10 ^ (k + 1) = val 10 (xs.take (k + 1)) + val 10 (bs.take (k + 1)) := by
  rw [val_snoc, val_take_succD, val_take_succD, hl, Nat.pow_succ]
  have h3 := Nat.mod_add_div (C + xs.getD k 0 + bs.getD k 0) 10
  generalize (C + xs.getD k 0 + bs.getD k 0) % 10 = m at *
  generalize (C + xs.getD k 0 + bs.getD k 0) / 10 = q at *
  generalize xs.getD k 0 = x at *
  generalize bs.getD k 0 = y at *
  generalize 10 ^ k = P at *
  have h4 : P * (m + 10 * q) = P * (C + x + y) := by rw [h3]
  grind
set_option maxRecDepth 100000 in
set_option maxHeartbeats 2000000 in
theorem t76 (va vb : Value) (A B : Nat) (w : World) (hA : Dg w va A) (hB : Dg w vb B) (hl : Ld A ≤ 1000000) (hl' : Ld B ≤ 1000000) :
    Calls Tryz.prog 76 #[va, vb] w (DgR (A + B) w) := by
  obtain ⟨p, ca, rfl, a1, a2, hA1⟩ := hA.cells
  obtain ⟨q, cb, rfl, b1, b2, hB1⟩ := hB.cells
  unfold maxLen at a2 b2
  have HA := Lib.hid hA1
  have HB := Lib.hid hB1
  have HAL : Hid ((dgs 10 A).length = Ld A) := rfl
  have HBL : Hid ((dgs 10 B).length = Ld B) := rfl
  clear hA hB hA1 hB1
  generalize Ld A = la at *
  generalize Ld B = lb at *
  go_enter Tryz.func76, Tryz.ntmps76
  go_wp2_with fail
  go_loopw [5, 6, 7] (fun u c i wr => ∃ (k C : Nat) (ys : List Nat), i = .int .i64 k ∧ c = .int .i64 C ∧ C ≤ 1 ∧ k ≤ max la lb + 1 ∧ (k = max la lb + 1 → C = 0) ∧ Hid (ys.length = k) ∧ Hid (∀ z ∈ ys, z < 10) ∧ Hid (val 10 ys + C * 10 ^ k = val 10 ((dgs 10 A).take k) + val 10 ((dgs 10 B).take k)) ∧ Hid (wr.ownsRow w.heap.size 3 1 u k (c64 ys)) ∧ Below w.heap.size w wr) (fun _ _ i _ => max la lb + 1 - (intOf i).toNat)
  case atStart => exact ⟨0, 0, [], rfl, rfl, by omega, by omega, fun _ => rfl, rfl, (fun z hz => by cases hz), by show _ = _; simp, World.ownsRow_nil _ _ _ _, Below.refl _ _⟩
  case round =>
    obtain ⟨k, C, ys, rfl, rfl, hC, hk, hkC, hyl, hyd, hyv, hrow, hbl⟩ := hrel
    have HB0 : Hid (∀ (g j : Nat) (x : Value), w.cell? ⟨g, j, none⟩ = some x → wr.cell? ⟨g, j, none⟩ = some x) := fun g j x h => (hbl.cell (p := ⟨g, j, none⟩) (World.block_lt_of_cell? w _ h)).trans h
    obtain ⟨pu, cu, rfl⟩ := row_form hrow.out
    by_cases H1 : k < la <;> by_cases H2 : k < lb
    · have hka : k < (dgs 10 A).length := by rw [HAL.out]; exact H1
      obtain ⟨ga, rfl, -, hca⟩ := HA.out k _ (List.getElem?_eq_getElem hka)
      have hga : Hid ((dgs 10 A).getD k 0 = (dgs 10 A)[k]) := by show _ = _; simp [List.getD_eq_getElem?_getD, List.getElem?_eq_getElem hka]
      have hxlt : (dgs 10 A)[k] < 10 := dgs10_lt A _ (List.getElem_mem hka)
      have hca := HB0.out _ _ _ hca
      generalize (dgs 10 A)[k] = x at hca hga hxlt
      have hkb : k < (dgs 10 B).length := by rw [HBL.out]; exact H2
      obtain ⟨gb, rfl, -, hcb⟩ := HB.out k _ (List.getElem?_eq_getElem hkb)
      have hgb : Hid ((dgs 10 B).getD k 0 = (dgs 10 B)[k]) := by show _ = _; simp [List.getD_eq_getElem?_getD, List.getElem?_eq_getElem hkb]
      have hylt : (dgs 10 B)[k] < 10 := dgs10_lt B _ (List.getElem_mem hkb)
      have hcb := HB0.out _ _ _ hcb
      generalize (dgs 10 B)[k] = y at hcb hgb hylt
      have hi1 : (k : Int) < la := by omega
      have hi2 : (k : Int) < lb := by omega
      have HN1 : Hid (((C : Int) + x + y) / 10 = (((C + x + y) / 10 : Nat) : Int)) := by show _ = _; omega
      have HN2 : Hid (((C : Int) + x + y) % 10 = (((C + x + y) % 10 : Nat) : Int)) := by show _ = _; omega
      have hst := plus_step (dgs 10 A) (dgs 10 B) ys k C hyl.out hyv.out
      rw [hga.out, hgb.out] at hst
      have HST := Lib.hid hst
      have HL1 : Hid ((C + x + y) / 10 ≤ 1) := by show _ ≤ _; omega
      clear hst H1 H2 HA HB hga hgb
      go_wp2_with (at_builtin; refine app64 rfl _ _ rfl w.heap.size _ _ ys rfl (hrow.out.alloc _) wr.heap.size 1 ((C + x + y) % 10) rfl (by rw [← HN2.out]; exact (Blk.new wr _ 3).cell 0 rfl) (by omega) (Nat.le_trans hbl.size (by simp)) ?_; intro v' w4 hown' hgrow)
      go_roundw
      case rel => exact ⟨k + 1, (C + x + y) / 10, ys ++ [(C + x + y) % 10], by go_num, congrArg (Value.int .i64) HN1.out, HL1.out, by omega, by omega, by show _ = _; rw [List.length_append, hyl.out]; rfl, dig_snoc hyd.out (Nat.mod_lt _ (by omega)), HST.out, hown', (hbl.alloc hbl.size _).grown hgrow.out (Nat.le_trans hbl.size (by simp)) (fun q hq => row_own hrow.out hq)⟩
      case measure => first | (simp [intOf]; omega) | simp [intOf]
    · have hka : k < (dgs 10 A).length := by rw [HAL.out]; exact H1
      obtain ⟨ga, rfl, -, hca⟩ := HA.out k _ (List.getElem?_eq_getElem hka)
      have hga : Hid ((dgs 10 A).getD k 0 = (dgs 10 A)[k]) := by show _ = _; simp [List.getD_eq_getElem?_getD, List.getElem?_eq_getElem hka]
      have hxlt : (dgs 10 A)[k] < 10 := dgs10_lt A _ (List.getElem_mem hka)
      have hca := HB0.out _ _ _ hca
      generalize (dgs 10 A)[k] = x at hca hga hxlt
      have hgb : Hid ((dgs 10 B).getD k 0 = 0) := by show _ = _; rw [List.getD_eq_getElem?_getD, List.getElem?_eq_none (by rw [HBL.out]; exact Nat.le_of_not_lt H2)]; rfl
      have hi1 : (k : Int) < la := by omega
      have hi2 : ¬ ((k : Int) < lb) := by omega
      have HN1 : Hid (((C : Int) + x) / 10 = (((C + x) / 10 : Nat) : Int)) := by show _ = _; omega
      have HN2 : Hid (((C : Int) + x) % 10 = (((C + x) % 10 : Nat) : Int)) := by show _ = _; omega
      have hst := plus_step (dgs 10 A) (dgs 10 B) ys k C hyl.out hyv.out
      rw [hga.out, hgb.out] at hst
      have HST := Lib.hid hst
      have HL1 : Hid ((C + x) / 10 ≤ 1) := by show _ ≤ _; omega
      clear hst H1 H2 HA HB hga hgb
      go_wp2_with (at_builtin; refine app64 rfl _ _ rfl w.heap.size _ _ ys rfl (hrow.out.alloc _) wr.heap.size 1 ((C + x) % 10) rfl (by rw [← HN2.out]; exact (Blk.new wr _ 3).cell 0 rfl) (by omega) (Nat.le_trans hbl.size (by simp)) ?_; intro v' w4 hown' hgrow)
      go_roundw
      case rel => exact ⟨k + 1, (C + x) / 10, ys ++ [(C + x) % 10], by go_num, congrArg (Value.int .i64) HN1.out, HL1.out, by omega, by omega, by show _ = _; rw [List.length_append, hyl.out]; rfl, dig_snoc hyd.out (Nat.mod_lt _ (by omega)), HST.out, hown', (hbl.alloc hbl.size _).grown hgrow.out (Nat.le_trans hbl.size (by simp)) (fun q hq => row_own hrow.out hq)⟩
      case measure => first | (simp [intOf]; omega) | simp [intOf]
    · have hga : Hid ((dgs 10 A).getD k 0 = 0) := by show _ = _; rw [List.getD_eq_getElem?_getD, List.getElem?_eq_none (by rw [HAL.out]; exact Nat.le_of_not_lt H1)]; rfl
      have hkb : k < (dgs 10 B).length := by rw [HBL.out]; exact H2
      obtain ⟨gb, rfl, -, hcb⟩ := HB.out k _ (List.getElem?_eq_getElem hkb)
      have hgb : Hid ((dgs 10 B).getD k 0 = (dgs 10 B)[k]) := by show _ = _; simp [List.getD_eq_getElem?_getD, List.getElem?_eq_getElem hkb]
      have hylt : (dgs 10 B)[k] < 10 := dgs10_lt B _ (List.getElem_mem hkb)
      have hcb := HB0.out _ _ _ hcb
      generalize (dgs 10 B)[k] = y at hcb hgb hylt
      have hi1 : ¬ ((k : Int) < la) := by omega
      have hi2 : (k : Int) < lb := by omega
      have HN1 : Hid (((C : Int) + y) / 10 = (((C + y) / 10 : Nat) : Int)) := by show _ = _; omega
      have HN2 : Hid (((C : Int) + y) % 10 = (((C + y) % 10 : Nat) : Int)) := by show _ = _; omega
      have hst := plus_step (dgs 10 A) (dgs 10 B) ys k C hyl.out hyv.out
      rw [hga.out, hgb.out] at hst
      have HST := Lib.hid hst
      have HL1 : Hid ((C + y) / 10 ≤ 1) := by show _ ≤ _; omega
      clear hst H1 H2 HA HB hga hgb
      go_wp2_with (at_builtin; refine app64 rfl _ _ rfl w.heap.size _ _ ys rfl (hrow.out.alloc _) wr.heap.size 1 ((C + y) % 10) rfl (by rw [← HN2.out]; exact (Blk.new wr _ 3).cell 0 rfl) (by omega) (Nat.le_trans hbl.size (by simp)) ?_; intro v' w4 hown' hgrow)
      go_roundw
      case rel => exact ⟨k + 1, (C + y) / 10, ys ++ [(C + y) % 10], by go_num, congrArg (Value.int .i64) HN1.out, HL1.out, by omega, by omega, by show _ = _; rw [List.length_append, hyl.out]; rfl, dig_snoc hyd.out (Nat.mod_lt _ (by omega)), HST.out, hown', (hbl.alloc hbl.size _).grown hgrow.out (Nat.le_trans hbl.size (by simp)) (fun q hq => row_own hrow.out hq)⟩
      case measure => first | (simp [intOf]; omega) | simp [intOf]
    · by_cases H0 : 0 < C
      · have hga : Hid ((dgs 10 A).getD k 0 = 0) := by show _ = _; rw [List.getD_eq_getElem?_getD, List.getElem?_eq_none (by rw [HAL.out]; exact Nat.le_of_not_lt H1)]; rfl
        have hgb : Hid ((dgs 10 B).getD k 0 = 0) := by show _ = _; rw [List.getD_eq_getElem?_getD, List.getElem?_eq_none (by rw [HBL.out]; exact Nat.le_of_not_lt H2)]; rfl
        have hi1 : ¬ ((k : Int) < la) := by omega
        have hi2 : ¬ ((k : Int) < lb) := by omega
        have hi3 : (0 : Int) < C := by omega
        have HN1 : Hid (((C : Int)) / 10 = (((C) / 10 : Nat) : Int)) := by show _ = _; omega
        have HN2 : Hid (((C : Int)) % 10 = (((C) % 10 : Nat) : Int)) := by show _ = _; omega
        have hst := plus_step (dgs 10 A) (dgs 10 B) ys k C hyl.out hyv.out
        rw [hga.out, hgb.out] at hst
        have HST := Lib.hid hst
        have HL1 : Hid ((C) / 10 ≤ 1) := by show _ ≤ _; omega
        clear hst H1 H2 HA HB hga hgb
        go_wp2_with (at_builtin; refine app64 rfl _ _ rfl w.heap.size _ _ ys rfl (hrow.out.alloc _) wr.heap.size 1 ((C) % 10) rfl (by rw [← HN2.out]; exact (Blk.new wr _ 3).cell 0 rfl) (by omega) (Nat.le_trans hbl.size (by simp)) ?_; intro v' w4 hown' hgrow)
        go_roundw
        case rel => exact ⟨k + 1, (C) / 10, ys ++ [(C) % 10], by go_num, congrArg (Value.int .i64) HN1.out, HL1.out, by omega, by omega, by show _ = _; rw [List.length_append, hyl.out]; rfl, dig_snoc hyd.out (Nat.mod_lt _ (by omega)), HST.out, hown', (hbl.alloc hbl.size _).grown hgrow.out (Nat.le_trans hbl.size (by simp)) (fun q hq => row_own hrow.out hq)⟩
        case measure => first | (simp [intOf]; omega) | simp [intOf]
      · obtain rfl : C = 0 := by omega
        have hv2 := hyv.out
        rw [List.take_of_length_le (by rw [HAL.out]; omega), List.take_of_length_le (by rw [HBL.out]; omega), val_dgs (by omega), val_dgs (by omega), Nat.zero_mul, Nat.add_zero] at hv2
        have c := t120 _ k ys wr (ownsRow_mono hrow.out (Nat.zero_le _)) hyd.out
        rw [hv2] at c
        have CC := Lib.hid c
        have hi1 : ¬ ((k : Int) < la) := by omega
        have hi2 : ¬ ((k : Int) < lb) := by omega
        have hi3 : ¬ ((0 : Int) < ((0 : Nat) : Int)) := by omega
        clear hv2 c H1 H2 HA HB H0
        go_wp2_with fail
        refine CC.out.mono ?_
        rintro e w2 ⟨v, rfl, hv, rfl, hfr⟩
        obtain ⟨pv, cv, rfl, -, -, -⟩ := hv.cells
        go_wp2_with fail
        go_ret
        exact ⟨_, rfl, hv, hbl, fun g hg => row_own hrow.out (hfr g hg)⟩
theorem minus_step (xs bs ys : List Nat) (k C m D : Nat) (hl : ys.length = k) (hv : val 10 ys + val 10 (bs.take k) = val 10 (xs.take k) + C * 10 ^ k) (h : m + C + bs.getD k 0 = xs.getD k 0 + 10 * D) :
    val 10 (ys ++ [m]) + val 10 (bs.take (k + 1)) = val 10 (xs.take (k + 1)) + D * 10 ^ (k + 1) := by
  rw [val_snoc, val_take_succD, val_take_succD, hl, Nat.pow_succ]
  generalize xs.getD k 0 = x at *
  generalize bs.getD k 0 = y at *
  generalize 10 ^ k = P at *
  have h4 : P * (m + C + y) = P * (x + 10 * D) := by rw [h]
  grind
set_option maxRecDepth 100000 in
set_option maxHeartbeats 2000000 in
theorem t126 (va vb : Value) (A B : Nat) (w : World) (hA : Dg w va A) (hB : Dg w vb B) (hl : Ld A ≤ 1000000) (hle : B ≤ A) :
    Calls Tryz.prog 126 #[va, vb] w (DgR (A - B) w) := by
  obtain ⟨p, ca, rfl, a1, a2, hA1⟩ := hA.cells
  obtain ⟨q, cb, rfl, b1, b2, hB1⟩ := hB.cells
  unfold maxLen at a2 b2
  have hlen : Ld B ≤ Ld A := dgs_length_mono (by omega) hle
  have HA := Lib.hid hA1
  have HB := Lib.hid hB1
  have HLE := Lib.hid hle
  have HAL : Hid ((dgs 10 A).length = Ld A) := rfl
  have HBL : Hid ((dgs 10 B).length = Ld B) := rfl
  clear hA hB hA1 hB1
  generalize Ld A = la at *
  generalize Ld B = lb at *
  go_enter Tryz.func126, Tryz.ntmps126
  go_wp2_with fail
  go_loopw [5, 6, 7] (fun u c i wr => ∃ (k C : Nat) (ys : List Nat), i = .int .i64 k ∧ c = .int .i64 C ∧ C ≤ 1 ∧ k ≤ la ∧ Hid (ys.length = k) ∧ Hid (∀ z ∈ ys, z < 10) ∧ Hid (val 10 ys + val 10 ((dgs 10 B).take k) = val 10 ((dgs 10 A).take k) + C * 10 ^ k) ∧ Hid (wr.ownsRow w.heap.size 3 1 u k (c64 ys)) ∧ Below w.heap.size w wr) (fun _ _ i _ => la - (intOf i).toNat)
  case atStart => exact ⟨0, 0, [], rfl, rfl, by omega, by omega, rfl, (fun z hz => by cases hz), by show _ = _; simp, World.ownsRow_nil _ _ _ _, Below.refl _ _⟩
  case round =>
    obtain ⟨k, C, ys, rfl, rfl, hC, hk, hyl, hyd, hyv, hrow, hbl⟩ := hrel
    have HB0 : Hid (∀ (g j : Nat) (x : Value), w.cell? ⟨g, j, none⟩ = some x → wr.cell? ⟨g, j, none⟩ = some x) := fun g j x h => (hbl.cell (p := ⟨g, j, none⟩) (World.block_lt_of_cell? w _ h)).trans h
    obtain ⟨pu, cu, rfl⟩ := row_form hrow.out
    by_cases H1 : k < la
    · obtain ⟨x, hx⟩ : ∃ x, x = (dgs 10 A).getD k 0 := ⟨_, rfl⟩
      obtain ⟨y, hy⟩ : ∃ y, y = (dgs 10 B).getD k 0 := ⟨_, rfl⟩
      have hxl : x < 10 := by rw [hx]; exact getD_lt (by omega) _ (dgs10_lt A) k
      have hyl10 : y < 10 := by rw [hy]; exact getD_lt (by omega) _ (dgs10_lt B) k
      have HX1 : Hid (x = (dgs 10 A)[k]'(by rw [HAL.out]; exact H1)) := by show _ = _; rw [hx]; simp [List.getD_eq_getElem?_getD, List.getElem?_eq_getElem (show k < (dgs 10 A).length by rw [HAL.out]; exact H1)]
      have HX := Lib.hid hx.symm
      have HY := Lib.hid hy.symm
      clear hx hy
      by_cases H2 : k < lb <;> by_cases H3 : x < C + y
      · have hka : k < (dgs 10 A).length := by rw [HAL.out]; exact H1
        obtain ⟨ga, rfl, -, hca⟩ := HA.out k _ (List.getElem?_eq_getElem hka)
        have hga : Hid ((dgs 10 A).getD k 0 = x) := HX.out
        rw [← HX1.out] at hca
        have hca := HB0.out _ _ _ hca
        have hkb : k < (dgs 10 B).length := by rw [HBL.out]; exact H2
        obtain ⟨gb, rfl, -, hcb⟩ := HB.out k _ (List.getElem?_eq_getElem hkb)
        have hyy : (dgs 10 B)[k] = y := by rw [← HY.out]; simp [List.getD_eq_getElem?_getD, List.getElem?_eq_getElem hkb]
        rw [hyy] at hcb
        have hcb := HB0.out _ _ _ hcb
        clear hyy
        have hi3 : (x : Int) - C - y < 0 := by omega
        have HN1 : Hid ((x : Int) - C - y + 10 = (((x + 10 - C - y) : Nat) : Int)) := by show _ = _; omega
        have hi1 : (k : Int) < la := by omega
        have hi2 : (k : Int) < lb := by omega
        have HM : Hid ((x + 10 - C - y) < 10) := by show _ < _; omega
        have hst := minus_step (dgs 10 A) (dgs 10 B) ys k C (x + 10 - C - y) 1 hyl.out hyv.out (by rw [HX.out, HY.out]; omega)
        have HST := Lib.hid hst
        clear hst H1 H2 HA HB hga HX HX1 HY hle
        go_wp2_with (at_builtin; refine app64 rfl _ _ rfl w.heap.size _ _ ys rfl (hrow.out.alloc _) wr.heap.size 1 (x + 10 - C - y) rfl (by rw [← HN1.out]; exact (Blk.new wr _ 3).cell 0 rfl) (by omega) (Nat.le_trans hbl.size (by simp)) ?_; intro v' w4 hown' hgrow)
        go_roundw
        case rel => exact ⟨k + 1, 1, ys ++ [(x + 10 - C - y)], by go_num, rfl, by omega, by omega, by show _ = _; rw [List.length_append, hyl.out]; rfl, dig_snoc hyd.out HM.out, HST.out, hown', (hbl.alloc hbl.size _).grown hgrow.out (Nat.le_trans hbl.size (by simp)) (fun q hq => row_own hrow.out hq)⟩
        case measure => first | (simp [intOf]; omega) | simp [intOf]
      · have hka : k < (dgs 10 A).length := by rw [HAL.out]; exact H1
        obtain ⟨ga, rfl, -, hca⟩ := HA.out k _ (List.getElem?_eq_getElem hka)
        have hga : Hid ((dgs 10 A).getD k 0 = x) := HX.out
        rw [← HX1.out] at hca
        have hca := HB0.out _ _ _ hca
        have hkb : k < (dgs 10 B).length := by rw [HBL.out]; exact H2
        obtain ⟨gb, rfl, -, hcb⟩ := HB.out k _ (List.getElem?_eq_getElem hkb)
        have hyy : (dgs 10 B)[k] = y := by rw [← HY.out]; simp [List.getD_eq_getElem?_getD, List.getElem?_eq_getElem hkb]
        rw [hyy] at hcb
        have hcb := HB0.out _ _ _ hcb
        clear hyy
        have hi3 : ¬ ((x : Int) - C - y < 0) := by omega
        have HN1 : Hid ((x : Int) - C - y = (((x - C - y) : Nat) : Int)) := by show _ = _; omega
        have hi1 : (k : Int) < la := by omega
        have hi2 : (k : Int) < lb := by omega
        have HM : Hid ((x - C - y) < 10) := by show _ < _; omega
        have hst := minus_step (dgs 10 A) (dgs 10 B) ys k C (x - C - y) 0 hyl.out hyv.out (by rw [HX.out, HY.out]; omega)
        have HST := Lib.hid hst
        clear hst H1 H2 HA HB hga HX HX1 HY hle
        go_wp2_with (at_builtin; refine app64 rfl _ _ rfl w.heap.size _ _ ys rfl (hrow.out.alloc _) wr.heap.size 1 (x - C - y) rfl (by rw [← HN1.out]; exact (Blk.new wr _ 3).cell 0 rfl) (by omega) (Nat.le_trans hbl.size (by simp)) ?_; intro v' w4 hown' hgrow)
        go_roundw
        case rel => exact ⟨k + 1, 0, ys ++ [(x - C - y)], by go_num, rfl, by omega, by omega, by show _ = _; rw [List.length_append, hyl.out]; rfl, dig_snoc hyd.out HM.out, HST.out, hown', (hbl.alloc hbl.size _).grown hgrow.out (Nat.le_trans hbl.size (by simp)) (fun q hq => row_own hrow.out hq)⟩
        case measure => first | (simp [intOf]; omega) | simp [intOf]
      · have hka : k < (dgs 10 A).length := by rw [HAL.out]; exact H1
        obtain ⟨ga, rfl, -, hca⟩ := HA.out k _ (List.getElem?_eq_getElem hka)
        have hga : Hid ((dgs 10 A).getD k 0 = x) := HX.out
        rw [← HX1.out] at hca
        have hca := HB0.out _ _ _ hca
        have hy0 : y = 0 := by rw [← HY.out, List.getD_eq_getElem?_getD, List.getElem?_eq_none (by rw [HBL.out]; exact Nat.le_of_not_lt H2)]; rfl
        subst hy0
        have hi3 : (x : Int) - C < 0 := by omega
        have HN1 : Hid ((x : Int) - C + 10 = (((x + 10 - C - 0) : Nat) : Int)) := by show _ = _; omega
        have hi1 : (k : Int) < la := by omega
        have hi2 : ¬ ((k : Int) < lb) := by omega
        have HM : Hid ((x + 10 - C - 0) < 10) := by show _ < _; omega
        have hst := minus_step (dgs 10 A) (dgs 10 B) ys k C (x + 10 - C - 0) 1 hyl.out hyv.out (by rw [HX.out, HY.out]; omega)
        have HST := Lib.hid hst
        clear hst H1 H2 HA HB hga HX HX1 HY hle
        go_wp2_with (at_builtin; refine app64 rfl _ _ rfl w.heap.size _ _ ys rfl (hrow.out.alloc _) wr.heap.size 1 (x + 10 - C - 0) rfl (by rw [← HN1.out]; exact (Blk.new wr _ 3).cell 0 rfl) (by omega) (Nat.le_trans hbl.size (by simp)) ?_; intro v' w4 hown' hgrow)
        go_roundw
        case rel => exact ⟨k + 1, 1, ys ++ [(x + 10 - C - 0)], by go_num, rfl, by omega, by omega, by show _ = _; rw [List.length_append, hyl.out]; rfl, dig_snoc hyd.out HM.out, HST.out, hown', (hbl.alloc hbl.size _).grown hgrow.out (Nat.le_trans hbl.size (by simp)) (fun q hq => row_own hrow.out hq)⟩
        case measure => first | (simp [intOf]; omega) | simp [intOf]
      · have hka : k < (dgs 10 A).length := by rw [HAL.out]; exact H1
        obtain ⟨ga, rfl, -, hca⟩ := HA.out k _ (List.getElem?_eq_getElem hka)
        have hga : Hid ((dgs 10 A).getD k 0 = x) := HX.out
        rw [← HX1.out] at hca
        have hca := HB0.out _ _ _ hca
        have hy0 : y = 0 := by rw [← HY.out, List.getD_eq_getElem?_getD, List.getElem?_eq_none (by rw [HBL.out]; exact Nat.le_of_not_lt H2)]; rfl
        subst hy0
        have hi3 : ¬ ((x : Int) - C < 0) := by omega
        have HN1 : Hid ((x : Int) - C = (((x - C - 0) : Nat) : Int)) := by show _ = _; omega
        have hi1 : (k : Int) < la := by omega
        have hi2 : ¬ ((k : Int) < lb) := by omega
        have HM : Hid ((x - C - 0) < 10) := by show _ < _; omega
        have hst := minus_step (dgs 10 A) (dgs 10 B) ys k C (x - C - 0) 0 hyl.out hyv.out (by rw [HX.out, HY.out]; omega)
        have HST := Lib.hid hst
        clear hst H1 H2 HA HB hga HX HX1 HY hle
        go_wp2_with (at_builtin; refine app64 rfl _ _ rfl w.heap.size _ _ ys rfl (hrow.out.alloc _) wr.heap.size 1 (x - C - 0) rfl (by rw [← HN1.out]; exact (Blk.new wr _ 3).cell 0 rfl) (by omega) (Nat.le_trans hbl.size (by simp)) ?_; intro v' w4 hown' hgrow)
        go_roundw
        case rel => exact ⟨k + 1, 0, ys ++ [(x - C - 0)], by go_num, rfl, by omega, by omega, by show _ = _; rw [List.length_append, hyl.out]; rfl, dig_snoc hyd.out HM.out, HST.out, hown', (hbl.alloc hbl.size _).grown hgrow.out (Nat.le_trans hbl.size (by simp)) (fun q hq => row_own hrow.out hq)⟩
        case measure => first | (simp [intOf]; omega) | simp [intOf]
    · obtain rfl : k = la := by omega
      have hv2 := hyv.out
      rw [List.take_of_length_le (by rw [HBL.out]; omega), List.take_of_length_le (by rw [HAL.out]; omega), val_dgs (by omega), val_dgs (by omega)] at hv2
      have hlt := val_lt (b := 10) ys hyd.out
      rw [hyl.out] at hlt
      have hAB := HLE.out
      have hC0 : C = 0 := by
        rcases Nat.eq_zero_or_pos C with h | h
        · exact h
        · obtain rfl : C = 1 := by omega
          rw [Nat.one_mul] at hv2
          omega
      subst hC0
      rw [Nat.zero_mul, Nat.add_zero] at hv2
      have hv3 : val 10 ys = A - B := by omega
      have c := t120 _ k ys wr (ownsRow_mono hrow.out (Nat.zero_le _)) hyd.out
      rw [hv3] at c
      have CC := Lib.hid c
      clear hv2 hv3 hlt hAB c H1 HA HB hle HLE
      go_wp2_with fail
      refine CC.out.mono ?_
      rintro e w2 ⟨v, rfl, hv, rfl, hfr⟩
      obtain ⟨pv, cv, rfl, -, -, -⟩ := hv.cells
      go_wp2_with fail
      go_ret
      exact ⟨_, rfl, hv, hbl, fun g hg => row_own hrow.out (hfr g hg)⟩
theorem set_le {l : List Nat} {E k x : Nat} (h : ∀ z ∈ l, z ≤ E) (hx : x ≤ E) : ∀ z ∈ l.set k x, z ≤ E := fun z hz => by
  rcases List.mem_or_eq_of_mem_set hz with h1 | h1
  · exact h z h1
  · rw [h1]; exact hx
/-- one more product of two digits -/
theorem dgt_step (qs bs : List Nat) (k j X V : Nat) (hk : k + j < qs.length) (hj : j < bs.length) (hv : val 10 qs = V + X * 10 ^ k * val 10 (bs.take j)) :
    val 10 (qs.set (k + j) (qs[k + j] + X * bs[j])) = V + X * 10 ^ k * val 10 (bs.take (j + 1)) := by
  have h1 := val_set 10 qs (k + j) (qs[k + j] + X * bs[j]) hk
  rw [val_take_succ 10 bs j hj, Nat.mul_add]
  have h2 : 10 ^ (k + j) * (qs[k + j] + X * bs[j]) = 10 ^ (k + j) * qs[k + j] + X * 10 ^ k * (10 ^ j * bs[j]) := by rw [Nat.pow_add]; grind
  omega
/-- digits that are carried up to i -/
def Nrm (ys : List Nat) (i E : Nat) : Prop := ∀ m z, ys[m]? = some z → (m < i → z < 10) ∧ (i < m → z ≤ E) ∧ z ≤ 2 * E + 10
theorem nrm_step {ys : List Nat} {i E : Nat} (h : Nrm ys i E) (hi : i + 1 < ys.length) :
    Nrm ((ys.set (i + 1) (ys[i + 1] + ys[i] / 10)).set i (ys[i] % 10)) (i + 1) E ∧ val 10 ((ys.set (i + 1) (ys[i + 1] + ys[i] / 10)).set i (ys[i] % 10)) = val 10 ys := by
  have ha := h i ys[i] (List.getElem?_eq_getElem (by omega))
  have hb := h (i + 1) ys[i + 1] (List.getElem?_eq_getElem hi)
  refine ⟨fun m z hz => ?_, ?_⟩
  · rw [List.getElem?_set, List.length_set] at hz
    by_cases h1 : i = m
    · rw [if_pos h1, if_pos (by omega)] at hz
      obtain rfl := Option.some.inj hz
      omega
    · rw [if_neg h1, List.getElem?_set] at hz
      by_cases h2 : i + 1 = m
      · rw [if_pos h2, if_pos (by omega)] at hz
        obtain rfl := Option.some.inj hz
        have := hb.2.1 (by omega)
        omega
      · rw [if_neg h2] at hz
        have := h m z hz
        omega
  · have h1 := val_set 10 ys (i + 1) (ys[i + 1] + ys[i] / 10) hi
    have h2 := val_set 10 (ys.set (i + 1) (ys[i + 1] + ys[i] / 10)) i (ys[i] % 10) (by rw [List.length_set]; omega)
    rw [List.getElem_set_ne (by omega)] at h2
    have h3 := Nat.mod_add_div ys[i] 10
    have h4 : 10 ^ (i + 1) = 10 ^ i * 10 := Nat.pow_succ ..
    generalize ys[i] % 10 = m at *
    generalize ys[i] / 10 = q at *
    generalize val 10 (ys.set (i + 1) (ys[i + 1] + q)) = V1 at *
    generalize val 10 ((ys.set (i + 1) (ys[i + 1] + q)).set i m) = V2 at *
    generalize ys[i + 1] = b at *
    rw [← h3] at h2
    rw [h4] at h1
    generalize 10 ^ i = P at *
    grind
theorem nrm_end {ys : List Nat} {n E V : Nat} (h : Nrm ys n E) (hl : ys.length = n + 1) (hv : val 10 ys = V) (hV : V < 10 ^ n) : ∀ z ∈ ys, z < 10 := by
  intro z hz
  obtain ⟨m, hm, rfl⟩ := List.mem_iff_getElem.1 hz
  have h1 := h m ys[m] (List.getElem?_eq_getElem hm)
  by_cases hmn : m < n
  · exact h1.1 hmn
  · obtain rfl : m = n := by omega
    have h2 := val_take_succ 10 ys m hm
    rw [List.take_of_length_le (by omega), hv] at h2
    rcases Nat.eq_zero_or_pos ys[m] with h3 | h3
    · omega
    · have : 10 ^ m * 1 ≤ 10 ^ m * ys[m] := Nat.mul_le_mul_left _ h3
      omega
theorem Blk.setN {w : World} {g k z : Nat} {qs : List Nat} (h : Blk w g 3 (c64 qs)) : Blk (w.setCell ⟨g, k, none⟩ (.int .i64 z)) g 3 (c64 (qs.set k z)) := by
  have := h.set k (.int .i64 (z : Int))
  rw [c64, ← List.map_set] at this
  exact this
set_option maxRecDepth 100000 in
set_option maxHeartbeats 4000000 in
theorem t77 (va vb : Value) (A B : Nat) (w : World) (hA : Dg w va A) (hB : Dg w vb B) (hl : Ld A ≤ 100000) (hl' : Ld B ≤ 100000) :
    Calls Tryz.prog 77 #[va, vb] w (DgR (A * B) w) := by
  obtain ⟨p, ca, rfl, a1, a2, hA1⟩ := hA.cells
  obtain ⟨q, cb, rfl, b1, b2, hB1⟩ := hB.cells
  unfold maxLen at a2 b2
  have HA := Lib.hid hA1
  have HB := Lib.hid hB1
  have HAL : Hid ((dgs 10 A).length = Ld A) := rfl
  have HBL : Hid ((dgs 10 B).length = Ld B) := rfl
  have HV : Hid (A * B < 10 ^ (Ld A + Ld B)) := by
    show _ < _
    rw [Nat.pow_add]
    exact Nat.mul_lt_mul'' (lt_pow_dgs (by omega) A) (lt_pow_dgs (by omega) B)
  clear hA hB hA1 hB1
  generalize Ld A = la at *
  generalize Ld B = lb at *
  go_enter Tryz.func77, Tryz.ntmps77
  go_wp2_with (at_make; refine mk64 _ rfl _ _ rfl _ _ (la + lb + 1) rfl rfl (by omega) (by omega) (by omega) ?_; intro w1 hb1 hbl1)
  go_loopw [6] (fun i wr => ∃ (k : Nat) (ps : List Nat), k ≤ la ∧ i = .int .i64 k ∧ Hid (ps.length = la + lb + 1) ∧ Hid (∀ z ∈ ps, z ≤ 81 * (k * lb)) ∧ Hid (val 10 ps = val 10 ((dgs 10 A).take k) * B) ∧ Hid (Blk wr w.heap.size 3 (c64 ps)) ∧ Below w.heap.size w wr) (fun i _ => la - (intOf i).toNat)
  case atStart => exact ⟨0, List.replicate (la + lb + 1) 0, by omega, rfl, by show _ = _; simp, (by intro z hz; rw [(List.mem_replicate.1 hz).2]; omega), by show _ = _; rw [val_replicate]; simp, hb1, hbl1⟩
  case round =>
    obtain ⟨k, ps, hk, rfl, hpl, hpd, hpv, hpb, hbl⟩ := hrel
    by_cases hlt : k < la
    · have hja : k < (dgs 10 A).length := by rw [HAL.out]; omega
      obtain ⟨ga, rfl, -, hca0⟩ := HA.out k _ (List.getElem?_eq_getElem hja)
      have HTK := Lib.hid (val_take_succ 10 (dgs 10 A) k hja)
      have hXl := dgs10_lt A _ (List.getElem_mem hja)
      have HCA : Hid (∀ W : World, Below w.heap.size w W → W.cell? ⟨ga, k, none⟩ = some (.int .i64 ((dgs 10 A)[k] : Nat))) := fun W h => (h.cell (p := ⟨ga, k, none⟩) (World.block_lt_of_cell? w _ hca0)).trans hca0
      generalize (dgs 10 A)[k] = X at HCA HTK hXl
      obtain ⟨M, hM⟩ : ∃ M, M = k * lb := ⟨_, rfl⟩
      have hM1 : M ≤ 10000000000 := by rw [hM]; exact Nat.le_trans (Nat.mul_le_mul (show k ≤ 100000 by omega) hl') (by omega)
      rw [← hM] at hpd
      have HM := Lib.hid hM
      clear hM hca0
      have hki : (k : Int) < la := by omega
      go_wp2
      go_loopw [7] (fun i wr => ∃ (j : Nat) (qs : List Nat), j ≤ lb ∧ i = .int .i64 j ∧ Hid (qs.length = la + lb + 1) ∧ Hid (∀ z ∈ qs, z ≤ 81 * (M + j)) ∧ Hid (val 10 qs = val 10 ps + X * 10 ^ k * val 10 ((dgs 10 B).take j)) ∧ Hid (Blk wr w.heap.size 3 (c64 qs)) ∧ Below w.heap.size w wr) (fun i _ => lb - (intOf i).toNat)
      case atStart => exact ⟨0, ps, by omega, rfl, hpl, hpd, by show _ = _; simp, hpb, hbl⟩
      case round =>
        obtain ⟨j, qs, hj, rfl, hql, hqd, hqv, hqb, hbl2⟩ := hrel
        by_cases hjlt : j < lb
        · have hjb : j < (dgs 10 B).length := by rw [HBL.out]; omega
          have hkj : k + j < qs.length := by rw [hql.out]; omega
          obtain ⟨gb, rfl, -, hcb0⟩ := HB.out j _ (List.getElem?_eq_getElem hjb)
          have hcb : wr.cell? ⟨gb, j, none⟩ = some (.int .i64 ((dgs 10 B)[j] : Nat)) := (hbl2.cell (p := ⟨gb, j, none⟩) (World.block_lt_of_cell? w _ hcb0)).trans hcb0
          have hca := HCA.out wr hbl2
          have hcq := hqb.out.cell (k + j) (c64_get (List.getElem?_eq_getElem hkj))
          have hfree : wr.frozen? ⟨w.heap.size, k + j, none⟩ = false := hqb.out.free _
          have hstep := dgt_step qs (dgs 10 B) k j X _ hkj hjb hqv.out
          have hYl := dgs10_lt B _ (List.getElem_mem hjb)
          have hQl := hqd.out _ (List.getElem_mem hkj)
          generalize (dgs 10 B)[j] = Y at hcb hstep hYl
          generalize qs[k + j] = Q at hcq hstep hQl
          have HST := Lib.hid hstep
          have hXY : X * Y ≤ 81 := Nat.le_trans (Nat.mul_le_mul (show X ≤ 9 by omega) (show Y ≤ 9 by omega)) (by decide)
          have hXY0 : (0 : Int) ≤ (X : Int) * Y := by rw [← Int.natCast_mul]; omega
          have hXY1 : (X : Int) * Y ≤ 81 := by rw [← Int.natCast_mul]; omega
          have HC1 : Hid ((Q : Int) + X * Y = ((Q + X * Y : Nat) : Int)) := by show _ = _; rw [Int.natCast_add, Int.natCast_mul]
          have HSET : Hid (∀ z : Nat, Blk (wr.setCell ⟨w.heap.size, k + j, none⟩ (.int .i64 z)) w.heap.size 3 (c64 (qs.set (k + j) z))) := fun z => hqb.out.setN
          have HLE : Hid (∀ z ∈ qs.set (k + j) (Q + X * Y), z ≤ 81 * (M + (j + 1))) := set_le (fun z hz => Nat.le_trans (hqd.out z hz) (by omega)) (by omega)
          have hj1 : (j : Int) < lb := by omega
          have hkj0 : (0 : Int) ≤ (k : Int) + j := by omega
          have hkj1 : (k : Int) + j < (la : Int) + lb + 1 := by omega
          clear hstep hcb0
          go_wp2
          go_region
          go_wp2
          go_roundw
          case rel => exact ⟨j + 1, qs.set (k + j) (Q + X * Y), by omega, by go_num, by show _ = _; rw [List.length_set]; exact hql.out, HLE.out, HST.out, by show Blk _ _ _ _; rw [HC1.out]; exact HSET.out _, (hbl2.setCell (Nat.le_refl _) _).drew⟩
          case measure => first | (simp [intOf]; omega) | simp [intOf]
        · obtain rfl : j = lb := by omega
          have HVAL : Hid (val 10 qs = val 10 ((dgs 10 A).take (k + 1)) * B) := by
            show _ = _
            have h1 := hqv.out
            rw [List.take_of_length_le (by rw [HBL.out]; omega), val_dgs (by omega), hpv.out] at h1
            rw [h1, HTK.out, Nat.add_mul, Nat.mul_comm X]
          have HLE : Hid (∀ z ∈ qs, z ≤ 81 * ((k + 1) * j)) := by
            show ∀ z ∈ qs, _
            rw [show (k + 1) * j = k * j + j from Nat.succ_mul k j, ← HM.out]
            exact hqd.out
          have hjn : ¬ ((j : Int) < j) := by omega
          go_wp2
          go_roundw
          case rel => exact ⟨k + 1, qs, by omega, by go_num, hql, HLE, HVAL, hqb, hbl2⟩
          case measure => first | (simp [intOf]; omega) | simp [intOf]
    · obtain rfl : k = la := by omega
      have HPV : Hid (val 10 ps = A * B) := by
        show _ = _
        have h1 := hpv.out
        rw [List.take_of_length_le (by rw [HAL.out]; omega), val_dgs (by omega)] at h1
        exact h1
      obtain ⟨E, hE⟩ : ∃ E, E = 81 * (k * lb) := ⟨_, rfl⟩
      have hE1 : E ≤ 810000000000 := by
        rw [hE]
        have : k * lb ≤ 100000 * 100000 := Nat.mul_le_mul hl hl'
        omega
      rw [← hE] at hpd
      have HNR : Hid (Nrm ps 0 E) := fun m z hz => by
        have := hpd.out z (List.mem_of_getElem? hz)
        omega
      have hki : ¬ ((k : Int) < k) := by omega
      clear hE hpv hpd HA HB
      go_wp2
      go_loopw [8] (fun i wr => ∃ (i0 : Nat) (qs : List Nat), i0 ≤ k + lb ∧ i = .int .i64 i0 ∧ Hid (qs.length = k + lb + 1) ∧ Hid (Nrm qs i0 E) ∧ Hid (val 10 qs = A * B) ∧ Hid (Blk wr w.heap.size 3 (c64 qs)) ∧ Below w.heap.size w wr) (fun i _ => k + lb - (intOf i).toNat)
      case atStart => exact ⟨0, ps, by omega, rfl, hpl, HNR, HPV, hpb, hbl⟩
      case round =>
        obtain ⟨i0, qs, hi0, rfl, hql, hqn, hqv, hqb, hbl2⟩ := hrel
        by_cases hlt2 : i0 < k + lb
        · have hi1 : i0 + 1 < qs.length := by rw [hql.out]; omega
          have hi2 : i0 < qs.length := by omega
          have hst := nrm_step hqn.out hi1
          have hb1 := (hqn.out i0 qs[i0] (List.getElem?_eq_getElem hi2)).2.2
          have hb2 := (hqn.out (i0 + 1) qs[i0 + 1] (List.getElem?_eq_getElem hi1)).2.2
          have hca := hqb.out.cell i0 (c64_get (List.getElem?_eq_getElem hi2))
          have hcb := hqb.out.cell (i0 + 1) (c64_get (List.getElem?_eq_getElem hi1))
          have hfa : wr.frozen? ⟨w.heap.size, i0, none⟩ = false := hqb.out.free _
          have hfb : wr.frozen? ⟨w.heap.size, i0 + 1, none⟩ = false := hqb.out.free _
          have hx0 : qs[i0]? = some qs[i0] := List.getElem?_eq_getElem hi2
          generalize qs[i0] = X at hst hb1 hca hx0
          have HX0 := Lib.hid hx0
          clear hx0
          generalize qs[i0 + 1] = Y at hst hb2 hcb
          have HST := Lib.hid hst
          have HC1 : Hid ((Y : Int) + X / 10 = ((Y + X / 10 : Nat) : Int)) := by show _ = _; omega
          have HC2 : Hid ((X : Int) % 10 = ((X % 10 : Nat) : Int)) := by show _ = _; omega
          have HS1 : Hid (Blk (wr.setCell ⟨w.heap.size, i0 + 1, none⟩ (.int .i64 ((Y : Int) + X / 10))).drew w.heap.size 3 (c64 (qs.set (i0 + 1) (Y + X / 10)))) := by
            show Blk _ _ _ _
            rw [HC1.out]
            exact hqb.out.setN
          have hcx : (wr.setCell ⟨w.heap.size, i0 + 1, none⟩ (.int .i64 ((Y : Int) + X / 10))).drew.cell? ⟨w.heap.size, i0, none⟩ = some (.int .i64 (X : Int)) := HS1.out.cell i0 (c64_get (by rw [List.getElem?_set_ne (by omega)]; exact HX0.out))
          have hi3 : (i0 : Int) < (k : Int) + lb + 1 - 1 := by omega
          have hi4 : (i0 : Int) + 1 < (k : Int) + lb + 1 := by omega
          have hi5 : (i0 : Int) < (k : Int) + lb + 1 := by omega
          clear hst
          go_wp2
          go_region
          go_wp2
          go_roundw
          case rel => exact ⟨i0 + 1, (qs.set (i0 + 1) (Y + X / 10)).set i0 (X % 10), by omega, by go_num, by show _ = _; rw [List.length_set, List.length_set]; exact hql.out, HST.out.1, by show _ = _; rw [HST.out.2]; exact hqv.out, by show Blk _ _ _ _; rw [HC2.out]; exact HS1.out.setN, ((hbl2.setCell (Nat.le_refl _) _).setCell (Nat.le_refl _) _).drew⟩
          case measure => first | (simp [intOf]; omega) | simp [intOf]
        · obtain rfl : i0 = k + lb := by omega
          have hd := nrm_end hqn.out hql.out hqv.out HV.out
          have hrow : wr.ownsRow 0 3 1 (.slice (some ⟨w.heap.size, 0, none⟩) (k + lb + 1) (k + lb + 1)) (k + lb + 1) (c64 qs) := by
            have h9 := hqb.out.row (base := 0) (n := k + lb + 1) (Nat.zero_le _) (by simp [hql.out]) (by simp [hql.out]; unfold maxLen; omega)
            rw [List.take_of_length_le (by simp [hql.out])] at h9
            simpa [hql.out] using h9
          have c := t120 _ _ qs wr hrow hd
          rw [hqv.out] at c
          have CC := Lib.hid c
          have hi3 : ¬ (((k + lb : Nat) : Int) < (k : Int) + lb + 1 - 1) := by omega
          clear hd hrow c
          go_wp2_with fail
          refine CC.out.mono ?_
          rintro e w2 ⟨v, rfl, hv, rfl, hfr⟩
          obtain ⟨pv, cv, rfl, -, -, -⟩ := hv.cells
          go_wp2_with fail
          go_ret
          exact ⟨_, rfl, hv, hbl2, fun g hg => by have h9 := hfr g hg; simp [Value.ownBlock] at h9; omega⟩
end Go.Proofs.YtifhiefdhhmdeaaGreatDoor
