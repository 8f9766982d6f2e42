/- The reference's division, gcd, small numbers, digits to a base, numbers, Valid. -/
import Derived.Test.YtifhiefdhhmdeaaGreatDoorO
import Derived.Test.YtifhiefdhhmdeaaGreatDoorXA
namespace Go.Proofs.YtifhiefdhhmdeaaGreatDoor
open Go Go.RowKit

/-- two rows of digits as results -/
def DgR2 (q r : Nat) (w : World) (e : Ending) (w' : World) : Prop := ∃ v u, e = .returned (.tuple #[v, u]) ∧ Dg w' v q ∧ Dg w' u r ∧ Below w.heap.size w w'
theorem Dg.setCell {w : World} {v : Value} {n g j : Nat} {u : Value} (h : Dg w v n) (hne : v.ownBlock ≠ some g) : Dg (w.setCell ⟨g, j, none⟩ u) v n := ownsRow_setCell_other h hne u
theorem Dg.below0 {w w' : World} {v : Value} {n : Nat} (h : Dg w v n) (hb : Below w.heap.size w w') : Dg w' v n := h.below hb
theorem below_drewN0 (w : World) (n : Nat) : Below w.heap.size w (w.drewN n) := ⟨rfl, rfl, rfl, Nat.le_refl _, fun _ _ => rfl⟩
theorem cmpD_ge {x y : Nat} (h : y ≤ x) : ¬ (cmpN x y < 0) ∧ (0 ≤ cmpN x y) := by
  unfold cmpN; rw [if_neg (by omega)]; split <;> decide
theorem cmpD_lt {x y : Nat} (h : x < y) : ¬ (0 ≤ cmpN x y) := by rw [cmpN_lt h]; decide
/-- what a cell says, as a number -/
def cellNat (w : World) (g j : Nat) : Nat := match w.cell? ⟨g, j, none⟩ with | some v => (intOf v).toNat | none => 0
theorem cellNat_of {w : World} {g j c : Nat} (h : w.cell? ⟨g, j, none⟩ = some (.int .i64 (c : Int))) : cellNat w g j = c := by
  unfold cellNat
  rw [h]
  simp [intOf]
theorem bSelf0 (X : World) (o : Obj) : Below X.heap.size X (X.alloc o) := (Below.refl _ _).alloc (Nat.le_refl _) o
theorem built_row (w : World) (x : Nat) : (w.alloc (.cells #[.int .i64 (x : Int)] 3)).ownsRow w.heap.size 3 1 (.slice (some ⟨w.heap.size, 0, none⟩) 1 1) 1 (c64 [x]) := by
  have h := (Blk.new w #[.int .i64 (x : Int)] 3).row (base := w.heap.size) (n := 1) (Nat.le_refl _) (by simp) (by simp [maxLen])
  simpa [c64] using h
theorem dgs_cons_lt {x R : Nat} (hx : x < 10) : ∀ z ∈ x :: dgs 10 R, z < 10 := fun z hz => by
  rcases List.mem_cons.1 hz with h | h
  · rw [h]; exact hx
  · exact dgs10_lt R z h
theorem val_cons_dgs (x R : Nat) : val 10 (x :: dgs 10 R) = x + 10 * R := by rw [val_cons, val_dgs (by omega)]
theorem Ld_le {n k : Nat} : Ld n ≤ k ↔ n < 10 ^ k := dgs_length_le (by omega) n k
theorem Ld_ten {n m k : Nat} (h : n < 10 * m) (hm : Ld m ≤ k) : Ld n ≤ k + 1 := by
  rw [Ld_le] at hm ⊢
  rw [Nat.pow_succ]
  omega
/-- a digit of the quotient -/
theorem parts_step (xs qs : List Nat) (j B R c R2 : Nat) (hx : j < xs.length) (hq : j < qs.length) (hv : val 10 (xs.drop (j + 1)) = val 10 (qs.drop (j + 1)) * B + R) (h : c * B + R2 = xs[j] + 10 * R) :
    val 10 (xs.drop j) = val 10 ((qs.set j c).drop j) * B + R2 := by
  rw [val_drop 10 xs j hx, val_drop 10 (qs.set j c) j (by rw [List.length_set]; exact hq), drop_set_succ, List.getElem_set_self, hv]
  generalize val 10 (qs.drop (j + 1)) = V at *
  generalize xs[j] = x at *
  grind
theorem div_done {A B Q R : Nat} (h : A = Q * B + R) (hR : R < B) : Q = A / B ∧ R = A % B := by
  rw [h]
  constructor
  · rw [Nat.add_comm, Nat.add_mul_div_right _ _ (by omega), Nat.div_eq_of_lt hR]; omega
  · rw [Nat.add_comm, Nat.add_mul_mod_self_right, Nat.mod_eq_of_lt hR]
set_option maxRecDepth 100000 in
set_option maxHeartbeats 4000000 in
theorem t125 (va vb : Value) (A B : Nat) (w : World) (hA : Dg w va A) (hB : Dg w vb B) (hl : Ld A ≤ 100000) (hl' : Ld B ≤ 100000) (hB0 : 0 < B) :
    Calls Tryz.prog 125 #[va, vb] w (DgR2 (A / B) (A % B) w) := by
  obtain ⟨p, ca, rfl, a1, a2, hA1⟩ := hA.cells
  obtain ⟨q, cb, rfl, b1, b2, hB1⟩ := hB.cells
  unfold maxLen at a2 b2
  have HA := Lib.hid hA1
  have HBD := Lib.hid hB
  have HAL : Hid ((dgs 10 A).length = Ld A) := rfl
  have HBL : Hid ((dgs 10 B).length = Ld B) := rfl
  have HLB := Lib.hid hl'
  clear hA hB hA1 hB1
  generalize Ld A = la at *
  go_enter Tryz.func125, Tryz.ntmps125
  go_wp2_with (at_make; refine mk64 _ rfl _ _ rfl _ _ la rfl rfl (by omega) (by omega) (by omega) ?_; intro w1 hb1 hbl1)
  go_loopw [7, 8] (fun u i wr => ∃ (k R : Nat) (qs : List Nat), k ≤ la ∧ i = .int .i64 ((k : Int) - 1) ∧ Hid (Dg wr u R) ∧ Hid (R < B) ∧ Hid (qs.length = la) ∧ Hid (∀ z ∈ qs, z < 10) ∧ Hid (∀ m, m < k → qs[m]? = some 0) ∧ Hid (val 10 ((dgs 10 A).drop k) = val 10 (qs.drop k) * B + R) ∧ Hid (Blk wr w.heap.size 3 (c64 qs)) ∧ Hid (∀ g, u.ownBlock = some g → w.heap.size < g) ∧ Below w.heap.size w wr) (fun _ i _ => (intOf i + 1).toNat)
  case atStart => exact ⟨la, 0, List.replicate la 0, Nat.le_refl _, rfl, (by show Dg _ _ _; simpa [Dg, dgs, dgsF] using World.ownsRow_nil w1 0 3 1), hB0, by show _ = _; simp, (by intro z hz; rw [(List.mem_replicate.1 hz).2]; omega), (by intro m hm; simp [hm]), by show _ = _; rw [List.drop_of_length_le (by rw [HAL.out]; omega), List.drop_of_length_le (by simp)]; simp, hb1, (by intro g hg; simp [Value.ownBlock] at hg), hbl1⟩
  case round =>
    obtain ⟨k, R, qs, hk, rfl, hR, hRB, hql, hqd, hqz, hqv, hqb, hfr, hbl⟩ := hrel
    obtain ⟨pu, cu, rfl, u1, u2, hU⟩ := hR.out.cells
    unfold maxLen at u2
    have hnil := fun (h : pu = none) => (by subst h; exact hR.out.nil : cu = 0)
    have HNIL := Lib.hid hnil
    have HU := Lib.hid hU
    have HRL : Hid ((dgs 10 R).length = Ld R) := rfl
    have hRl : Ld R ≤ 100000 := Nat.le_trans (dgs_length_mono (by omega) (Nat.le_of_lt hRB.out)) hl'
    clear hnil hU
    by_cases h0 : k = 0
    · subst h0
      have hqv2 := hqv.out
      rw [List.drop_zero, List.drop_zero, val_dgs (by omega)] at hqv2
      have hdd := div_done hqv2 hRB.out
      have hrow : wr.ownsRow 0 3 1 (.slice (some ⟨w.heap.size, 0, none⟩) la la) la (c64 qs) := by
        have h9 := hqb.out.row (base := 0) (n := la) (Nat.zero_le _) (by simp [hql.out]) (by simp [hql.out]; unfold maxLen; omega)
        rw [List.take_of_length_le (by simp [hql.out])] at h9
        simpa [hql.out] using h9
      have c := t120 _ _ qs wr hrow hqd.out
      rw [hdd.1] at c
      have CC := Lib.hid c
      have HDD := Lib.hid hdd.2
      clear hqv2 hdd hrow c HBD
      go_wp2_with fail
      refine CC.out.mono ?_
      rintro e w2 ⟨v, rfl, hv, rfl, -⟩
      obtain ⟨pv, cv, rfl, -, -, -⟩ := hv.cells
      go_wp2_with fail
      go_ret2
      exact ⟨_, _, rfl, hv, by rw [← HDD.out]; exact hR.out, hbl⟩
    · obtain ⟨j, rfl⟩ : ∃ j, k = j + 1 := ⟨k - 1, by omega⟩
      have hja : j < (dgs 10 A).length := by rw [HAL.out]; omega
      have hjq : j < qs.length := by rw [hql.out]; omega
      obtain ⟨ga, rfl, -, hca0⟩ := HA.out j _ (List.getElem?_eq_getElem hja)
      have hca : wr.cell? ⟨ga, j, none⟩ = some (.int .i64 ((dgs 10 A)[j] : Nat)) := (hbl.cell (p := ⟨ga, j, none⟩) (World.block_lt_of_cell? w _ hca0)).trans hca0
      have hxl := dgs10_lt A _ (List.getElem_mem hja)
      have hps := fun c R2 h => parts_step (dgs 10 A) qs j B R c R2 hja hjq hqv.out h
      generalize (dgs 10 A)[j] = x at hca hxl hps
      have HPS := Lib.hid hps
      have hi0 : (0 : Int) ≤ j := by omega
      have hi1 : (j : Int) < la := by omega
      have hi2 : (0 : Int) ≤ ((j + 1 : Nat) : Int) - 1 := by omega
      clear hps hca0 h0
      go_wp2_with (at_builtin; refine appL rfl _ _ rfl wr.heap.size _ _ [x] rfl (built_row wr x) pu (Ld R) cu (dgs 10 R) rfl HRL.out HNIL.out (fun m z hz => by obtain ⟨g, h1, h2, h3⟩ := HU.out m z hz; exact ⟨g, h1, ((bSelf0 wr _).cell (p := ⟨g, m, none⟩) h2).trans h3⟩) (by omega) (by simp) ?_; intro v' w4 hown' hgrow)
      have hgrow : Hid ((wr.alloc (.cells #[.int .i64 (x : Int)] 3)).grownBy w4 (some wr.heap.size)) := hgrow
      have hb4 : Below wr.heap.size wr w4 := (bSelf0 wr _).grown hgrow.out (by simp) (fun g hg => by have h9 := Option.some.inj hg; omega)
      have hbl4 : Below w.heap.size w w4 := hbl.trans (hb4.mono hbl.size)
      have hqb4 : Hid (Blk w4 w.heap.size 3 (c64 qs)) := hqb.out.below hb4 hqb.out.lt
      have hlt4 : w.heap.size < wr.heap.size := hqb.out.lt
      refine (t120 v' (1 + Ld R) (x :: dgs 10 R) w4 (ownsRow_mono hown'.out (Nat.zero_le _)) (dgs_cons_lt hxl)).mono ?_
      rintro e w5 ⟨u', rfl, hu', rfl, hfr'⟩
      rw [val_cons_dgs] at hu'
      have hfr4 : Hid (∀ g, u'.ownBlock = some g → w.heap.size < g) := fun g hg => Nat.lt_of_lt_of_le hlt4 (row_own hown'.out (hfr' g hg))
      have hz0 := hqz.out j (by omega)
      have hRB' := hRB.out
      have HRB' : Hid (x + 10 * R < 10 * B) := by show _ < _; omega
      have hs0 : qs.set j 0 = qs := by
        have h9 : qs[j] = 0 := by rw [List.getElem?_eq_getElem hjq] at hz0; exact Option.some.inj hz0
        rw [← h9, List.set_getElem_self]
      have HU' := Lib.hid hu'
      obtain ⟨pu', cu', rfl, -, -, -⟩ := hu'.cells
      have HQZ : Hid (∀ c m, m < j → (qs.set j c)[m]? = some 0) := fun c m hm => by rw [List.getElem?_set_ne (by omega)]; exact hqz.out m (by omega)
      clear hu' hown' hgrow hfr' hb4 hz0 hqz hqb hfr hR HU HNIL HRL hbl hca
      go_wp2_with fail
      go_loopw [7] (fun u wr => ∃ (c R2 : Nat), c ≤ 9 ∧ Hid (c * B + R2 = x + 10 * R) ∧ Hid (Dg wr u R2) ∧ Hid (Blk wr w.heap.size 3 (c64 (qs.set j c))) ∧ Hid (∀ g, u.ownBlock = some g → w.heap.size < g) ∧ Below w.heap.size w wr) (fun _ wr => 10 - cellNat wr w.heap.size j)
      case atStart => exact ⟨0, x + 10 * R, by omega, by show _ = _; simp, HU', by rw [hs0]; exact hqb4, hfr4, hbl4⟩
      case round =>
        obtain ⟨c, R2, hc, hcv, hR2, hqb, hfr, hbl⟩ := hrel
        obtain ⟨wi, rfl⟩ : ∃ wi : World, wi = wr := ⟨_, rfl⟩
        obtain ⟨pu, cu, rfl, -, -, -⟩ := hR2.out.cells
        have C1 := Lib.hid (t121 _ _ R2 B wi hR2.out (HBD.out.below0 hbl))
        by_cases hlt : R2 < B
        · have hcm := cmpD_lt hlt
          generalize cmpN R2 B = cv at C1 hcm
          have hval := HPS.out c R2 hcv.out
          have HVAL := Lib.hid hval
          have HLT := Lib.hid hlt
          clear hval hlt
          go_wp2_with fail
          refine C1.out.mono ?_
          rintro e w6 ⟨rfl, n6, rfl⟩
          go_wp2_with fail
          go_roundw
          case rel => exact ⟨j, R2, qs.set j c, by omega, by go_num, hR2.out.below (below_drewN0 wi n6), HLT, by show _ = _; rw [List.length_set]; exact hql.out, set_lt qs hqd.out _ _ (by omega), HQZ.out c, HVAL, hqb.out.below (below_drewN0 wi n6) hqb.out.lt, hfr, hbl.trans ((below_drewN0 wi n6).mono hbl.size)⟩
          case measure => first | (simp [intOf]; omega) | simp [intOf]
        · have hge := cmpD_ge (Nat.le_of_not_lt hlt)
          generalize cmpN R2 B = cv at C1 hge
          obtain ⟨-, hge2⟩ := hge
          have HLE : Hid (B ≤ R2) := Nat.le_of_not_lt hlt
          have HR2B : Hid (R2 < 10 * B) := by
            have h1 := hcv.out
            have h2 := HRB'.out
            show _ < _
            omega
          have hLd : Ld R2 ≤ 1000000 := Nat.le_trans (Ld_ten HR2B.out HLB.out) (by omega)
          have HLd := Lib.hid hLd
          have hc9 : c < 9 := by
            have h1 := hcv.out
            have h2 := HRB'.out
            have h3 := HLE.out
            rcases Nat.lt_or_ge c 9 with h | h
            · exact h
            · have h4 : 9 * B ≤ c * B := Nat.mul_le_mul_right _ h
              omega
          have HC9 := Lib.hid hc9
          have HCV : Hid ((c + 1) * B + (R2 - B) = x + 10 * R) := by
            have h1 := hcv.out
            have h3 := HLE.out
            show _ = _
            rw [Nat.add_mul, Nat.one_mul]
            omega
          have hjs : j < (qs.set j c).length := by rw [List.length_set]; exact hjq
          have hqc := hqb.out.cell j (c64_get (show (qs.set j c)[j]? = some c by rw [List.getElem?_set_self hjq]))
          clear hlt hLd hc9
          go_wp2_with fail
          refine C1.out.mono ?_
          rintro e w6 ⟨rfl, n6, rfl⟩
          go_wp2_with fail
          refine (t126 _ _ R2 B _ (hR2.out.below (below_drewN0 wi n6)) ((HBD.out.below0 hbl).below (below_drewN0 wi n6)) HLd.out HLE.out).mono ?_
          rintro e w7 ⟨v7, rfl, hv7, hb7, hfr7⟩
          obtain ⟨p7, c7, rfl, -, -, -⟩ := hv7.cells
          have hb7' : Below wi.heap.size wi w7 := (below_drewN0 wi n6).trans hb7
          have hqb7 := Lib.hid (hqb.out.below hb7' hqb.out.lt)
          have hq7 := hqb7.out.cell j (c64_get (show (qs.set j c)[j]? = some c by rw [List.getElem?_set_self hjq]))
          have hf7 := hqb7.out.free j
          have hlt7 : w.heap.size < wi.heap.size := hqb.out.lt
          have hne7 : (Value.slice p7 (Ld (R2 - B)) c7).ownBlock ≠ some w.heap.size := fun h => by have h9 : wi.heap.size ≤ w.heap.size := hfr7 _ h; omega
          have HFR7 : Hid (∀ g, (Value.slice p7 (Ld (R2 - B)) c7).ownBlock = some g → w.heap.size < g) := fun g hg => Nat.lt_of_lt_of_le hlt7 (hfr7 g hg)
          have HV7 := Lib.hid (hv7.setCell (j := j) (u := .int .i64 ((c : Int) + 1)) hne7)
          have HB7 : Hid (Blk (w7.setCell ⟨w.heap.size, j, none⟩ (.int .i64 ((c : Int) + 1))) w.heap.size 3 (c64 (qs.set j (c + 1)))) := by
            have h9 := hqb7.out.setN (k := j) (z := c + 1)
            rw [List.set_set] at h9
            exact h9
          have HBL7 := Lib.hid (hbl.trans (hb7'.mono hbl.size))
          clear hv7 hb7 hb7' hfr7 hqb7 hqc hne7
          go_wp2_with fail
          go_roundw
          case rel => exact ⟨c + 1, R2 - B, by have := HC9.out; omega, HCV, HV7, HB7, HFR7, HBL7.out.setCell (Nat.le_refl _) _⟩
          case measure =>
            show 10 - cellNat _ _ _ < 10 - cellNat _ _ _
            rw [cellNat_of (hqb.out.cell j (c64_get (show (qs.set j c)[j]? = some c by rw [List.getElem?_set_self hjq]))), cellNat_of (HB7.out.cell j (c64_get (show (qs.set j (c + 1))[j]? = some (c + 1) by rw [List.getElem?_set_self hjq])))]
            have := HC9.out
            omega
theorem Dg.inj {w : World} {v : Value} {m n : Nat} (h : Dg w v m) (k : Dg w v n) : m = n := by
  obtain ⟨p, ca, rfl, _, _, h1⟩ := h.cells
  obtain ⟨q, cb, e, _, _, h2⟩ := k.cells
  obtain ⟨rfl, hl, _⟩ := Value.slice.inj e
  refine dgs_inj (b := 10) (by omega) (List.ext_getElem hl fun i hi hj => ?_)
  obtain ⟨g, hp, _, hc⟩ := h1 i _ (List.getElem?_eq_getElem hi)
  obtain ⟨g', hp', _, hc'⟩ := h2 i _ (List.getElem?_eq_getElem hj)
  rw [hp] at hp'
  obtain ⟨rfl, _, _⟩ := Addr.mk.inj (Option.some.inj hp')
  rw [hc] at hc'
  have h9 := (Value.int.inj (Option.some.inj hc')).2
  omega
open Classical in
noncomputable def natD (w : World) (v : Value) : Nat := if h : ∃ n, Dg w v n then h.choose else 0
theorem natD_eq {w : World} {v : Value} {n : Nat} (h : Dg w v n) : natD w v = n := by
  unfold natD
  have he : ∃ n, Dg w v n := ⟨n, h⟩
  rw [dif_pos he]
  exact he.choose_spec.inj h
theorem Ld_pos {n : Nat} (h : 0 < n) : 0 < Ld n := by
  rcases Nat.eq_zero_or_pos (Ld n) with h1 | h1
  · have := (dgs_nil_iff (b := 10) (by omega)).1 (List.length_eq_zero_iff.1 h1); omega
  · exact h1
theorem Ld_mono {m n : Nat} (h : m ≤ n) : Ld m ≤ Ld n := dgs_length_mono (by omega) h
set_option maxRecDepth 100000 in
set_option maxHeartbeats 1000000 in
theorem t119 (va vb : Value) (A B : Nat) (w : World) (hA : Dg w va A) (hB : Dg w vb B) (hl : Ld A ≤ 100000) (hl' : Ld B ≤ 100000) :
    Calls Tryz.prog 119 #[va, vb] w fun e w' => ∃ v, e = .returned v ∧ Dg w' v (Nat.gcd A B) ∧ Below w.heap.size w w' := by
  have HA := Lib.hid hA
  have HB := Lib.hid hB
  clear hA hB
  go_enter Tryz.func119, Tryz.ntmps119
  go_wp2
  go_loopw [0, 1] (fun u v wr => ∃ X Y : Nat, Hid (Dg wr u X) ∧ Hid (Dg wr v Y) ∧ Ld X ≤ 100000 ∧ Ld Y ≤ 100000 ∧ Hid (Nat.gcd X Y = Nat.gcd A B) ∧ Below w.heap.size w wr) (fun _ v wr => natD wr v)
  case atStart => exact ⟨A, B, HA, HB, hl, hl', rfl, Below.refl _ _⟩
  case round =>
    obtain ⟨X, Y, hX, hY, hlX, hlY, hg, hbl⟩ := hrel
    by_cases h0 : Y = 0
    · subst h0
      obtain ⟨p, cb, rfl, -, -, -⟩ := hY.out.cells
      obtain ⟨q, ca, rfl, -, -, -⟩ := hX.out.cells
      have hz : Ld 0 = 0 := rfl
      rw [hz]
      have HG : Hid (X = Nat.gcd A B) := by show _ = _; rw [← hg.out, Nat.gcd_zero_right]
      clear hz
      go_wp2
      go_ret
      exact ⟨_, rfl, by rw [← HG.out]; exact hX.out, hbl⟩
    · obtain ⟨p, cb, rfl, -, -, -⟩ := hY.out.cells
      obtain ⟨q, ca, rfl, -, -, -⟩ := hX.out.cells
      have hpos := Ld_pos (show 0 < Y by omega)
      have c := t125 _ _ X Y wr hX.out hY.out hlX hlY (by omega)
      have hgt : (0 : Int) < Ld Y := by omega
      have HN := Lib.hid (natD_eq hY.out)
      have hG2 : Hid (Nat.gcd Y (X % Y) = Nat.gcd A B) := by
        show _ = _
        rw [← hg.out, Nat.gcd_comm Y, ← Nat.gcd_rec, Nat.gcd_comm]
      have hlm := Ld_mono (Nat.le_of_lt (Nat.mod_lt X (show 0 < Y by omega)))
      have HY0 : Hid (0 < Y) := by show _ < _; omega
      have CC := Lib.hid c
      clear h0 c
      go_wp2_with fail
      with_reducible refine CC.out.mono ?_
      rintro e w2 ⟨vq, vr, rfl, hq, hr, hb2⟩
      have HR := Lib.hid hr
      have HY2 := Lib.hid (hY.out.below hb2)
      have hB2 := hbl.trans (hb2.mono hbl.size)
      obtain ⟨p1, c1, rfl, -, -, -⟩ := hq.cells
      obtain ⟨p2, c2, rfl, -, -, -⟩ := hr.cells
      clear hq hr hb2 CC
      go_wp2_with fail
      go_roundw
      case rel => exact ⟨Y, X % Y, HY2, HR, hlY, by omega, hG2, hB2⟩
      case measure => rw [natD_eq HR.out, HN.out]; exact Nat.mod_lt _ HY0.out

/-- digits to a base, in cells -/
def Db (b : Nat) (w : World) (v : Value) (n : Nat) : Prop := w.ownsRow 0 3 1 v (dgs b n).length (c64 (dgs b n))
set_option maxRecDepth 100000 in
set_option maxHeartbeats 1000000 in
theorem t78 (n : Nat) (w : World) (hn : n ≤ 1000000) :
    Calls Tryz.prog 78 #[.int .i64 n] w (DgR n w) := by
  go_enter Tryz.func78, Tryz.ntmps78
  go_wp2
  go_loopw [0, 3] (fun i u wr => ∃ (M : Nat) (ds : List Nat), i = .int .i64 M ∧ M ≤ 1000000 ∧ ds.length ≤ 1000000 ∧ ds.length + M ≤ 1000000 ∧ Hid (dgs 10 n = ds ++ dgs 10 M) ∧ Hid (wr.ownsRow w.heap.size 3 1 u ds.length (c64 ds)) ∧ Below w.heap.size w wr) (fun i _ _ => (intOf i).toNat)
  case atStart => exact ⟨n, [], rfl, hn, by simp, by simpa using hn, by show _ = _; simp, World.ownsRow_nil _ _ _ _, Below.refl _ _⟩
  case round =>
    obtain ⟨M, ds, rfl, hM, hdl, hdm, hv, hrow, hbl⟩ := hrel
    obtain ⟨pu, cu, rfl⟩ := row_form hrow.out
    by_cases h0 : M = 0
    · subst h0
      have HV : Hid (dgs 10 n = ds) := by show _ = _; rw [hv.out]; simp [dgs, dgsF]
      go_wp2_with fail
      go_ret
      exact ⟨_, rfl, by show World.ownsRow _ _ _ _ _ _ _; rw [HV.out]; exact ownsRow_mono hrow.out (Nat.zero_le _), hbl, fun g hg => row_own hrow.out hg⟩
    · have hpos : (0 : Int) < M := by omega
      have HV : Hid (dgs 10 n = (ds ++ [M % 10]) ++ dgs 10 (M / 10)) := by show _ = _; rw [hv.out, dgs_pos (by omega) (by omega)]; simp
      have HC1 : Hid ((M : Int) % 10 = ((M % 10 : Nat) : Int)) := by show _ = _; omega
      have HC2 : Hid ((M : Int) / 10 = ((M / 10 : Nat) : Int)) := by show _ = _; omega
      clear h0
      go_wp2_with (at_builtin; refine app64 rfl _ _ rfl w.heap.size _ _ ds rfl (hrow.out.alloc _) wr.heap.size 1 (M % 10) rfl (by rw [← HC1.out]; exact (Blk.new wr _ 3).cell 0 rfl) (by omega) (Nat.le_trans hbl.size (by simp)) ?_; intro v' w4 hown' hgrow)
      go_roundw
      case rel => exact ⟨M / 10, ds ++ [M % 10], congrArg (Value.int .i64) HC2.out, by omega, by simp; omega, by simp; omega, HV, by show World.ownsRow _ _ _ _ _ _ _; rw [List.length_append]; exact hown'.out, (hbl.alloc hbl.size _).grown hgrow.out (Nat.le_trans hbl.size (by simp)) (fun q hq => row_own hrow.out hq)⟩
      case measure => first | (simp [intOf]; omega) | simp [intOf]
theorem dgs_four {b A k : Nat} (hb : 2 ≤ b) (h : Ld A ≤ k) : (dgs b A).length ≤ 4 * k := by
  rw [dgs_length_le hb]
  have h2 := Ld_le.1 h
  have h4 : 10 ^ k ≤ (2 ^ 4) ^ k := Nat.pow_le_pow_left (by omega) k
  have h5 : ((2 : Nat) ^ 4) ^ k = 2 ^ (4 * k) := (Nat.pow_mul 2 4 k).symm
  have h6 : 2 ^ (4 * k) ≤ b ^ (4 * k) := Nat.pow_le_pow_left hb _
  omega
theorem quo_lt {b x R : Nat} (hb : 0 < b) (hx : x < 10) (hR : R < b) : (10 * R + x) / b < 10 := by
  rw [Nat.div_lt_iff_lt_mul hb]
  omega
theorem Ld_div {b M k : Nat} (h : Ld M ≤ k) : Ld (M / b) ≤ k := Nat.le_trans (Ld_mono (Nat.div_le_self _ _)) h
set_option maxRecDepth 100000 in
set_option maxHeartbeats 4000000 in
theorem t70 (va : Value) (A b : Nat) (w : World) (hA : Dg w va A) (hl : Ld A ≤ 100000) (hb0 : 2 ≤ b) (hb : b ≤ 36) :
    Calls Tryz.prog 70 #[va, .int .i64 b] w fun e w' => ∃ v, e = .returned v ∧ Db b w' v A ∧ Below w.heap.size w w' := by
  have HA := Lib.hid hA
  have HDL : Hid (∀ ds M, dgs b A = ds ++ dgs b M → ds.length ≤ 1000000) := fun ds M h => by
    have h1 := dgs_four hb0 hl
    rw [h, List.length_append] at h1
    omega
  clear hA
  go_enter Tryz.func70, Tryz.ntmps70
  go_wp2
  go_loopw [0, 5] (fun t u wr => ∃ (M : Nat) (ds : List Nat), Hid (Dg wr t M) ∧ Ld M ≤ 100000 ∧ Hid (dgs b A = ds ++ dgs b M) ∧ Hid (wr.ownsRow w.heap.size 3 1 u ds.length (c64 ds)) ∧ Below w.heap.size w wr) (fun t _ wr => natD wr t)
  case atStart => exact ⟨A, [], HA, hl, by show _ = _; simp, World.ownsRow_nil _ _ _ _, Below.refl _ _⟩
  case round =>
    obtain ⟨M, ds, hM, hML, hv, hrow, hbl⟩ := hrel
    obtain ⟨pu, cu, rfl⟩ := row_form hrow.out
    obtain ⟨wo, rfl⟩ : ∃ wo : World, wo = wr := ⟨_, rfl⟩
    have hdl := HDL.out ds M hv.out
    by_cases h0 : M = 0
    · subst h0
      obtain ⟨p, ca, rfl, -, -, -⟩ := hM.out.cells
      have hz : Ld 0 = 0 := rfl
      rw [hz]
      have HV : Hid (dgs b A = ds) := by show _ = _; rw [hv.out]; simp [dgs, dgsF]
      clear hz
      go_wp2_with fail
      go_ret
      exact ⟨_, rfl, by show World.ownsRow _ _ _ _ _ _ _; rw [HV.out]; exact ownsRow_mono hrow.out (Nat.zero_le _), hbl⟩
    · obtain ⟨p, ca, rfl, a1, a2, hA1⟩ := hM.out.cells
      unfold maxLen at a2
      have HMA := Lib.hid hA1
      have HML : Hid ((dgs 10 M).length = Ld M) := rfl
      have hpos := Ld_pos (show 0 < M by omega)
      have hgt : (0 : Int) < Ld M := by omega
      have HN := Lib.hid (natD_eq hM.out)
      have HM0 : Hid (0 < M) := by show _ < _; omega
      have HV : Hid (dgs b A = (ds ++ [M % b]) ++ dgs b (M / b)) := by show _ = _; rw [hv.out, dgs_pos hb0 (by omega)]; simp
      have hMd := Ld_div (b := b) hML
      clear hA1 h0
      generalize Ld M = la at *
      have hbi : (0 : Int) < b := by omega
      have hbj : (b : Int) ≤ 36 := by omega
      have hbz : ¬ ((b : Int) = 0) := by omega
      go_wp2_with (at_make; refine mk64 _ rfl _ _ rfl _ _ la rfl rfl (by omega) (by omega) (by omega) ?_; intro w1 hb1 hbl1)
      have hlt1 : w.heap.size ≤ wo.heap.size := hbl.size
      have HROW1 := Lib.hid (ownsRow_below hrow.out hbl1)
      have hbw1 := hbl.trans (hbl1.mono hbl.size)
      go_loopw [6, 8] (fun r i wj => ∃ (k R : Nat) (qs : List Nat), k ≤ la ∧ r = .int .i64 R ∧ i = .int .i64 ((k : Int) - 1) ∧ R < b ∧ Hid (qs.length = la) ∧ Hid (∀ z ∈ qs, z < 10) ∧ Hid (val 10 ((dgs 10 M).drop k) = val 10 (qs.drop k) * b + R) ∧ Hid (Blk wj wo.heap.size 3 (c64 qs)) ∧ Below wo.heap.size wo wj) (fun _ i _ => (intOf i + 1).toNat)
      case atStart => exact ⟨la, 0, List.replicate la 0, Nat.le_refl _, rfl, rfl, by omega, by show _ = _; simp, (by intro z hz; rw [(List.mem_replicate.1 hz).2]; omega), by show _ = _; rw [List.drop_of_length_le (by rw [HML.out]; omega), List.drop_of_length_le (by simp)]; simp, hb1, hbl1⟩
      case round =>
        obtain ⟨k, R, qs, hk, rfl, rfl, hR, hql, hqd, hqv, hqb, hbl2⟩ := hrel
        by_cases h0 : k = 0
        · subst h0
          have hqv2 := hqv.out
          rw [List.drop_zero, List.drop_zero, val_dgs (by omega)] at hqv2
          have hdd := div_done hqv2 hR
          have HDD := Lib.hid hdd
          have hrow2 : wr.ownsRow w.heap.size 3 1 (.slice pu ds.length cu) ds.length (c64 ds) := ownsRow_below hrow.out hbl2
          have hown : ∀ g, (Value.slice pu ds.length cu).ownBlock = some g → g < wo.heap.size := fun g hg => (hrow.out.lt g hg).2
          have HOWN := Lib.hid hown
          have hb2 : Hid (w.heap.size ≤ wr.heap.size) := Nat.le_trans hlt1 hbl2.size
          clear hqv2 hdd hown
          go_wp2_with (at_builtin; refine app64 rfl _ _ rfl w.heap.size _ _ ds rfl (hrow2.alloc _) wr.heap.size 1 R rfl ((Blk.new wr _ 3).cell 0 rfl) (by omega) (Nat.le_trans hb2.out (by simp)) ?_; intro v' w4 hown' hgrow)
          have hgrow : Hid ((wr.alloc (.cells #[.int .i64 (R : Int)] 3)).grownBy w4 (Value.slice pu ds.length cu).ownBlock) := hgrow
          have hbw4 : Below w.heap.size w w4 := (((hbl.trans (hbl2.mono hbl.size)).alloc (Nat.le_trans hb2.out (Nat.le_refl _)) _).grown hgrow.out (Nat.le_trans hb2.out (by simp)) (fun q hq => row_own hrow.out hq))
          have hqb4 : Blk w4 wo.heap.size 3 (c64 qs) := (hgrow.out.block _ (by have := hqb.out.lt; simp; omega) (fun h => by have := HOWN.out _ h.symm; omega)).trans (hqb.out.alloc _)
          have hrow4 : w4.ownsRow 0 3 1 (.slice (some ⟨wo.heap.size, 0, none⟩) la la) la (c64 qs) := by
            have h9 := hqb4.row (base := 0) (n := la) (Nat.zero_le _) (by simp [hql.out]) (by simp [hql.out]; unfold maxLen; omega)
            rw [List.take_of_length_le (by simp [hql.out])] at h9
            simpa [hql.out] using h9
          refine (t120 _ _ qs w4 hrow4 hqd.out).mono ?_
          rintro e w5 ⟨u', rfl, hu', rfl, -⟩
          rw [HDD.out.1] at hu'
          have HU' := Lib.hid hu'
          obtain ⟨p5, c5, rfl, -, -, -⟩ := hu'.cells
          clear hu' hrow4 hqb4 hgrow
          go_wp2_with fail
          go_roundw
          case rel => exact ⟨M / b, ds ++ [R], HU', hMd, by rw [HDD.out.2]; exact HV, by show World.ownsRow _ _ _ _ _ _ _; rw [List.length_append]; exact hown'.out, hbw4⟩
          case measure => rw [natD_eq HU'.out, HN.out]; exact Nat.div_lt_self HM0.out (by omega)
        · obtain ⟨j, rfl⟩ : ∃ j, k = j + 1 := ⟨k - 1, by omega⟩
          have hja : j < (dgs 10 M).length := by rw [HML.out]; omega
          have hjq : j < qs.length := by rw [hql.out]; omega
          obtain ⟨ga, rfl, -, hca0⟩ := HMA.out j _ (List.getElem?_eq_getElem hja)
          have hca : wr.cell? ⟨ga, j, none⟩ = some (.int .i64 ((dgs 10 M)[j] : Nat)) := (hbl2.cell (p := ⟨ga, j, none⟩) (World.block_lt_of_cell? wo _ hca0)).trans hca0
          have hxl := dgs10_lt M _ (List.getElem_mem hja)
          have hps := parts_step (dgs 10 M) qs j b R ((10 * R + (dgs 10 M)[j]) / b) ((10 * R + (dgs 10 M)[j]) % b) hja hjq hqv.out (by have := Nat.mod_add_div (10 * R + (dgs 10 M)[j]) b; rw [Nat.mul_comm b] at this; omega)
          have hql' := hqb.out.cell j (c64_get (List.getElem?_eq_getElem hjq))
          have hfa : wr.frozen? ⟨wo.heap.size, j, none⟩ = false := hqb.out.free _
          generalize (dgs 10 M)[j] = x at hca hxl hps
          have HPS := Lib.hid hps
          have hi0 : (0 : Int) ≤ j := by omega
          have hi1 : (j : Int) < la := by omega
          have hi2 : (0 : Int) ≤ ((j + 1 : Nat) : Int) - 1 := by omega
          have HC1 : Hid ((10 * (R : Int) + x) / b = (((10 * R + x) / b : Nat) : Int)) := by show _ = _; simp
          have HC2 : Hid ((10 * (R : Int) + x) % b = (((10 * R + x) % b : Nat) : Int)) := by show _ = _; simp
          have HSET : Hid (∀ z : Nat, Blk (wr.setCell ⟨wo.heap.size, j, none⟩ (.int .i64 z)) wo.heap.size 3 (c64 (qs.set j z))) := fun z => hqb.out.setN
          have HD : Hid (∀ z ∈ qs.set j ((10 * R + x) / b), z < 10) := set_lt qs hqd.out _ _ (quo_lt (by omega) hxl hR)
          have HR2 : Hid ((10 * R + x) % b < b) := Nat.mod_lt _ (by omega)
          clear hps hca0 h0
          go_wp2
          go_roundw
          case rel => exact ⟨j, (10 * R + x) % b, qs.set j ((10 * R + x) / b), by omega, congrArg (Value.int .i64) HC2.out, by go_num, HR2.out, by show _ = _; rw [List.length_set]; exact hql.out, HD, HPS, by show Blk _ _ _ _; rw [HC1.out]; exact HSET.out _, hbl2.setCell (Nat.le_refl _) _⟩
          case measure => first | (simp [intOf]; omega) | simp [intOf]
/-- a number of the reference as a result -/
def NmR (z : Int) (w : World) (e : Ending) (w' : World) : Prop := ∃ v, e = .returned (.agg #[.bool (decide (z < 0)), v]) ∧ Dg w' v z.natAbs ∧ Below w.heap.size w w'
structure Bx3 (T : TypeId) (w W : World) (x y : Array Value) : Prop where
  size : W.heap.size = w.heap.size + 3
  below : Below w.heap.size w W
  bx : Blk W w.heap.size T x.toList
  by' : Blk W (w.heap.size + 1) T y.toList
  res : Blk W (w.heap.size + 2) T [.bool false, .slice none 0 0]
theorem bx3_mk (T : TypeId) (w : World) (x y : Array Value) : Bx3 T w (((w.alloc (.cells x T)).alloc (.cells y T)).alloc (.cells #[.bool false, .slice none 0 0] T)) x y where
  size := by simp
  below := (((Below.refl _ _).alloc (Nat.le_refl _) _).alloc (by simp) _).alloc (by simp; omega) _
  bx := ((Blk.new w x T).alloc _).alloc _
  by' := by have := (Blk.new (w.alloc (.cells x T)) y T).alloc (.cells #[.bool false, .slice none 0 0] T); simpa using this
  res := by have := Blk.new ((w.alloc (.cells x T)).alloc (.cells y T)) #[.bool false, .slice none 0 0] T; simpa using this
theorem t79 (b : Bool) (v : Value) (n : Nat) (w : World) (hv : Dg w v n) :
    Calls Tryz.prog 79 #[.bool b, v] w fun e w' => e = .returned (.agg #[.bool (b && decide (0 < n)), v]) ∧ Below w.heap.size w w' := by
  obtain ⟨p, c, rfl, -, -, -⟩ := hv.cells
  clear hv
  cases b with
  | false =>
    go_enter Tryz.func79, Tryz.ntmps79
    go_wp2
    exact bodyPost_ret (v := .agg #[.bool false, .slice p (Ld n) c]) (by simp [results, Tryz.results79, go_sem]) rfl ⟨rfl, (Below.refl _ _).alloc (Nat.le_refl _) _⟩
  | true =>
    by_cases h0 : 0 < n
    · have h1 : (0 : Int) < Ld n := by have := Ld_pos h0; omega
      have hd : Hid (decide (0 < n) = true) := by show _ = _; simpa using h0
      generalize Ld n = x at *
      clear h0
      go_enter Tryz.func79, Tryz.ntmps79
      go_wp2
      refine bodyPost_ret (v := .agg #[.bool true, .slice p x c]) (by simp [results, Tryz.results79, go_sem]; omega) rfl ⟨by rw [hd.out]; rfl, (Below.refl _ _).alloc (Nat.le_refl _) _⟩
    · obtain rfl : n = 0 := by omega
      rw [show Ld 0 = 0 from rfl]
      clear h0
      go_enter Tryz.func79, Tryz.ntmps79
      go_wp2
      refine bodyPost_ret (v := .agg #[.bool false, .slice p 0 c]) (by simp [results, Tryz.results79, go_sem]) rfl ⟨rfl, (Below.refl _ _).alloc (Nat.le_refl _) _⟩
theorem t116 (b : Bool) (v : Value) (n : Nat) (w : World) (hv : Dg w v n) :
    Calls Tryz.prog 116 #[.agg #[.bool b, v]] w fun e w' => e = .returned (.agg #[.bool (!b && decide (0 < n)), v]) ∧ Below w.heap.size w w' := by
  have hb0 : Below w.heap.size w ((w.alloc (.cells #[.bool b, v] 73)).alloc (.cells #[.bool false, .slice none 0 0] 73)) := ((Below.refl _ _).alloc (Nat.le_refl _) _).alloc (by simp) _
  have c := t79 (!b) v n _ (hv.below hb0)
  obtain ⟨p, cap, rfl, -, -, -⟩ := hv.cells
  have C := Lib.hid c
  have HB := Lib.hid hb0
  have HR : Hid (Blk ((w.alloc (.cells #[.bool b, .slice p (Ld n) cap] 73)).alloc (.cells #[.bool false, .slice none 0 0] 73)) (w.heap.size + 1) 73 [.bool false, .slice none 0 0]) := by
    have := Blk.new (w.alloc (.cells #[.bool b, .slice p (Ld n) cap] 73)) #[.bool false, .slice none 0 0] 73
    show Blk _ _ _ _
    simpa using this
  clear c hb0 hv
  go_enter Tryz.func116, Tryz.ntmps116
  go_wp2_with fail
  refine C.out.mono ?_
  rintro e w1 ⟨rfl, hb1⟩
  have hr := HR.out.below hb1 HR.out.lt
  have r0 := hr.cell 0 rfl
  have r1 := hr.cell 1 rfl
  have f0 := hr.free 0
  have f1 := hr.free 1
  have HR1 := Lib.hid hr
  clear hr
  go_wp2
  have g0 : (w1.setCell ⟨w.heap.size + 1, 0, none⟩ (.bool (!b && decide (0 < n)))).cell? ⟨w.heap.size + 1, 0, none⟩ = some (.bool (!b && decide (0 < n))) := (HR1.out.set 0 _).cell 0 rfl
  have g1 : ((w1.setCell ⟨w.heap.size + 1, 0, none⟩ (.bool (!b && decide (0 < n)))).setCell ⟨w.heap.size + 1, 1, none⟩ (.slice p (Ld n) cap)).cell? ⟨w.heap.size + 1, 1, none⟩ = some (.slice p (Ld n) cap) := ((HR1.out.set 0 _).set 1 _).cell 1 rfl
  refine bodyPost_ret (v := .agg #[.bool (!b && decide (0 < n)), .slice p (Ld n) cap]) (by simp [results, Tryz.results116, go_sem, g0, g1]) rfl ?_
  exact ⟨rfl, ((HB.out.trans (hb1.mono HB.out.size)).setCell (by simp) _).setCell (by simp) _⟩
set_option maxRecDepth 100000 in
set_option maxHeartbeats 2000000 in
theorem t115s (b c : Bool) (va vb : Value) (A B : Nat) (w : World) (hbc : (b == c) = true) (hA : Dg w va A) (hB : Dg w vb B) (hl : Ld A ≤ 100000) (hl' : Ld B ≤ 100000) (z : Int) (hz : z.natAbs = A + B) (hs : (b && decide (0 < A + B)) = decide (z < 0)) :
    Calls Tryz.prog 115 #[.agg #[.bool b, va], .agg #[.bool c, vb]] w (NmR z w) := by
  have HA := Lib.hid hA
  have HB := Lib.hid hB
  have HZ := Lib.hid hz
  have HS := Lib.hid hs
  clear hA hB hz hs
  have hbx := bx3_mk 73 w #[.bool b, va] #[.bool c, vb]
  go_enter Tryz.func115, Tryz.ntmps115
  go_wp2_with fail
  generalize ((w.alloc (.cells #[.bool b, va] 73)).alloc (.cells #[.bool c, vb] 73)).alloc (.cells #[.bool false, .slice none 0 0] 73) = W at *
  have h1 : W.cell? ⟨w.heap.size, 0, none⟩ = some (.bool b) := hbx.bx.cell 0 rfl
  have h2 : W.cell? ⟨w.heap.size, 1, none⟩ = some va := hbx.bx.cell 1 rfl
  have h3 : W.cell? ⟨w.heap.size + 1, 0, none⟩ = some (.bool c) := hbx.by'.cell 0 rfl
  have h4 : W.cell? ⟨w.heap.size + 1, 1, none⟩ = some vb := hbx.by'.cell 1 rfl
  have hsz : w.heap.size + 3 ≤ W.heap.size := Nat.le_of_eq hbx.size.symm
  have HW := Lib.hid hbx.below.drew
  have HW0 := Lib.hid hbx.below
  have HR := Lib.hid hbx.res
  clear hbx
  go_wp2_with fail
  go_region_held3 (fun w' => w'.cell? ⟨w.heap.size, 0, none⟩ = some (.bool b) ∧ w'.cell? ⟨w.heap.size, 1, none⟩ = some (va) ∧ w'.cell? ⟨w.heap.size + 1, 1, none⟩ = some (vb))
    (first
      | exact ⟨h1, h2, h4⟩
      | exact ⟨k1_0, k1_1, k1_2⟩
      | exact ⟨k2_0, k2_1, k2_2⟩
      | exact ⟨cell_far (cell_far k2_0 (by omega)) (by omega), cell_far (cell_far k2_1 (by omega)) (by omega), cell_far (cell_far k2_2 (by omega)) (by omega)⟩
      | fail "nokeep")
    (first
      | (go_at_call 76; (with_reducible refine (t76 va vb A B _ (HA.out.below HW.out) (HB.out.below HW.out) (by omega) (by omega)).mono ?_); rintro e w1 ⟨v, rfl, hN, hb1, hfr⟩; obtain ⟨pv, cv, rfl, -, -, -⟩ := hN.cells; have hs1 : W.heap.size ≤ w1.heap.size := hb1.size; have HR1 := Lib.hid (Blk.below (w := W.drew) HR.out hb1 (by simp; omega)); have k1_0 := below_cell hb1 h1; have k1_1 := below_cell hb1 h2; have k1_2 := below_cell hb1 h4)
      | (go_at_call 79; (with_reducible refine (t79 b _ (A + B) _ hN).mono ?_); rintro e w2 ⟨rfl, hb2⟩; have hs2 := hb2.size; have hr := HR1.out.below hb2 (by omega); have r0 := hr.cell 0 rfl; have r1 := hr.cell 1 rfl; have f0 := hr.free 0; have f1 := hr.free 1; have HR2 := Lib.hid hr; clear hr; have k2_0 := below_cell hb2 k1_0; have k2_1 := below_cell hb2 k1_1; have k2_2 := below_cell hb2 k1_2)
      | fail "noarm")
  have hne : (Value.slice pv (Ld (A + B)) cv).ownBlock ≠ some (w.heap.size + 2) := fun h => by
    have h1 := hfr _ h
    simp at h1
    omega
  go_wp2
  have g0 : (w2.setCell ⟨w.heap.size + 1 + 1, 0, none⟩ (.bool (b && decide (0 < A + B)))).cell? ⟨w.heap.size + 1 + 1, 0, none⟩ = some (.bool (b && decide (0 < A + B))) := (HR2.out.set 0 _).cell 0 rfl
  have g1 : ((w2.setCell ⟨w.heap.size + 1 + 1, 0, none⟩ (.bool (b && decide (0 < A + B)))).setCell ⟨w.heap.size + 1 + 1, 1, none⟩ (.slice pv (Ld (A + B)) cv)).cell? ⟨w.heap.size + 1 + 1, 1, none⟩ = some (.slice pv (Ld (A + B)) cv) := ((HR2.out.set 0 _).set 1 _).cell 1 rfl
  refine bodyPost_ret (v := .agg #[.bool (b && decide (0 < A + B)), .slice pv (Ld (A + B)) cv]) (by first | (simp [results, Tryz.results115, go_sem, g0, g1]; done) | simp only [results, Tryz.results115, go_sem, g0, g1]) rfl ?_
  have hBw : Below w.heap.size w w2 := (HW.out.trans (hb1.mono HW.out.size)).trans (hb2.mono (by have := HW.out.size; omega))
  refine ⟨_, by rw [HS.out], ?_, (hBw.setCell (by simp; omega) _).setCell (by simp; omega) _⟩
  rw [HZ.out]
  exact ((hN.below hb2).setCell hne).setCell hne
set_option maxRecDepth 100000 in
set_option maxHeartbeats 2000000 in
theorem t115ge (b c : Bool) (va vb : Value) (A B : Nat) (w : World) (hbc : (b == c) = false) (hA : Dg w va A) (hB : Dg w vb B) (hl : Ld A ≤ 100000) (_hl' : Ld B ≤ 100000) (h : B ≤ A) (z : Int) (hz : z.natAbs = A - B) (hs : (b && decide (0 < A - B)) = decide (z < 0)) :
    Calls Tryz.prog 115 #[.agg #[.bool b, va], .agg #[.bool c, vb]] w (NmR z w) := by
  have HA := Lib.hid hA
  have HB := Lib.hid hB
  have HZ := Lib.hid hz
  have HS := Lib.hid hs
  have HC := Lib.hid h
  have CC := Lib.hid (fun (W : World) (h1 : Dg W va A) (h2 : Dg W vb B) => t121 va vb A B W h1 h2)
  have hcn := cmpD_ge h
  clear hA hB hz hs
  generalize cmpN A B = cmpv at *
  obtain ⟨-, hcn⟩ := hcn
  have hbx := bx3_mk 73 w #[.bool b, va] #[.bool c, vb]
  go_enter Tryz.func115, Tryz.ntmps115
  go_wp2_with fail
  generalize ((w.alloc (.cells #[.bool b, va] 73)).alloc (.cells #[.bool c, vb] 73)).alloc (.cells #[.bool false, .slice none 0 0] 73) = W at *
  have h1 : W.cell? ⟨w.heap.size, 0, none⟩ = some (.bool b) := hbx.bx.cell 0 rfl
  have h2 : W.cell? ⟨w.heap.size, 1, none⟩ = some va := hbx.bx.cell 1 rfl
  have h3 : W.cell? ⟨w.heap.size + 1, 0, none⟩ = some (.bool c) := hbx.by'.cell 0 rfl
  have h4 : W.cell? ⟨w.heap.size + 1, 1, none⟩ = some vb := hbx.by'.cell 1 rfl
  have hsz : w.heap.size + 3 ≤ W.heap.size := Nat.le_of_eq hbx.size.symm
  have HW := Lib.hid hbx.below.drew
  have HW0 := Lib.hid hbx.below
  have HR := Lib.hid hbx.res
  clear hbx
  go_wp2_with fail
  refine (CC.out W (HA.out.below HW0.out) (HB.out.below HW0.out)).mono ?_
  rintro e W' ⟨rfl, nd, rfl⟩
  have h1 : (W.drewN nd).cell? ⟨w.heap.size, 0, none⟩ = some (.bool b) := h1
  have h2 : (W.drewN nd).cell? ⟨w.heap.size, 1, none⟩ = some va := h2
  have h3 : (W.drewN nd).cell? ⟨w.heap.size + 1, 0, none⟩ = some (.bool c) := h3
  have h4 : (W.drewN nd).cell? ⟨w.heap.size + 1, 1, none⟩ = some vb := h4
  have hsz : w.heap.size + 3 ≤ (W.drewN nd).heap.size := hsz
  have HW : Hid (Below w.heap.size w (W.drewN nd).drew) := (below_drewN HW0.out nd).drew
  have HR : Hid (Blk (W.drewN nd) (w.heap.size + 2) 73 [.bool false, .slice none 0 0]) := HR.out
  generalize W.drewN nd = W at *
  go_wp2_with fail
  go_region_held3 (fun w' => w'.cell? ⟨w.heap.size, 0, none⟩ = some (.bool b) ∧ w'.cell? ⟨w.heap.size, 1, none⟩ = some (va) ∧ w'.cell? ⟨w.heap.size + 1, 1, none⟩ = some (vb))
    (first
      | exact ⟨h1, h2, h4⟩
      | exact ⟨k1_0, k1_1, k1_2⟩
      | exact ⟨k2_0, k2_1, k2_2⟩
      | exact ⟨cell_far (cell_far k2_0 (by omega)) (by omega), cell_far (cell_far k2_1 (by omega)) (by omega), cell_far (cell_far k2_2 (by omega)) (by omega)⟩
      | fail "nokeep")
    (first
      | (go_at_call 126; (with_reducible refine (t126 va vb A B _ (HA.out.below HW.out) (HB.out.below HW.out) (by omega) HC.out).mono ?_); rintro e w1 ⟨v, rfl, hN, hb1, hfr⟩; obtain ⟨pv, cv, rfl, -, -, -⟩ := hN.cells; have hs1 : W.heap.size ≤ w1.heap.size := hb1.size; have HR1 := Lib.hid (Blk.below (w := W.drew) HR.out hb1 (by simp; omega)); have k1_0 := below_cell hb1 h1; have k1_1 := below_cell hb1 h2; have k1_2 := below_cell hb1 h4)
      | (go_at_call 79; (with_reducible refine (t79 b _ (A - B) _ hN).mono ?_); rintro e w2 ⟨rfl, hb2⟩; have hs2 := hb2.size; have hr := HR1.out.below hb2 (by omega); have r0 := hr.cell 0 rfl; have r1 := hr.cell 1 rfl; have f0 := hr.free 0; have f1 := hr.free 1; have HR2 := Lib.hid hr; clear hr; have k2_0 := below_cell hb2 k1_0; have k2_1 := below_cell hb2 k1_1; have k2_2 := below_cell hb2 k1_2)
      | fail "noarm")
  have hne : (Value.slice pv (Ld (A - B)) cv).ownBlock ≠ some (w.heap.size + 2) := fun h => by
    have h1 := hfr _ h
    simp at h1
    omega
  go_wp2
  have g0 : (w2.setCell ⟨w.heap.size + 1 + 1, 0, none⟩ (.bool (b && decide (0 < A - B)))).cell? ⟨w.heap.size + 1 + 1, 0, none⟩ = some (.bool (b && decide (0 < A - B))) := (HR2.out.set 0 _).cell 0 rfl
  have g1 : ((w2.setCell ⟨w.heap.size + 1 + 1, 0, none⟩ (.bool (b && decide (0 < A - B)))).setCell ⟨w.heap.size + 1 + 1, 1, none⟩ (.slice pv (Ld (A - B)) cv)).cell? ⟨w.heap.size + 1 + 1, 1, none⟩ = some (.slice pv (Ld (A - B)) cv) := ((HR2.out.set 0 _).set 1 _).cell 1 rfl
  refine bodyPost_ret (v := .agg #[.bool (b && decide (0 < A - B)), .slice pv (Ld (A - B)) cv]) (by first | (simp [results, Tryz.results115, go_sem, g0, g1]; done) | simp only [results, Tryz.results115, go_sem, g0, g1]) rfl ?_
  have hBw : Below w.heap.size w w2 := (HW.out.trans (hb1.mono HW.out.size)).trans (hb2.mono (by have := HW.out.size; omega))
  refine ⟨_, by rw [HS.out], ?_, (hBw.setCell (by simp; omega) _).setCell (by simp; omega) _⟩
  rw [HZ.out]
  exact ((hN.below hb2).setCell hne).setCell hne
set_option maxRecDepth 100000 in
set_option maxHeartbeats 2000000 in
theorem t115lt (b c : Bool) (va vb : Value) (A B : Nat) (w : World) (hbc : (b == c) = false) (hA : Dg w va A) (hB : Dg w vb B) (_hl : Ld A ≤ 100000) (hl' : Ld B ≤ 100000) (h : A < B) (z : Int) (hz : z.natAbs = B - A) (hs : (c && decide (0 < B - A)) = decide (z < 0)) :
    Calls Tryz.prog 115 #[.agg #[.bool b, va], .agg #[.bool c, vb]] w (NmR z w) := by
  have HA := Lib.hid hA
  have HB := Lib.hid hB
  have HZ := Lib.hid hz
  have HS := Lib.hid hs
  have HC := Lib.hid h
  have CC := Lib.hid (fun (W : World) (h1 : Dg W va A) (h2 : Dg W vb B) => t121 va vb A B W h1 h2)
  have hcn := cmpD_lt h
  clear hA hB hz hs
  generalize cmpN A B = cmpv at *
  have hbx := bx3_mk 73 w #[.bool b, va] #[.bool c, vb]
  go_enter Tryz.func115, Tryz.ntmps115
  go_wp2_with fail
  generalize ((w.alloc (.cells #[.bool b, va] 73)).alloc (.cells #[.bool c, vb] 73)).alloc (.cells #[.bool false, .slice none 0 0] 73) = W at *
  have h1 : W.cell? ⟨w.heap.size, 0, none⟩ = some (.bool b) := hbx.bx.cell 0 rfl
  have h2 : W.cell? ⟨w.heap.size, 1, none⟩ = some va := hbx.bx.cell 1 rfl
  have h3 : W.cell? ⟨w.heap.size + 1, 0, none⟩ = some (.bool c) := hbx.by'.cell 0 rfl
  have h4 : W.cell? ⟨w.heap.size + 1, 1, none⟩ = some vb := hbx.by'.cell 1 rfl
  have hsz : w.heap.size + 3 ≤ W.heap.size := Nat.le_of_eq hbx.size.symm
  have HW := Lib.hid hbx.below.drew
  have HW0 := Lib.hid hbx.below
  have HR := Lib.hid hbx.res
  clear hbx
  go_wp2_with fail
  refine (CC.out W (HA.out.below HW0.out) (HB.out.below HW0.out)).mono ?_
  rintro e W' ⟨rfl, nd, rfl⟩
  have h1 : (W.drewN nd).cell? ⟨w.heap.size, 0, none⟩ = some (.bool b) := h1
  have h2 : (W.drewN nd).cell? ⟨w.heap.size, 1, none⟩ = some va := h2
  have h3 : (W.drewN nd).cell? ⟨w.heap.size + 1, 0, none⟩ = some (.bool c) := h3
  have h4 : (W.drewN nd).cell? ⟨w.heap.size + 1, 1, none⟩ = some vb := h4
  have hsz : w.heap.size + 3 ≤ (W.drewN nd).heap.size := hsz
  have HW : Hid (Below w.heap.size w (W.drewN nd).drew) := (below_drewN HW0.out nd).drew
  have HR : Hid (Blk (W.drewN nd) (w.heap.size + 2) 73 [.bool false, .slice none 0 0]) := HR.out
  generalize W.drewN nd = W at *
  go_wp2_with fail
  go_region_held3 (fun w' => w'.cell? ⟨w.heap.size + 1, 0, none⟩ = some (.bool c) ∧ w'.cell? ⟨w.heap.size + 1, 1, none⟩ = some (vb) ∧ w'.cell? ⟨w.heap.size, 1, none⟩ = some (va))
    (first
      | exact ⟨h3, h4, h2⟩
      | exact ⟨k1_0, k1_1, k1_2⟩
      | exact ⟨k2_0, k2_1, k2_2⟩
      | exact ⟨cell_far (cell_far k2_0 (by omega)) (by omega), cell_far (cell_far k2_1 (by omega)) (by omega), cell_far (cell_far k2_2 (by omega)) (by omega)⟩
      | fail "nokeep")
    (first
      | (go_at_call 126; (with_reducible refine (t126 vb va B A _ (HB.out.below HW.out) (HA.out.below HW.out) (by omega) (Nat.le_of_lt HC.out)).mono ?_); rintro e w1 ⟨v, rfl, hN, hb1, hfr⟩; obtain ⟨pv, cv, rfl, -, -, -⟩ := hN.cells; have hs1 : W.heap.size ≤ w1.heap.size := hb1.size; have HR1 := Lib.hid (Blk.below (w := W.drew) HR.out hb1 (by simp; omega)); have k1_0 := below_cell hb1 h3; have k1_1 := below_cell hb1 h4; have k1_2 := below_cell hb1 h2)
      | (go_at_call 79; (with_reducible refine (t79 c _ (B - A) _ hN).mono ?_); rintro e w2 ⟨rfl, hb2⟩; have hs2 := hb2.size; have hr := HR1.out.below hb2 (by omega); have r0 := hr.cell 0 rfl; have r1 := hr.cell 1 rfl; have f0 := hr.free 0; have f1 := hr.free 1; have HR2 := Lib.hid hr; clear hr; have k2_0 := below_cell hb2 k1_0; have k2_1 := below_cell hb2 k1_1; have k2_2 := below_cell hb2 k1_2)
      | fail "noarm")
  have hne : (Value.slice pv (Ld (B - A)) cv).ownBlock ≠ some (w.heap.size + 2) := fun h => by
    have h1 := hfr _ h
    simp at h1
    omega
  go_wp2
  have g0 : (w2.setCell ⟨w.heap.size + 1 + 1, 0, none⟩ (.bool (c && decide (0 < B - A)))).cell? ⟨w.heap.size + 1 + 1, 0, none⟩ = some (.bool (c && decide (0 < B - A))) := (HR2.out.set 0 _).cell 0 rfl
  have g1 : ((w2.setCell ⟨w.heap.size + 1 + 1, 0, none⟩ (.bool (c && decide (0 < B - A)))).setCell ⟨w.heap.size + 1 + 1, 1, none⟩ (.slice pv (Ld (B - A)) cv)).cell? ⟨w.heap.size + 1 + 1, 1, none⟩ = some (.slice pv (Ld (B - A)) cv) := ((HR2.out.set 0 _).set 1 _).cell 1 rfl
  refine bodyPost_ret (v := .agg #[.bool (c && decide (0 < B - A)), .slice pv (Ld (B - A)) cv]) (by first | (simp [results, Tryz.results115, go_sem, g0, g1]; done) | simp only [results, Tryz.results115, go_sem, g0, g1]) rfl ?_
  have hBw : Below w.heap.size w w2 := (HW.out.trans (hb1.mono HW.out.size)).trans (hb2.mono (by have := HW.out.size; omega))
  refine ⟨_, by rw [HS.out], ?_, (hBw.setCell (by simp; omega) _).setCell (by simp; omega) _⟩
  rw [HZ.out]
  exact ((hN.below hb2).setCell hne).setCell hne
set_option maxRecDepth 100000 in
set_option maxHeartbeats 2000000 in
theorem t61n (b c : Bool) (va vb : Value) (A B : Nat) (w : World) (hA : Dg w va A) (hB : Dg w vb B) (hl : Ld A ≤ 100000) (hl' : Ld B ≤ 100000) (z : Int) (hz : z.natAbs = A * B) (hs : (!(b == c) && decide (0 < A * B)) = decide (z < 0)) :
    Calls Tryz.prog 61 #[.agg #[.bool b, va], .agg #[.bool c, vb]] w (NmR z w) := by
  have HA := Lib.hid hA
  have HB := Lib.hid hB
  have HZ := Lib.hid hz
  have HS := Lib.hid hs
  clear hA hB hz hs
  have hbx := bx3_mk 73 w #[.bool b, va] #[.bool c, vb]
  go_enter Tryz.func61, Tryz.ntmps61
  go_wp2_with fail
  generalize ((w.alloc (.cells #[.bool b, va] 73)).alloc (.cells #[.bool c, vb] 73)).alloc (.cells #[.bool false, .slice none 0 0] 73) = W at *
  have h1 : W.cell? ⟨w.heap.size, 0, none⟩ = some (.bool b) := hbx.bx.cell 0 rfl
  have h2 : W.cell? ⟨w.heap.size, 1, none⟩ = some va := hbx.bx.cell 1 rfl
  have h3 : W.cell? ⟨w.heap.size + 1, 0, none⟩ = some (.bool c) := hbx.by'.cell 0 rfl
  have h4 : W.cell? ⟨w.heap.size + 1, 1, none⟩ = some vb := hbx.by'.cell 1 rfl
  have hsz : w.heap.size + 3 ≤ W.heap.size := Nat.le_of_eq hbx.size.symm
  have HW := Lib.hid hbx.below.drew
  have HW0 := Lib.hid hbx.below
  have HR := Lib.hid hbx.res
  clear hbx
  go_region_held3 (fun w' => w'.cell? ⟨w.heap.size, 0, none⟩ = some (.bool b) ∧ w'.cell? ⟨w.heap.size + 1, 0, none⟩ = some (.bool c) ∧ w'.cell? ⟨w.heap.size, 1, none⟩ = some (va) ∧ w'.cell? ⟨w.heap.size + 1, 1, none⟩ = some (vb))
    (first
      | exact ⟨h1, h3, h2, h4⟩
      | exact ⟨k1_0, k1_1, k1_2, k1_3⟩
      | exact ⟨k2_0, k2_1, k2_2, k2_3⟩
      | exact ⟨cell_far (cell_far k2_0 (by omega)) (by omega), cell_far (cell_far k2_1 (by omega)) (by omega), cell_far (cell_far k2_2 (by omega)) (by omega), cell_far (cell_far k2_3 (by omega)) (by omega)⟩
      | fail "nokeep")
    (first
      | (go_at_call 77; (with_reducible refine (t77 va vb A B _ (HA.out.below HW.out) (HB.out.below HW.out) (by omega) (by omega)).mono ?_); rintro e w1 ⟨v, rfl, hN, hb1, hfr⟩; obtain ⟨pv, cv, rfl, -, -, -⟩ := hN.cells; have hs1 : W.heap.size ≤ w1.heap.size := hb1.size; have HR1 := Lib.hid (Blk.below (w := W.drew) HR.out hb1 (by simp; omega)); have k1_0 := below_cell hb1 h1; have k1_1 := below_cell hb1 h3; have k1_2 := below_cell hb1 h2; have k1_3 := below_cell hb1 h4)
      | (go_at_call 79; (with_reducible refine (t79 (!(b == c)) _ (A * B) _ hN).mono ?_); rintro e w2 ⟨rfl, hb2⟩; have hs2 := hb2.size; have hr := HR1.out.below hb2 (by omega); have r0 := hr.cell 0 rfl; have r1 := hr.cell 1 rfl; have f0 := hr.free 0; have f1 := hr.free 1; have HR2 := Lib.hid hr; clear hr; have k2_0 := below_cell hb2 k1_0; have k2_1 := below_cell hb2 k1_1; have k2_2 := below_cell hb2 k1_2; have k2_3 := below_cell hb2 k1_3)
      | fail "noarm")
  have hne : (Value.slice pv (Ld (A * B)) cv).ownBlock ≠ some (w.heap.size + 2) := fun h => by
    have h1 := hfr _ h
    simp at h1
    omega
  go_wp2
  have g0 : (w2.setCell ⟨w.heap.size + 1 + 1, 0, none⟩ (.bool (!(b == c) && decide (0 < A * B)))).cell? ⟨w.heap.size + 1 + 1, 0, none⟩ = some (.bool (!(b == c) && decide (0 < A * B))) := (HR2.out.set 0 _).cell 0 rfl
  have g1 : ((w2.setCell ⟨w.heap.size + 1 + 1, 0, none⟩ (.bool (!(b == c) && decide (0 < A * B)))).setCell ⟨w.heap.size + 1 + 1, 1, none⟩ (.slice pv (Ld (A * B)) cv)).cell? ⟨w.heap.size + 1 + 1, 1, none⟩ = some (.slice pv (Ld (A * B)) cv) := ((HR2.out.set 0 _).set 1 _).cell 1 rfl
  refine bodyPost_ret (v := .agg #[.bool (!(b == c) && decide (0 < A * B)), .slice pv (Ld (A * B)) cv]) (by first | (simp [results, Tryz.results61, go_sem, g0, g1]; done) | simp only [results, Tryz.results61, go_sem, g0, g1]) rfl ?_
  have hBw : Below w.heap.size w w2 := (HW.out.trans (hb1.mono HW.out.size)).trans (hb2.mono (by have := HW.out.size; omega))
  refine ⟨_, by rw [HS.out], ?_, (hBw.setCell (by simp; omega) _).setCell (by simp; omega) _⟩
  rw [HZ.out]
  exact ((hN.below hb2).setCell hne).setCell hne
theorem t115 (x y : Int) (b c : Bool) (va vb : Value) (w : World) (hb : b = decide (x < 0)) (hc : c = decide (y < 0)) (hA : Dg w va x.natAbs) (hB : Dg w vb y.natAbs) (hl : Ld x.natAbs ≤ 100000) (hl' : Ld y.natAbs ≤ 100000) :
    Calls Tryz.prog 115 #[.agg #[.bool b, va], .agg #[.bool c, vb]] w (NmR (x + y) w) := by
  by_cases hx : x < 0 <;> by_cases hy : y < 0
  · obtain rfl : b = true := by simp [hb, hx]
    obtain rfl : c = true := by simp [hc, hy]
    exact t115s true true va vb _ _ w rfl hA hB hl hl' (x + y) (by omega) (by rw [Bool.eq_iff_iff]; simp; omega)
  · obtain rfl : b = true := by simp [hb, hx]
    obtain rfl : c = false := by simp [hc]; omega
    by_cases h : x.natAbs < y.natAbs
    · exact t115lt true false va vb _ _ w rfl hA hB hl hl' h (x + y) (by omega) (by rw [Bool.eq_iff_iff]; simp; omega)
    · exact t115ge true false va vb _ _ w rfl hA hB hl hl' (by omega) (x + y) (by omega) (by rw [Bool.eq_iff_iff]; simp; omega)
  · obtain rfl : b = false := by simp [hb]; omega
    obtain rfl : c = true := by simp [hc, hy]
    by_cases h : x.natAbs < y.natAbs
    · exact t115lt false true va vb _ _ w rfl hA hB hl hl' h (x + y) (by omega) (by rw [Bool.eq_iff_iff]; simp; omega)
    · exact t115ge false true va vb _ _ w rfl hA hB hl hl' (by omega) (x + y) (by omega) (by rw [Bool.eq_iff_iff]; simp; omega)
  · obtain rfl : b = false := by simp [hb]; omega
    obtain rfl : c = false := by simp [hc]; omega
    exact t115s false false va vb _ _ w rfl hA hB hl hl' (x + y) (by omega) (by rw [Bool.eq_iff_iff]; simp; omega)
theorem t61 (x y : Int) (b c : Bool) (va vb : Value) (w : World) (hb : b = decide (x < 0)) (hc : c = decide (y < 0)) (hA : Dg w va x.natAbs) (hB : Dg w vb y.natAbs) (hl : Ld x.natAbs ≤ 100000) (hl' : Ld y.natAbs ≤ 100000) :
    Calls Tryz.prog 61 #[.agg #[.bool b, va], .agg #[.bool c, vb]] w (NmR (x * y) w) := by
  subst hb hc
  exact t61n _ _ va vb _ _ w hA hB hl hl' (x * y) (Int.natAbs_mul x y) (mul_sign x y)
/-- what is left to see behind the sign -/
def tailV (l : List UInt8) : Bool := decide (l ≠ []) && decide (l.length ≤ 400) && (decide (l.length ≤ 1) || decide (l.head? ≠ some 48)) && l.all isD
theorem tailV_len {l : List UInt8} (h : ¬ l.length ≤ 400) : tailV l = false := by unfold tailV; simp [h]
theorem tailV_zero {l : List UInt8} (h : ¬ l.length ≤ 1) (h2 : l.head? = some 48) : tailV l = false := by unfold tailV; simp [h, h2]
theorem tailV_go {l : List UInt8} (h1 : l ≠ []) (h2 : l.length ≤ 400) (h3 : l.length ≤ 1 ∨ l.head? ≠ some 48) : tailV l = l.all isD := by
  unfold tailV
  rcases h3 with h | h
  · simp [h1, h2, h]
  · simp [h1, h2, h]
theorem vld_plain (l : List UInt8) (h : l.length ≤ 1 ∨ l.head? ≠ some 45) : vldL l = tailV l := by
  rcases Classical.em (l.head? = some 45) with h1 | h1
  · have hl : l = [45] := by
      cases l with
      | nil => simp at h1
      | cons c m =>
        have hc : c = 45 := by simpa using h1
        rcases h with h | h
        · simp at h; rw [h, hc]
        · exact absurd h1 h
    subst hl
    decide
  · unfold vldL tailV
    rw [unsign_of_ne h1]
    cases l with
    | nil => rfl
    | cons c m =>
      cases m with
      | nil =>
        rw [Bool.eq_iff_iff]
        simp
        try (intro hd; by_cases hc : c = 48; (exact .inr hc); (exact .inl hc))
      | cons d m =>
        rw [Bool.eq_iff_iff]
        simp
        try (constructor
             · rintro ⟨⟨a, b⟩, c⟩; exact ⟨⟨a, c⟩, b⟩
             · rintro ⟨⟨a, c⟩, b⟩; exact ⟨⟨a, b⟩, c⟩)
theorem vld_signed (m : List UInt8) (h : m.head? ≠ some 48) : vldL (45 :: m) = tailV m := by
  unfold vldL tailV
  rw [show unsign (45 :: m) = m from rfl, Bool.eq_iff_iff]
  simp [h]
  try grind
theorem vld_signed0 (m : List UInt8) (h : m.head? = some 48) : vldL (45 :: m) = false := by
  unfold vldL
  rw [show unsign (45 :: m) = m from rfl]
  simp [h]
set_option maxRecDepth 100000 in
set_option maxHeartbeats 2000000 in
theorem t49 (s : ByteArray) (w : World) (hs : s.size ≤ 9223372036854775807) :
    Calls Tryz.prog 49 #[.string s] w fun e w' => e = .returned (.bool (vldL s.data.toList)) ∧ w = w' := by
  by_cases hm : 1 < s.size ∧ s.data.toList.head? = some 45
  · obtain ⟨h1, h45⟩ := hm
    have hs0 : s[0] = 45 := by
      rw [List.head?_eq_getElem?, List.getElem?_eq_getElem (show 0 < s.data.toList.length from (by show 0 < s.size; omega))] at h45
      exact Option.some.inj h45
    have hi1 : (1 : Int) < s.size := by omega
    have hz : (s[0].toNat : Int) = 45 := by rw [hs0]; rfl
    have hcons : s.data.toList = 45 :: (s.extract 1 s.size).data.toList := by
      have h9 : (s.extract 1 s.size).data.toList = s.data.toList.drop 1 := by rw [ByteArray.data_extract, Array.toList_extract, List.extract_eq_take_drop]; exact List.take_of_length_le (by rw [List.length_drop]; exact Nat.le_refl _)
      rw [h9]
      cases hl : s.data.toList with
      | nil => rw [hl] at h45; cases h45
      | cons c m => rw [hl] at h45; simp at h45; rw [h45]; rfl
    have hsz : (s.extract 1 s.size).size = s.size - 1 := by simp
    have HCONS := Lib.hid hcons
    clear hcons h45 hs0
    go_enter Tryz.func49, Tryz.ntmps49
    go_upto_region 4 with fail
    generalize s.extract 1 s.size = t at *
    have hpt : 0 < t.size := by omega
    have hts : t.size ≤ 9223372036854775807 := by omega
    have hh : t.data.toList.head? = some t[0] := by
      rw [List.head?_eq_getElem?]; exact List.getElem?_eq_getElem hpt
    clear hsz hz hi1 h1 hs
    by_cases h48 : t[0] = 48
    · have hr : Hid (vldL s.data.toList = false) := by show _ = _; rw [HCONS.out]; exact vld_signed0 _ (by rw [hh, h48])
      have hz : (t[0].toNat : Int) = 48 := by rw [h48]; rfl
      clear h48 hh
      go_wp2_with fail
      go_ret
      exact ⟨by rw [hr.out]; rfl, rfl⟩
    · have HT : Hid (vldL s.data.toList = tailV t.data.toList) := by show _ = _; rw [HCONS.out]; exact vld_signed _ (by rw [hh]; simpa using h48)
      have hz : ¬ ((t[0].toNat : Int) = 48) := fun h => h48 (UInt8.toNat_inj.1 (by have : t[0].toNat = 48 := by omega
                                                                                   exact this))
      clear h48 hh
      go_upto_region 6 with fail
      by_cases h0 : t.size = 0
      · have hr : Hid (vldL s.data.toList = false) := by show _ = _; rw [HT.out]; unfold tailV; have : t.data.toList = [] := List.length_eq_zero_iff.1 h0; rw [this]; simp
        have hi : (t.size : Int) < 1 := by omega
        clear h0
        go_wp2_with fail
        go_ret
        exact ⟨by rw [hr.out]; rfl, rfl⟩
      have hpos : 0 < t.size := by omega
      have hip : ¬ ((t.size : Int) < 1) := by omega
      by_cases h4 : t.size ≤ 400
      case neg =>
        have hr : Hid (vldL s.data.toList = false) := by show _ = _; rw [HT.out]; exact tailV_len h4
        have hi : (400 : Int) < t.size := by omega
        clear h0
        go_wp2_with fail
        go_ret
        exact ⟨by rw [hr.out]; rfl, rfl⟩
      have h4i : ¬ ((400 : Int) < t.size) := by omega
      have hhd : t.data.toList.head? = some t[0] := by
        rw [List.head?_eq_getElem?]; exact List.getElem?_eq_getElem hpos
      by_cases h5 : 1 < t.size ∧ t[0] = 48
      case pos =>
        have hr : Hid (vldL s.data.toList = false) := by
          show _ = _
          rw [HT.out]
          exact tailV_zero (by have := h5.1; show ¬ (t.size ≤ 1); omega) (by rw [hhd, h5.2])
        have hi : (1 : Int) < t.size := by omega
        have hz : (t[0].toNat : Int) = 48 := by rw [h5.2]; rfl
        clear h0 h5 hhd
        go_wp2_with fail
        go_ret
        exact ⟨by rw [hr.out]; rfl, rfl⟩
      have HT2 : Hid (vldL s.data.toList = t.data.toList.all isD) := by
        show _ = _
        rw [HT.out]
        refine tailV_go (fun h => by rw [h] at hhd; cases hhd) h4 ?_
        by_cases h6 : 1 < t.size
        · exact .inr fun h => h5 ⟨h6, by rw [hhd] at h; exact Option.some.inj h⟩
        · left; show t.size ≤ 1; omega
      have HGO : Hid (((t.size : Int) ≤ 1) ∨ ((t.size : Int) > 1 ∧ ¬ ((t[0].toNat : Int) = 48))) := by
        by_cases h6 : 1 < t.size
        · refine .inr ⟨by omega, fun h => h5 ⟨h6, ?_⟩⟩
          exact UInt8.toNat_inj.1 (by have : t[0].toNat = 48 := by omega
                                      exact this)
        · exact .inl (by omega)
      clear h0 h5 hhd HT
      rcases HGO.out with hg | ⟨hg, hg2⟩
      · have hi : ¬ ((1 : Int) < t.size) := by omega
        go_wp2_with fail
        go_loop [4] (fun i => ∃ k : Nat, k ≤ t.size ∧ i = .int .i64 k ∧ Hid ((t.data.toList.take k).all isD = true)) (fun i => t.size - (intOf i).toNat)
        case atStart => exact ⟨0, by omega, rfl, rfl⟩
        case round =>
          obtain ⟨k, hk, rfl, hall⟩ := hrel
          by_cases hlt : k < t.size
          · have hkl : k < t.data.toList.length := hlt
            by_cases hd : isD t[k] = true
            · have hd2 : (48 : Int) ≤ t[k].toNat ∧ (t[k].toNat : Int) ≤ 57 := by
                unfold isD at hd; simp at hd; omega
              obtain ⟨hd3, hd4⟩ := hd2
              have hall2 : Hid ((t.data.toList.take (k + 1)).all isD = true) := by
                show _ = _
                rw [List.take_succ_eq_append_getElem hkl, List.all_append, hall.out]
                have : isD t.data.toList[k] = true := hd
                simp only [List.all_cons, List.all_nil, Bool.and_true, Bool.true_and]
                exact this
              clear hd
              go_wp2
              go_round
              case rel => exact ⟨k + 1, by omega, by go_num, hall2⟩
              case measure => first | (simp [intOf]; omega) | simp [intOf]
            · have hr : Hid (vldL s.data.toList = false) := by
                show _ = _
                rw [HT2.out]
                cases hx : t.data.toList.all isD with
                | false => rfl
                | true => exact absurd (List.all_eq_true.1 hx _ (List.getElem_mem hkl)) hd
              by_cases hlow : t[k].toNat < 48
              · have hlow2 : (t[k].toNat : Int) < 48 := by omega
                clear hd hlow
                go_wp2
                go_ret
                exact ⟨by rw [hr.out]; rfl, rfl⟩
              · have hlow2 : (48 : Int) ≤ (t[k].toNat : Int) := by omega
                have hhigh : (57 : Int) < t[k].toNat := by unfold isD at hd; simp at hd; omega
                clear hd hlow
                go_wp2
                go_ret
                exact ⟨by rw [hr.out]; rfl, rfl⟩
          · obtain rfl : k = t.size := by omega
            have hall2 := hall.out
            rw [List.take_of_length_le (by exact Nat.le_refl _)] at hall2
            have HALL : Hid (vldL s.data.toList = true) := by show _ = _; rw [HT2.out]; exact hall2
            clear hall2 hall
            go_wp2
            go_ret
            exact ⟨by rw [HALL.out]; rfl, rfl⟩
      · have hi : (1 : Int) < t.size := by omega
        go_wp2_with fail
        go_loop [4] (fun i => ∃ k : Nat, k ≤ t.size ∧ i = .int .i64 k ∧ Hid ((t.data.toList.take k).all isD = true)) (fun i => t.size - (intOf i).toNat)
        case atStart => exact ⟨0, by omega, rfl, rfl⟩
        case round =>
          obtain ⟨k, hk, rfl, hall⟩ := hrel
          by_cases hlt : k < t.size
          · have hkl : k < t.data.toList.length := hlt
            by_cases hd : isD t[k] = true
            · have hd2 : (48 : Int) ≤ t[k].toNat ∧ (t[k].toNat : Int) ≤ 57 := by
                unfold isD at hd; simp at hd; omega
              obtain ⟨hd3, hd4⟩ := hd2
              have hall2 : Hid ((t.data.toList.take (k + 1)).all isD = true) := by
                show _ = _
                rw [List.take_succ_eq_append_getElem hkl, List.all_append, hall.out]
                have : isD t.data.toList[k] = true := hd
                simp only [List.all_cons, List.all_nil, Bool.and_true, Bool.true_and]
                exact this
              clear hd
              go_wp2
              go_round
              case rel => exact ⟨k + 1, by omega, by go_num, hall2⟩
              case measure => first | (simp [intOf]; omega) | simp [intOf]
            · have hr : Hid (vldL s.data.toList = false) := by
                show _ = _
                rw [HT2.out]
                cases hx : t.data.toList.all isD with
                | false => rfl
                | true => exact absurd (List.all_eq_true.1 hx _ (List.getElem_mem hkl)) hd
              by_cases hlow : t[k].toNat < 48
              · have hlow2 : (t[k].toNat : Int) < 48 := by omega
                clear hd hlow
                go_wp2
                go_ret
                exact ⟨by rw [hr.out]; rfl, rfl⟩
              · have hlow2 : (48 : Int) ≤ (t[k].toNat : Int) := by omega
                have hhigh : (57 : Int) < t[k].toNat := by unfold isD at hd; simp at hd; omega
                clear hd hlow
                go_wp2
                go_ret
                exact ⟨by rw [hr.out]; rfl, rfl⟩
          · obtain rfl : k = t.size := by omega
            have hall2 := hall.out
            rw [List.take_of_length_le (by exact Nat.le_refl _)] at hall2
            have HALL : Hid (vldL s.data.toList = true) := by show _ = _; rw [HT2.out]; exact hall2
            clear hall2 hall
            go_wp2
            go_ret
            exact ⟨by rw [HALL.out]; rfl, rfl⟩
  · have HT : Hid (vldL s.data.toList = tailV s.data.toList) := vld_plain _ (by
      by_cases h1 : s.size ≤ 1
      · exact .inl h1
      · exact .inr fun h => hm ⟨by omega, h⟩)
    have HG : Hid ((s.size : Int) ≤ 1 ∨ ((s.size : Int) > 1 ∧ ∀ h : 0 < s.size, ¬ ((s[0].toNat : Int) = 45))) := by
      by_cases h1 : s.size ≤ 1
      · exact .inl (by omega)
      · refine .inr ⟨by omega, fun h0 h => hm ⟨by omega, ?_⟩⟩
        rw [List.head?_eq_getElem?, List.getElem?_eq_getElem (show 0 < s.data.toList.length from h0)]
        exact congrArg some (UInt8.toNat_inj.1 (by have : s[0].toNat = 45 := by omega
                                                   exact this))
    clear hm
    rcases HG.out with hg | ⟨hg, hg2⟩
    · have hi0 : ¬ ((1 : Int) < s.size) := by omega
      go_enter Tryz.func49, Tryz.ntmps49
      go_upto_region 6 with fail
      by_cases h0 : s.size = 0
      · have hr : Hid (vldL s.data.toList = false) := by show _ = _; rw [HT.out]; unfold tailV; have : s.data.toList = [] := List.length_eq_zero_iff.1 h0; rw [this]; simp
        have hi : (s.size : Int) < 1 := by omega
        clear h0
        go_wp2_with fail
        go_ret
        exact ⟨by rw [hr.out]; rfl, rfl⟩
      have hpos : 0 < s.size := by omega
      have hip : ¬ ((s.size : Int) < 1) := by omega
      by_cases h4 : s.size ≤ 400
      case neg =>
        have hr : Hid (vldL s.data.toList = false) := by show _ = _; rw [HT.out]; exact tailV_len h4
        have hi : (400 : Int) < s.size := by omega
        clear h0
        go_wp2_with fail
        go_ret
        exact ⟨by rw [hr.out]; rfl, rfl⟩
      have h4i : ¬ ((400 : Int) < s.size) := by omega
      have hhd : s.data.toList.head? = some s[0] := by
        rw [List.head?_eq_getElem?]; exact List.getElem?_eq_getElem hpos
      by_cases h5 : 1 < s.size ∧ s[0] = 48
      case pos => exact absurd h5.1 (by omega)
      have HT2 : Hid (vldL s.data.toList = s.data.toList.all isD) := by
        show _ = _
        rw [HT.out]
        refine tailV_go (fun h => by rw [h] at hhd; cases hhd) h4 ?_
        by_cases h6 : 1 < s.size
        · exact .inr fun h => h5 ⟨h6, by rw [hhd] at h; exact Option.some.inj h⟩
        · left; show s.size ≤ 1; omega
      have HGO : Hid (((s.size : Int) ≤ 1) ∨ ((s.size : Int) > 1 ∧ ¬ ((s[0].toNat : Int) = 48))) := by
        by_cases h6 : 1 < s.size
        · refine .inr ⟨by omega, fun h => h5 ⟨h6, ?_⟩⟩
          exact UInt8.toNat_inj.1 (by have : s[0].toNat = 48 := by omega
                                      exact this)
        · exact .inl (by omega)
      clear h0 h5 hhd HT
      rcases HGO.out with hg | ⟨hg, hg2⟩
      · have hi : ¬ ((1 : Int) < s.size) := by omega
        go_wp2_with fail
        go_loop [4] (fun i => ∃ k : Nat, k ≤ s.size ∧ i = .int .i64 k ∧ Hid ((s.data.toList.take k).all isD = true)) (fun i => s.size - (intOf i).toNat)
        case atStart => exact ⟨0, by omega, rfl, rfl⟩
        case round =>
          obtain ⟨k, hk, rfl, hall⟩ := hrel
          by_cases hlt : k < s.size
          · have hkl : k < s.data.toList.length := hlt
            by_cases hd : isD s[k] = true
            · have hd2 : (48 : Int) ≤ s[k].toNat ∧ (s[k].toNat : Int) ≤ 57 := by
                unfold isD at hd; simp at hd; omega
              obtain ⟨hd3, hd4⟩ := hd2
              have hall2 : Hid ((s.data.toList.take (k + 1)).all isD = true) := by
                show _ = _
                rw [List.take_succ_eq_append_getElem hkl, List.all_append, hall.out]
                have : isD s.data.toList[k] = true := hd
                simp only [List.all_cons, List.all_nil, Bool.and_true, Bool.true_and]
                exact this
              clear hd
              go_wp2
              go_round
              case rel => exact ⟨k + 1, by omega, by go_num, hall2⟩
              case measure => first | (simp [intOf]; omega) | simp [intOf]
            · have hr : Hid (vldL s.data.toList = false) := by
                show _ = _
                rw [HT2.out]
                cases hx : s.data.toList.all isD with
                | false => rfl
                | true => exact absurd (List.all_eq_true.1 hx _ (List.getElem_mem hkl)) hd
              by_cases hlow : s[k].toNat < 48
              · have hlow2 : (s[k].toNat : Int) < 48 := by omega
                clear hd hlow
                go_wp2
                go_ret
                exact ⟨by rw [hr.out]; rfl, rfl⟩
              · have hlow2 : (48 : Int) ≤ (s[k].toNat : Int) := by omega
                have hhigh : (57 : Int) < s[k].toNat := by unfold isD at hd; simp at hd; omega
                clear hd hlow
                go_wp2
                go_ret
                exact ⟨by rw [hr.out]; rfl, rfl⟩
          · obtain rfl : k = s.size := by omega
            have hall2 := hall.out
            rw [List.take_of_length_le (by exact Nat.le_refl _)] at hall2
            have HALL : Hid (vldL s.data.toList = true) := by show _ = _; rw [HT2.out]; exact hall2
            clear hall2 hall
            go_wp2
            go_ret
            exact ⟨by rw [HALL.out]; rfl, rfl⟩
      · exfalso; omega
    · have hi0 : (1 : Int) < s.size := by omega
      have hp0 : 0 < s.size := by omega
      have hz := hg2 hp0
      clear hg2
      go_enter Tryz.func49, Tryz.ntmps49
      go_upto_region 6 with fail
      by_cases h0 : s.size = 0
      · have hr : Hid (vldL s.data.toList = false) := by show _ = _; rw [HT.out]; unfold tailV; have : s.data.toList = [] := List.length_eq_zero_iff.1 h0; rw [this]; simp
        have hi : (s.size : Int) < 1 := by omega
        clear h0
        go_wp2_with fail
        go_ret
        exact ⟨by rw [hr.out]; rfl, rfl⟩
      have hpos : 0 < s.size := by omega
      have hip : ¬ ((s.size : Int) < 1) := by omega
      by_cases h4 : s.size ≤ 400
      case neg =>
        have hr : Hid (vldL s.data.toList = false) := by show _ = _; rw [HT.out]; exact tailV_len h4
        have hi : (400 : Int) < s.size := by omega
        clear h0
        go_wp2_with fail
        go_ret
        exact ⟨by rw [hr.out]; rfl, rfl⟩
      have h4i : ¬ ((400 : Int) < s.size) := by omega
      have hhd : s.data.toList.head? = some s[0] := by
        rw [List.head?_eq_getElem?]; exact List.getElem?_eq_getElem hpos
      by_cases h5 : 1 < s.size ∧ s[0] = 48
      case pos =>
        have hr : Hid (vldL s.data.toList = false) := by
          show _ = _
          rw [HT.out]
          exact tailV_zero (by have := h5.1; show ¬ (s.size ≤ 1); omega) (by rw [hhd, h5.2])
        have hi : (1 : Int) < s.size := by omega
        have hz : (s[0].toNat : Int) = 48 := by rw [h5.2]; rfl
        clear h0 h5 hhd
        go_wp2_with fail
        go_ret
        exact ⟨by rw [hr.out]; rfl, rfl⟩
      have HT2 : Hid (vldL s.data.toList = s.data.toList.all isD) := by
        show _ = _
        rw [HT.out]
        refine tailV_go (fun h => by rw [h] at hhd; cases hhd) h4 ?_
        by_cases h6 : 1 < s.size
        · exact .inr fun h => h5 ⟨h6, by rw [hhd] at h; exact Option.some.inj h⟩
        · left; show s.size ≤ 1; omega
      have HGO : Hid (((s.size : Int) ≤ 1) ∨ ((s.size : Int) > 1 ∧ ¬ ((s[0].toNat : Int) = 48))) := by
        by_cases h6 : 1 < s.size
        · refine .inr ⟨by omega, fun h => h5 ⟨h6, ?_⟩⟩
          exact UInt8.toNat_inj.1 (by have : s[0].toNat = 48 := by omega
                                      exact this)
        · exact .inl (by omega)
      clear h0 h5 hhd HT
      rcases HGO.out with hg | ⟨hg, hg2⟩
      · exfalso; omega
      · have hi : (1 : Int) < s.size := by omega
        go_wp2_with fail
        go_loop [4] (fun i => ∃ k : Nat, k ≤ s.size ∧ i = .int .i64 k ∧ Hid ((s.data.toList.take k).all isD = true)) (fun i => s.size - (intOf i).toNat)
        case atStart => exact ⟨0, by omega, rfl, rfl⟩
        case round =>
          obtain ⟨k, hk, rfl, hall⟩ := hrel
          by_cases hlt : k < s.size
          · have hkl : k < s.data.toList.length := hlt
            by_cases hd : isD s[k] = true
            · have hd2 : (48 : Int) ≤ s[k].toNat ∧ (s[k].toNat : Int) ≤ 57 := by
                unfold isD at hd; simp at hd; omega
              obtain ⟨hd3, hd4⟩ := hd2
              have hall2 : Hid ((s.data.toList.take (k + 1)).all isD = true) := by
                show _ = _
                rw [List.take_succ_eq_append_getElem hkl, List.all_append, hall.out]
                have : isD s.data.toList[k] = true := hd
                simp only [List.all_cons, List.all_nil, Bool.and_true, Bool.true_and]
                exact this
              clear hd
              go_wp2
              go_round
              case rel => exact ⟨k + 1, by omega, by go_num, hall2⟩
              case measure => first | (simp [intOf]; omega) | simp [intOf]
            · have hr : Hid (vldL s.data.toList = false) := by
                show _ = _
                rw [HT2.out]
                cases hx : s.data.toList.all isD with
                | false => rfl
                | true => exact absurd (List.all_eq_true.1 hx _ (List.getElem_mem hkl)) hd
              by_cases hlow : s[k].toNat < 48
              · have hlow2 : (s[k].toNat : Int) < 48 := by omega
                clear hd hlow
                go_wp2
                go_ret
                exact ⟨by rw [hr.out]; rfl, rfl⟩
              · have hlow2 : (48 : Int) ≤ (s[k].toNat : Int) := by omega
                have hhigh : (57 : Int) < s[k].toNat := by unfold isD at hd; simp at hd; omega
                clear hd hlow
                go_wp2
                go_ret
                exact ⟨by rw [hr.out]; rfl, rfl⟩
          · obtain rfl : k = s.size := by omega
            have hall2 := hall.out
            rw [List.take_of_length_le (by exact Nat.le_refl _)] at hall2
            have HALL : Hid (vldL s.data.toList = true) := by show _ = _; rw [HT2.out]; exact hall2
            clear hall2 hall
            go_wp2
            go_ret
            exact ⟨by rw [HALL.out]; rfl, rfl⟩
end Go.Proofs.YtifhiefdhhmdeaaGreatDoor
