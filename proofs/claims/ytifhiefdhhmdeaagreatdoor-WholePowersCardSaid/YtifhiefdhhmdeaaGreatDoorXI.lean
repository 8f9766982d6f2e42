/- The walk of WholePowers. -/
import Derived.Test.YtifhiefdhhmdeaaGreatDoorXG
import Derived.Test.YtifhiefdhhmdeaaGreatDoorXH
namespace Go.Proofs.YtifhiefdhhmdeaaGreatDoor
open Go Go.RowKit

theorem both18 (s : ByteArray) (n : Int) (hs : s.size ≤ 9223372036854775807) : ∃ (u : ByteArray) (k : Int), (∀ W, Calls Tryz.prog 18 #[.string s, .int .i64 n] W fun e w' => e = .returned (.tuple #[.string u, .int .i64 k]) ∧ Below W.heap.size W w') ∧ (∀ W, Calls Tryz.prog 19 #[.string s, .int .i64 n] W fun e w' => e = .returned (.tuple #[.string u, .int .i64 k]) ∧ Below W.heap.size W w') := by
  by_cases h : (∃ z, IsNum s.data.toList z) ∧ 0 ≤ n ∧ n ≤ 1000
  · obtain ⟨⟨z, hz⟩, h1, h2⟩ := h
    have H : ∀ {w w' : World} {e : Ending}, PowQ s.data.toList n w e w' → e = .returned (.tuple #[.string (toldS (z ^ n.toNat)), .int .i64 (toldE (z ^ n.toNat))]) ∧ Below w.heap.size w w' := fun k => by
      rcases k with ⟨k, -, -⟩ | ⟨z', k1, -, -, k4, k5⟩
      · exfalso
        rcases k with k | k | k
        · rw [(vldL_iff _).2 ⟨z, hz⟩] at k; cases k
        · omega
        · omega
      · obtain rfl := num_one k1 hz
        exact ⟨k4, k5⟩
    exact ⟨_, _, fun W => (t18 s n W).mono fun _ _ k => H k, fun W => (t19 s n W hs).mono fun _ _ k => H k⟩
  · have H : ∀ {w w' : World} {e : Ending}, PowQ s.data.toList n w e w' → e = .returned (.tuple #[.string ⟨#[]⟩, .int .i64 1]) ∧ Below w.heap.size w w' := fun k => by
      rcases k with ⟨-, k1, k2⟩ | ⟨z', k1, k2, k3, -, -⟩
      · exact ⟨k1, k2⟩
      · exact absurd ⟨⟨z', k1⟩, k2, k3⟩ h
    exact ⟨_, _, fun W => (t18 s n W).mono fun _ _ k => H k, fun W => (t19 s n W hs).mono fun _ _ k => H k⟩
theorem both20 (s t : ByteArray) (n : Int) (hs : s.size ≤ 9223372036854775807) (ht : t.size ≤ 9223372036854775807) : ∃ (u : ByteArray) (k : Int), (∀ W, Calls Tryz.prog 20 #[.string s, .int .i64 n, .string t] W fun e w' => e = .returned (.tuple #[.string u, .int .i64 k]) ∧ Below W.heap.size W w') ∧ (∀ W, Calls Tryz.prog 21 #[.string s, .int .i64 n, .string t] W fun e w' => e = .returned (.tuple #[.string u, .int .i64 k]) ∧ Below W.heap.size W w') := by
  by_cases h : (∃ x, IsNum s.data.toList x) ∧ ∃ y, IsNum t.data.toList y
  · obtain ⟨⟨x, hx⟩, y, hy⟩ := h
    have H : ∀ {w w' : World} {e : Ending}, ModQ s.data.toList t.data.toList n w e w' → e = .returned (.tuple #[.string (modS n x y), .int .i64 (modE n x y)]) ∧ Below w.heap.size w w' := fun k => by
      rcases k with ⟨k, -, -⟩ | ⟨x', y', k1, k2, k4, k5⟩
      · exfalso
        rcases k with k | k
        · rw [(vldL_iff _).2 ⟨x, hx⟩] at k; cases k
        · rw [(vldL_iff _).2 ⟨y, hy⟩] at k; cases k
      · obtain rfl := num_one k1 hx
        obtain rfl := num_one k2 hy
        exact ⟨k4, k5⟩
    exact ⟨_, _, fun W => (t20 s t n W).mono fun _ _ k => H k, fun W => (t21 s t n W hs ht).mono fun _ _ k => H k⟩
  · have H : ∀ {w w' : World} {e : Ending}, ModQ s.data.toList t.data.toList n w e w' → e = .returned (.tuple #[.string ⟨#[]⟩, .int .i64 1]) ∧ Below w.heap.size w w' := fun k => by
      rcases k with ⟨-, k1, k2⟩ | ⟨x', y', k1, k2, -, -⟩
      · exact ⟨k1, k2⟩
      · exact absurd ⟨⟨x', k1⟩, y', k2⟩ h
    exact ⟨_, _, fun W => (t20 s t n W).mono fun _ _ k => H k, fun W => (t21 s t n W hs ht).mono fun _ _ k => H k⟩
/-- the list that is gone through, and the argument -/
structure Ps (w W : World) (gl : Nat) (va vm : Value) (s t s1 t1 : ByteArray) (n : Int) : Prop where
  ka : Blk W w.heap.size 31 [va, vm, .string s, .string t, .int .i64 n]
  kl : Blk W gl 32 [.string s, .string t, .string s1, .string t1]
  bel : Below w.heap.size w W
theorem Ps.next {w W W' : World} {gl : Nat} {va vm : Value} {s t s1 t1 : ByteArray} {n : Int} (h : Ps w W gl va vm s t s1 t1 n) (hb : Below W.heap.size W W') : Ps w W' gl va vm s t s1 t1 n :=
  ⟨h.ka.below hb h.ka.lt, h.kl.below hb h.kl.lt, bThen h.bel hb⟩
theorem three_at {W : World} {g : Nat} {n n1 n2 : Int} (h : Blk W g 3 [.int .i64 n, .int .i64 n1, .int .i64 n2]) (k : Nat) (hk : k < 3) : ∃ m : Int, W.cell? ⟨g, k, none⟩ = some (.int .i64 m) := by
  rcases (show k = 0 ∨ k = 1 ∨ k = 2 by omega) with rfl | rfl | rfl
  · exact ⟨_, h.cell 0 rfl⟩
  · exact ⟨_, h.cell 1 rfl⟩
  · exact ⟨_, h.cell 2 rfl⟩
set_option maxRecDepth 100000 in
set_option maxHeartbeats 8000000 in
theorem t5 (s t : ByteArray) (va vm : Value) (xs ys : List Int) (n m0 : Int) (w : World) (hva : IntsRead w va xs) (hvm : IntsRead w vm ys) (hx : ∀ x ∈ xs, InInt x) (hy : ∀ x ∈ ys, InInt x) (hT : TabOk w) (hl : xs.length ≤ 9223372036854775807) (hl' : ys.length ≤ 9223372036854775807) (hs : s.size ≤ 9223372036854775807) (ht : t.size ≤ 9223372036854775807) (hm : w.cell? ⟨0, 0, none⟩ = some (.int .i64 m0)) :
    Calls Tryz.prog 5 #[.agg #[va, vm, .string s, .string t, .int .i64 n]] w fun e w' => e = .returned (.bool true) ∧ Below w.heap.size w w' := by
  have C1 : Hid (∀ W : World, Below w.heap.size w W → Calls Tryz.prog 16 #[va, .int .i64 30] W fun e w' => ∃ z : Int, Dl z 30 ∧ e = .returned (.string (numS z)) ∧ Below W.heap.size W w') := fun W hb => a16 va xs 30 W (hva.below hb) hx (hT.on hb) hl (by omega) (by omega)
  have C2 : Hid (∀ W : World, Below w.heap.size w W → Calls Tryz.prog 16 #[vm, .int .i64 30] W fun e w' => ∃ z : Int, Dl z 30 ∧ e = .returned (.string (numS z)) ∧ Below W.heap.size W w') := fun W hb => a16 vm ys 30 W (hvm.below hb) hy (hT.on hb) hl' (by omega) (by omega)
  have HS := Lib.hid (fun W (h : Below w.heap.size w W) => t14 m0 W (below_cell h hm))
  obtain ⟨ao, ca, rfl, -⟩ := hva
  obtain ⟨bo, cb, rfl, -⟩ := hvm
  obtain ⟨lx, hlx⟩ : ∃ lx : Nat, lx = xs.length := ⟨_, rfl⟩
  obtain ⟨ly, hly⟩ : ∃ ly : Nat, ly = ys.length := ⟨_, rfl⟩
  rw [← hlx] at C1 ⊢
  rw [← hly] at C2 ⊢
  have HK := Lib.hid (Blk.new w #[.slice ao lx ca, .slice bo ly cb, .string s, .string t, .int .i64 n] 31)
  have HB0 := Lib.hid (bSelf w (.cells #[.slice ao lx ca, .slice bo ly cb, .string s, .string t, .int .i64 n] 31))
  have hl2 := long2 s t (w.alloc (.cells #[.slice ao lx ca, .slice bo ly cb, .string s, .string t, .int .i64 n] 31)) hs ht
  rw [show (w.alloc (.cells #[.slice ao lx ca, .slice bo ly cb, .string s, .string t, .int .i64 n] 31)).heap.size = w.heap.size + 1 by simp] at hl2
  have HSZ := Lib.hid (And.intro hs ht)
  clear hx hy hT hm hs ht hl hl' hlx hly
  by_cases hlong : 3000 < s.size ∨ 3000 < t.size
  · have hd : (decide (3000 < s.size) || decide (3000 < t.size)) = true := by simpa using hlong
    rw [hd] at hl2
    have HL := Lib.hid hl2
    have f2 := HK.out.cell 2 rfl
    have f3 := HK.out.cell 3 rfl
    clear hlong hd hl2
    go_enter Tryz.func5, Tryz.ntmps5
    go_wp2_with fail
    refine HL.out.mono ?_
    rintro e w1 ⟨rfl, rfl⟩
    have hB1 := bThen HB0.out (bSelf (w.alloc (.cells #[.slice ao lx ca, .slice bo ly cb, .string s, .string t, .int .i64 n] 31)) (.cells #[.string s, .string t] 9))
    clear f2 f3
    go_wp2_with fail
    refine (HS.out _ hB1).mono ?_
    rintro e w2 ⟨rfl, hb2⟩
    have hB2 := bThen hB1 hb2
    go_wp2_with fail
    go_ret
    exact ⟨rfl, hB2⟩
  · have hd : (decide (3000 < s.size) || decide (3000 < t.size)) = false := by simpa using hlong
    rw [hd] at hl2
    have HL := Lib.hid hl2
    have f2 := HK.out.cell 2 rfl
    have f3 := HK.out.cell 3 rfl
    clear hlong hd hl2
    go_enter Tryz.func5, Tryz.ntmps5
    go_wp2_with fail
    refine HL.out.mono ?_
    rintro e w1 ⟨rfl, rfl⟩
    have HB1 := Lib.hid (bThen HB0.out (bSelf (w.alloc (.cells #[.slice ao lx ca, .slice bo ly cb, .string s, .string t, .int .i64 n] 31)) (.cells #[.string s, .string t] 9)))
    have HK1 := Lib.hid (HK.out.alloc (.cells #[.string s, .string t] 9))
    clear f2 f3 HK HB0
    go_upto_region 3 with fail
    generalize (w.alloc (.cells #[.slice ao lx ca, .slice bo ly cb, .string s, .string t, .int .i64 n] 31)).alloc (.cells #[.string s, .string t] 9) = W1 at *
    have HK1d : Hid (Blk W1.drew w.heap.size 31 [.slice ao lx ca, .slice bo ly cb, .string s, .string t, .int .i64 n]) := HK1.out
    have c0 := HK1.out.cell 0 rfl
    have c1 := HK1.out.cell 1 rfl
    have c2 := HK1.out.cell 2 rfl
    have c3 := HK1.out.cell 3 rfl
    have d0 := HK1d.out.cell 0 rfl
    have d1 := HK1d.out.cell 1 rfl
    have d2 := HK1d.out.cell 2 rfl
    have d3 := HK1d.out.cell 3 rfl
    go_region_held3 (fun w' => w'.cell? ⟨w.heap.size, 0, none⟩ = some (.slice ao lx ca) ∧ w'.cell? ⟨w.heap.size, 1, none⟩ = some (.slice bo ly cb) ∧ w'.cell? ⟨w.heap.size, 2, none⟩ = some (.string s) ∧ w'.cell? ⟨w.heap.size, 3, none⟩ = some (.string t))
      (first
        | (with_reducible exact ⟨d0, d1, d2, d3⟩)
        | (with_reducible exact ⟨h0, h1, h2, h3⟩)
        | (with_reducible exact ⟨i0, i1, i2, i3⟩)
        | exact ⟨below_cell (bSelf w4 _) i0, below_cell (bSelf w4 _) i1, below_cell (bSelf w4 _) i2, below_cell (bSelf w4 _) i3⟩
        | fail "nokeep")
      (first
        | (go_at_call 16; (with_reducible refine (C1.out _ HB1.out.drew).mono ?_); rintro e w3 ⟨z, hz, rfl, hb3⟩; have h0 := below_cell hb3 d0; have h1 := below_cell hb3 d1; have h2 := below_cell hb3 d2; have h3 := below_cell hb3 d3)
        | (go_at_call 16; (with_reducible refine (C2.out _ (bThen HB1.out.drew hb3)).mono ?_); rintro e w4 ⟨y, hy, rfl, hb4⟩; have i0 := below_cell hb4 h0; have i1 := below_cell hb4 h1; have i2 := below_cell hb4 h2; have i3 := below_cell hb4 h3)
        | fail "noarm")
    obtain ⟨s1, hs1⟩ : ∃ s1 : ByteArray, s1 = numS z := ⟨_, rfl⟩
    obtain ⟨t1, ht1⟩ : ∃ t1 : ByteArray, t1 = numS y := ⟨_, rfl⟩
    have HZ : Hid (s.size ≤ 9223372036854775807 ∧ t.size ≤ 9223372036854775807 ∧ s1.size ≤ 9223372036854775807 ∧ t1.size ≤ 9223372036854775807) := ⟨HSZ.out.1, HSZ.out.2, by rw [hs1]; exact Nat.le_trans (num_lenp (num_numS (hz.fits (show 30 ≤ 400 by omega)))) (by omega), by rw [ht1]; exact Nat.le_trans (num_lenp (num_numS (hy.fits (show 30 ≤ 400 by omega)))) (by omega)⟩
    obtain ⟨va, hva⟩ : ∃ v : Value, v = .slice ao lx ca := ⟨_, rfl⟩
    obtain ⟨vm, hvm⟩ : ∃ v : Value, v = .slice bo ly cb := ⟨_, rfl⟩
    have HPS : Hid (Ps w (w4.alloc (.cells #[.string s, .string t, .string s1, .string t1] 32)) w4.heap.size va vm s t s1 t1 n) := by
      have k2 := (HK1d.out.below hb3 HK1d.out.lt).below hb4 (HK1d.out.below hb3 HK1d.out.lt).lt
      rw [hva, hvm]
      exact ⟨k2.alloc _, Blk.new w4 #[.string s, .string t, .string s1, .string t1] 32, bThen (bThen (bThen HB1.out.drew hb3) hb4) (bSelf w4 _)⟩
    rw [← hs1, ← ht1]
    clear d0 d1 d2 d3 c0 c1 c2 c3 h0 h1 h2 h3 i0 i1 i2 i3 hz hy hs1 ht1 HK1 HK1d HB1 hb3 hb4 C1 C2 HSZ hva hvm
    generalize w4.alloc (.cells #[.string s, .string t, .string s1, .string t1] 32) = W3 at *
    generalize w4.heap.size = gl at *
    go_wp2_with fail
    go_loopw [4] (fun u wr => ∃ i : Nat, i ≤ 2 ∧ u = .int .i64 i ∧ Hid (Ps w wr gl va vm s t s1 t1 n)) (fun u _ => 2 - (intOf u).toNat)
    case atStart => exact ⟨0, by omega, rfl, HPS⟩
    case round =>
      obtain ⟨i, hi, rfl, hS⟩ := hrel
      obtain ⟨wx, rfl⟩ : ∃ wx : World, wx = wr := ⟨_, rfl⟩
      clear HPS
      rcases (show i = 0 ∨ i = 1 ∨ i = 2 by omega) with rfl | rfl | rfl
      · clear hi
        have a4 := hS.out.ka.cell 4 rfl
        go_upto_region 8 with fail
        generalize wrap64 ((IntKind.u64.wrap n).tmod 1001) = n1
        generalize wrap64 ((IntKind.u64.wrap n).tmod 30) = n2
        have HKN := Lib.hid (Blk.new wx #[.int .i64 n, .int .i64 n1, .int .i64 n2] 3)
        have HS0 := Lib.hid (hS.out.next (bSelf wx (.cells #[.int .i64 n, .int .i64 n1, .int .i64 n2] 3)))
        clear a4 hS
        generalize wx.alloc (.cells #[.int .i64 n, .int .i64 n1, .int .i64 n2] 3) = WY at *
        generalize wx.heap.size = gn at *
        go_wp2_with fail
        go_loopw [6] (fun u wr => ∃ k : Nat, k ≤ 3 ∧ u = .int .i64 k ∧ Hid (Ps w wr gl va vm s t s1 t1 n) ∧ Hid (Blk wr gn 3 [.int .i64 n, .int .i64 n1, .int .i64 n2])) (fun u _ => 3 - (intOf u).toNat)
        case atStart => exact ⟨0, by omega, rfl, HS0, HKN⟩
        case round =>
          obtain ⟨k, hk, rfl, hS2, hK2⟩ := hrel
          obtain ⟨wo, rfl⟩ : ∃ wo : World, wo = wr := ⟨_, rfl⟩
          clear HS0 HKN
          by_cases hk3 : k < 3
          · have hki : (k : Int) < 3 := by omega
            obtain ⟨m, c0c⟩ := three_at hK2.out k hk3
            have c0a := hS2.out.kl.cell 0 rfl
            have c0b := hS2.out.kl.cell 1 rfl
            obtain ⟨u, q, e1, e2⟩ := both18 s m HZ.out.1
            obtain ⟨u2, q2, e4, e5⟩ := both20 s t m HZ.out.1 HZ.out.2.1
            have E1 := Lib.hid e1
            have E2 := Lib.hid e2
            have E4 := Lib.hid e4
            have E5 := Lib.hid e5
            clear e1 e2 e4 e5 hk3
            go_upto_region 11 with fail
            have d0a : wo.drew.cell? ⟨gl, 0, none⟩ = some (.string s) := c0a
            have d0b : wo.drew.cell? ⟨gl, 1, none⟩ = some (.string t) := c0b
            have d0c : wo.drew.cell? ⟨gn, k, none⟩ = some (.int .i64 m) := c0c
            have q0 : Below wo.heap.size wo wo.drew := (Below.refl _ _).drew
            go_region_held3 (fun w' => w'.cell? ⟨gl, 0, none⟩ = some (.string s) ∧ w'.cell? ⟨gl, 1, none⟩ = some (.string t) ∧ w'.cell? ⟨gn, k, none⟩ = some (.int .i64 m))
              (first
                | (with_reducible exact ⟨d0a, d0b, d0c⟩)
                | (with_reducible exact ⟨c1a, c1b, c1c⟩)
                | fail "nokeep")
              (first
                | (go_at_call 18; (with_reducible refine (E1.out _).mono ?_); rintro e w1 ⟨rfl, hb1⟩; have c1a := below_cell hb1 d0a; have c1b := below_cell hb1 d0b; have c1c := below_cell hb1 d0c)
                | fail "noarm")
            have p1 := bThen q0 hb1
            clear d0a d0b d0c q0 hb1 c0a c0b c0c
            go_upto_region 12 with fail
            have d1a : w1.drew.cell? ⟨gl, 0, none⟩ = some (.string s) := c1a
            have d1b : w1.drew.cell? ⟨gl, 1, none⟩ = some (.string t) := c1b
            have d1c : w1.drew.cell? ⟨gn, k, none⟩ = some (.int .i64 m) := c1c
            have q1 : Below wo.heap.size wo w1.drew := p1.drew
            go_region_held3 (fun w' => w'.cell? ⟨gl, 0, none⟩ = some (.string s) ∧ w'.cell? ⟨gl, 1, none⟩ = some (.string t) ∧ w'.cell? ⟨gn, k, none⟩ = some (.int .i64 m))
              (first
                | (with_reducible exact ⟨d1a, d1b, d1c⟩)
                | (with_reducible exact ⟨c2a, c2b, c2c⟩)
                | fail "nokeep")
              (first
                | (go_at_call 19; (with_reducible refine (E2.out _).mono ?_); rintro e w2 ⟨rfl, hb2⟩; have c2a := below_cell hb2 d1a; have c2b := below_cell hb2 d1b; have c2c := below_cell hb2 d1c)
                | fail "noarm")
            have p2 := bThen q1 hb2
            clear d1a d1b d1c q1 hb2 c1a c1b c1c p1
            go_upto_region 13 with fail
            have d2a : w2.drew.cell? ⟨gl, 0, none⟩ = some (.string s) := c2a
            have d2b : w2.drew.cell? ⟨gl, 1, none⟩ = some (.string t) := c2b
            have d2c : w2.drew.cell? ⟨gn, k, none⟩ = some (.int .i64 m) := c2c
            have q2 : Below wo.heap.size wo w2.drew := p2.drew
            go_region_held3 (fun w' => w'.cell? ⟨gl, 0, none⟩ = some (.string s) ∧ w'.cell? ⟨gl, 1, none⟩ = some (.string t) ∧ w'.cell? ⟨gn, k, none⟩ = some (.int .i64 m))
              (first
                | (with_reducible exact ⟨d2a, d2b, d2c⟩)
                | (with_reducible exact ⟨c3a, c3b, c3c⟩)
                | fail "nokeep")
              (first
                | (go_at_call 20; (with_reducible refine (E4.out _).mono ?_); rintro e w3 ⟨rfl, hb3⟩; have c3a := below_cell hb3 d2a; have c3b := below_cell hb3 d2b; have c3c := below_cell hb3 d2c)
                | fail "noarm")
            have p3 := bThen q2 hb3
            clear d2a d2b d2c q2 hb3 c2a c2b c2c p2
            go_upto_region 14 with fail
            have d3a : w3.drew.cell? ⟨gl, 0, none⟩ = some (.string s) := c3a
            have d3b : w3.drew.cell? ⟨gl, 1, none⟩ = some (.string t) := c3b
            have d3c : w3.drew.cell? ⟨gn, k, none⟩ = some (.int .i64 m) := c3c
            have q3 : Below wo.heap.size wo w3.drew := p3.drew
            go_region_held3 (fun w' => w'.cell? ⟨gl, 0, none⟩ = some (.string s) ∧ w'.cell? ⟨gl, 1, none⟩ = some (.string t) ∧ w'.cell? ⟨gn, k, none⟩ = some (.int .i64 m))
              (first
                | (with_reducible exact ⟨d3a, d3b, d3c⟩)
                | (with_reducible exact ⟨c4a, c4b, c4c⟩)
                | fail "nokeep")
              (first
                | (go_at_call 21; (with_reducible refine (E5.out _).mono ?_); rintro e w4 ⟨rfl, hb4⟩; have c4a := below_cell hb4 d3a; have c4b := below_cell hb4 d3b; have c4c := below_cell hb4 d3c)
                | fail "noarm")
            have p4 := bThen q3 hb4
            clear d3a d3b d3c q3 hb4 c3a c3b c3c p3
            
            have HS5 := Lib.hid (hS2.out.next p4)
            have HK5 := Lib.hid (hK2.out.below p4 hK2.out.lt)
            clear c4a c4b c4c p4 E1 E2 E4 E5
            go_wp2
            go_roundw
            case rel => exact ⟨k + 1, by omega, by go_num, HS5, HK5⟩
            case measure => simp [intOf]; omega
          · obtain rfl : k = 3 := by omega
            clear hk3 hk
            go_wp2
            go_roundw
            case rel => exact ⟨1, by omega, by first | rfl | go_num, hS2⟩
            case measure => first | (simp [intOf]; done) | (simp [intOf]; omega)
      · clear hi
        have a4 := hS.out.ka.cell 4 rfl
        go_upto_region 8 with fail
        generalize wrap64 ((IntKind.u64.wrap n).tmod 1001) = n1
        generalize wrap64 ((IntKind.u64.wrap n).tmod 30) = n2
        have HKN := Lib.hid (Blk.new wx #[.int .i64 n, .int .i64 n1, .int .i64 n2] 3)
        have HS0 := Lib.hid (hS.out.next (bSelf wx (.cells #[.int .i64 n, .int .i64 n1, .int .i64 n2] 3)))
        clear a4 hS
        generalize wx.alloc (.cells #[.int .i64 n, .int .i64 n1, .int .i64 n2] 3) = WY at *
        generalize wx.heap.size = gn at *
        go_wp2_with fail
        go_loopw [6] (fun u wr => ∃ k : Nat, k ≤ 3 ∧ u = .int .i64 k ∧ Hid (Ps w wr gl va vm s t s1 t1 n) ∧ Hid (Blk wr gn 3 [.int .i64 n, .int .i64 n1, .int .i64 n2])) (fun u _ => 3 - (intOf u).toNat)
        case atStart => exact ⟨0, by omega, rfl, HS0, HKN⟩
        case round =>
          obtain ⟨k, hk, rfl, hS2, hK2⟩ := hrel
          obtain ⟨wo, rfl⟩ : ∃ wo : World, wo = wr := ⟨_, rfl⟩
          clear HS0 HKN
          by_cases hk3 : k < 3
          · have hki : (k : Int) < 3 := by omega
            obtain ⟨m, c0c⟩ := three_at hK2.out k hk3
            have c0a := hS2.out.kl.cell 2 rfl
            have c0b := hS2.out.kl.cell 3 rfl
            obtain ⟨u, q, e1, e2⟩ := both18 s1 m HZ.out.2.2.1
            obtain ⟨u2, q2, e4, e5⟩ := both20 s1 t1 m HZ.out.2.2.1 HZ.out.2.2.2
            have E1 := Lib.hid e1
            have E2 := Lib.hid e2
            have E4 := Lib.hid e4
            have E5 := Lib.hid e5
            clear e1 e2 e4 e5 hk3
            go_upto_region 11 with fail
            have d0a : wo.drew.cell? ⟨gl, 2, none⟩ = some (.string s1) := c0a
            have d0b : wo.drew.cell? ⟨gl, 3, none⟩ = some (.string t1) := c0b
            have d0c : wo.drew.cell? ⟨gn, k, none⟩ = some (.int .i64 m) := c0c
            have q0 : Below wo.heap.size wo wo.drew := (Below.refl _ _).drew
            go_region_held3 (fun w' => w'.cell? ⟨gl, 2, none⟩ = some (.string s1) ∧ w'.cell? ⟨gl, 3, none⟩ = some (.string t1) ∧ w'.cell? ⟨gn, k, none⟩ = some (.int .i64 m))
              (first
                | (with_reducible exact ⟨d0a, d0b, d0c⟩)
                | (with_reducible exact ⟨c1a, c1b, c1c⟩)
                | fail "nokeep")
              (first
                | (go_at_call 18; (with_reducible refine (E1.out _).mono ?_); rintro e w1 ⟨rfl, hb1⟩; have c1a := below_cell hb1 d0a; have c1b := below_cell hb1 d0b; have c1c := below_cell hb1 d0c)
                | fail "noarm")
            have p1 := bThen q0 hb1
            clear d0a d0b d0c q0 hb1 c0a c0b c0c
            go_upto_region 12 with fail
            have d1a : w1.drew.cell? ⟨gl, 2, none⟩ = some (.string s1) := c1a
            have d1b : w1.drew.cell? ⟨gl, 3, none⟩ = some (.string t1) := c1b
            have d1c : w1.drew.cell? ⟨gn, k, none⟩ = some (.int .i64 m) := c1c
            have q1 : Below wo.heap.size wo w1.drew := p1.drew
            go_region_held3 (fun w' => w'.cell? ⟨gl, 2, none⟩ = some (.string s1) ∧ w'.cell? ⟨gl, 3, none⟩ = some (.string t1) ∧ w'.cell? ⟨gn, k, none⟩ = some (.int .i64 m))
              (first
                | (with_reducible exact ⟨d1a, d1b, d1c⟩)
                | (with_reducible exact ⟨c2a, c2b, c2c⟩)
                | fail "nokeep")
              (first
                | (go_at_call 19; (with_reducible refine (E2.out _).mono ?_); rintro e w2 ⟨rfl, hb2⟩; have c2a := below_cell hb2 d1a; have c2b := below_cell hb2 d1b; have c2c := below_cell hb2 d1c)
                | fail "noarm")
            have p2 := bThen q1 hb2
            clear d1a d1b d1c q1 hb2 c1a c1b c1c p1
            go_upto_region 13 with fail
            have d2a : w2.drew.cell? ⟨gl, 2, none⟩ = some (.string s1) := c2a
            have d2b : w2.drew.cell? ⟨gl, 3, none⟩ = some (.string t1) := c2b
            have d2c : w2.drew.cell? ⟨gn, k, none⟩ = some (.int .i64 m) := c2c
            have q2 : Below wo.heap.size wo w2.drew := p2.drew
            go_region_held3 (fun w' => w'.cell? ⟨gl, 2, none⟩ = some (.string s1) ∧ w'.cell? ⟨gl, 3, none⟩ = some (.string t1) ∧ w'.cell? ⟨gn, k, none⟩ = some (.int .i64 m))
              (first
                | (with_reducible exact ⟨d2a, d2b, d2c⟩)
                | (with_reducible exact ⟨c3a, c3b, c3c⟩)
                | fail "nokeep")
              (first
                | (go_at_call 20; (with_reducible refine (E4.out _).mono ?_); rintro e w3 ⟨rfl, hb3⟩; have c3a := below_cell hb3 d2a; have c3b := below_cell hb3 d2b; have c3c := below_cell hb3 d2c)
                | fail "noarm")
            have p3 := bThen q2 hb3
            clear d2a d2b d2c q2 hb3 c2a c2b c2c p2
            go_upto_region 14 with fail
            have d3a : w3.drew.cell? ⟨gl, 2, none⟩ = some (.string s1) := c3a
            have d3b : w3.drew.cell? ⟨gl, 3, none⟩ = some (.string t1) := c3b
            have d3c : w3.drew.cell? ⟨gn, k, none⟩ = some (.int .i64 m) := c3c
            have q3 : Below wo.heap.size wo w3.drew := p3.drew
            go_region_held3 (fun w' => w'.cell? ⟨gl, 2, none⟩ = some (.string s1) ∧ w'.cell? ⟨gl, 3, none⟩ = some (.string t1) ∧ w'.cell? ⟨gn, k, none⟩ = some (.int .i64 m))
              (first
                | (with_reducible exact ⟨d3a, d3b, d3c⟩)
                | (with_reducible exact ⟨c4a, c4b, c4c⟩)
                | fail "nokeep")
              (first
                | (go_at_call 21; (with_reducible refine (E5.out _).mono ?_); rintro e w4 ⟨rfl, hb4⟩; have c4a := below_cell hb4 d3a; have c4b := below_cell hb4 d3b; have c4c := below_cell hb4 d3c)
                | fail "noarm")
            have p4 := bThen q3 hb4
            clear d3a d3b d3c q3 hb4 c3a c3b c3c p3
            
            have HS5 := Lib.hid (hS2.out.next p4)
            have HK5 := Lib.hid (hK2.out.below p4 hK2.out.lt)
            clear c4a c4b c4c p4 E1 E2 E4 E5
            go_wp2
            go_roundw
            case rel => exact ⟨k + 1, by omega, by go_num, HS5, HK5⟩
            case measure => simp [intOf]; omega
          · obtain rfl : k = 3 := by omega
            clear hk3 hk
            go_wp2
            go_roundw
            case rel => exact ⟨2, by omega, by first | rfl | go_num, hS2⟩
            case measure => first | (simp [intOf]; done) | (simp [intOf]; omega)
      · clear hi
        go_wp2_with fail
        refine (HS.out _ hS.out.bel).mono ?_
        rintro e w9 ⟨rfl, hb9⟩
        have hB9 := bThen hS.out.bel hb9
        go_wp2_with fail
        go_ret
        exact ⟨rfl, hB9⟩
end Go.Proofs.YtifhiefdhhmdeaaGreatDoor
