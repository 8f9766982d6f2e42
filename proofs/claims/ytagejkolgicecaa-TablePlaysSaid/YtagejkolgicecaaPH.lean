/- TablePlays. -/
import Derived.Deep.RegionHeld3
import Derived.Maps.RangeWalk
import Derived.Test.YtagejkolgicecaaPG
namespace Go.Proofs.Ytagejkolgicecaa
open Go Go.RowKit Go.Maps
set_option maxRecDepth 100000 in
set_option maxHeartbeats 16000000 in
theorem t3 (w : World) (ao : Option Addr) (cap : Nat) (ds : List Dd) (hD : DsP w ao ds) (hl : ds.length ≤ 9223372036854775807) (key : Int) (hk : WF key) :
    Calls Try.prog 3 #[.slice ao ds.length cap, .int .i64 key] w fun e w' => e = .returned (.bool true) ∧ Below w.heap.size w w' := by
  have C12 := Lib.hid (t12 (Zoo.start w) 0)
  have HD := Lib.hid hD
  have HKEY := Lib.hid hk
  have hl' : (ds.length : Int) ≤ 9223372036854775807 := by omega
  clear hD hk
  go_enter Try.func3, Try.ntmps3
  go_wp2_with fail
  refine C12.out.mono ?_
  clear C12
  rintro e w2 ⟨t, o, r, p, rfl, hz2⟩
  obtain ⟨P2, hz3, hQ, hQ2, -⟩ := hz2.base (bSelf w2 (.cells #[.pointer (some ⟨t, 0, none⟩), .pointer (some ⟨o, 0, none⟩), .pointer (some ⟨r, 0, none⟩), .pointer (some ⟨p, 0, none⟩)] 26))
  have HB3 := Lib.hid (hz2.below (bSelf w2 (.cells #[.pointer (some ⟨t, 0, none⟩), .pointer (some ⟨o, 0, none⟩), .pointer (some ⟨r, 0, none⟩), .pointer (some ⟨p, 0, none⟩)] 26)))
  have HS2 := Lib.hid hz2.tn.size
  have HPP : Hid (∀ k, k < w.heap.size → P2 k) := fun k hk => hQ2 k hk trivial
  have HP4 : Hid (P2 w2.heap.size) := hQ _ (Nat.le_refl _)
  have hk4 := Blk.new w2 #[.pointer (some ⟨t, 0, none⟩), .pointer (some ⟨o, 0, none⟩), .pointer (some ⟨r, 0, none⟩), .pointer (some ⟨p, 0, none⟩)] 26
  have HS3 : Hid (w2.heap.size < (w2.alloc (.cells #[.pointer (some ⟨t, 0, none⟩), .pointer (some ⟨o, 0, none⟩), .pointer (some ⟨r, 0, none⟩), .pointer (some ⟨p, 0, none⟩)] 26)).heap.size) := by show _ < _; simp
  have HKP := Lib.hid hk4
  have HZ0 := Lib.hid hz3
  have HG0 := Lib.hid (begunF_game (fun _ => none) 0 t o r p)
  clear hz2 hz3 hQ hQ2 hk4
  go_wp2_with fail
  generalize w2.alloc (.cells #[.pointer (some ⟨t, 0, none⟩), .pointer (some ⟨o, 0, none⟩), .pointer (some ⟨r, 0, none⟩), .pointer (some ⟨p, 0, none⟩)] 26) = W3 at *
  go_loopw [7, 6] (fun i okv wr => ∃ (j : Nat) (S O : Tb) (R Q : Rt) (f' : Nat → Option Th), j ≤ 100 ∧ i = .int .i64 j ∧ okv = .bool true ∧ Hid (Zoo P2 W3 wr f') ∧ Hid (Game 0 j f' t o r p S O R Q)) (fun i _ _ => 100 - (intOf i).toNat)
  case atStart => exact ⟨0, _, _, _, _, _, Nat.zero_le _, rfl, rfl, HZ0, HG0⟩
  case round =>
    obtain ⟨j, S, O, R, Q, f', hj1, rfl, rfl, HZ, HG⟩ := hrel
    clear HZ0 HG0
    have x0 := HZ.out.cell HP4.out (HKP.out.cell 0 rfl)
    have x1 := HZ.out.cell HP4.out (HKP.out.cell 1 rfl)
    have x2 := HZ.out.cell HP4.out (HKP.out.cell 2 rfl)
    have x3 := HZ.out.cell HP4.out (HKP.out.cell 3 rfl)
    by_cases hlt : j < ds.length
    · have hlt' : (j : Int) < ds.length := by omega
      by_cases h1 : j < 100
      · have h1' : (j : Int) < 100 := by omega
        obtain ⟨x, hg⟩ : ∃ x, ds[j]? = some x := ⟨_, List.getElem?_eq_getElem hlt⟩
        have hBw := (HB3.out.back HZ.out (fun k hk _ => HPP.out k hk)).end_
        have hfi0 : x.Fine w := by obtain ⟨_, _, _, _, _, _, _, _, h⟩ := HD.out j x hg; exact h
        obtain ⟨db, off, hae, hdb, d0, d1, d2, d3, hfi⟩ := (HD.out.below hBw) j x hg
        subst hae
        obtain ⟨db0, off0, hae0, hdb0, _, _, _, _, _⟩ := HD.out j x hg
        have hdbp : P2 db := by cases hae0; exact HPP.out db hdb0
        obtain ⟨c0, c1, c2, c3⟩ : W3.cell? ⟨db, off + j * 4, none⟩ = some (.int .i64 x.d) ∧ W3.cell? ⟨db, off + j * 4 + 1, none⟩ = some (.int .i64 x.a) ∧ W3.cell? ⟨db, off + j * 4 + 2, none⟩ = some (.int .i64 x.b) ∧ W3.cell? ⟨db, off + j * 4 + 3, none⟩ = some (.slice x.ao x.ps.length x.cap) := by
          obtain ⟨db1, off1, hae1, _, h3, h4, h5, h6, _⟩ := (HD.out.below HB3.out.end_) j x hg
          cases hae1; exact ⟨h3, h4, h5, h6⟩
        have C13 := Lib.hid (t13 wr.drew (HZ.out.below (Below.refl _ _).drew) HG.out (by omega) x.d x.a x.b hfi.wf x.ao x.ps.length x.cap x.ps rfl hfi.len hfi.cap (hfi.rows.below (Below.refl _ _).drew) (fun rb o e h0 => ⟨by have := hfi0.lt rb o e h0; have := HS2.out; have := HS3.out; omega, HPP.out rb (hfi0.lt rb o e h0)⟩) hfi.pwf)
        clear hBw hfi hfi0 hg hae0 hdb0
        have hm : (j : Int).tmod 8 = 0 ∨ ¬ (j : Int).tmod 8 = 0 := Classical.em _
        have qx0 : wr.drew.cell? ⟨w2.heap.size, 0, none⟩ = some (.pointer (some ⟨t, 0, none⟩)) := x0
        have qx1 : wr.drew.cell? ⟨w2.heap.size, 1, none⟩ = some (.pointer (some ⟨o, 0, none⟩)) := x1
        have qx2 : wr.drew.cell? ⟨w2.heap.size, 2, none⟩ = some (.pointer (some ⟨r, 0, none⟩)) := x2
        have qx3 : wr.drew.cell? ⟨w2.heap.size, 3, none⟩ = some (.pointer (some ⟨p, 0, none⟩)) := x3
        have qd0 : wr.drew.cell? ⟨db, off + j * 4, none⟩ = some (.int .i64 x.d) := d0
        have qd1 : wr.drew.cell? ⟨db, off + j * 4 + 1, none⟩ = some (.int .i64 x.a) := d1
        have qd2 : wr.drew.cell? ⟨db, off + j * 4 + 2, none⟩ = some (.int .i64 x.b) := d2
        have qd3 : wr.drew.cell? ⟨db, off + j * 4 + 3, none⟩ = some (.slice x.ao x.ps.length x.cap) := d3
        have HDBP := Lib.hid hdbp
        clear hdbp
        rcases hm with hm | hm
        · go_wp2_with fail
          go_region_held3 (fun w' => w'.cell? ⟨w2.heap.size, 0, none⟩ = some (.pointer (some ⟨t, 0, none⟩)) ∧ w'.cell? ⟨w2.heap.size, 1, none⟩ = some (.pointer (some ⟨o, 0, none⟩)) ∧ w'.cell? ⟨w2.heap.size, 2, none⟩ = some (.pointer (some ⟨r, 0, none⟩)) ∧ w'.cell? ⟨w2.heap.size, 3, none⟩ = some (.pointer (some ⟨p, 0, none⟩)) ∧ w'.cell? ⟨db, off + j * 4, none⟩ = some (.int .i64 x.d) ∧ w'.cell? ⟨db, off + j * 4 + 1, none⟩ = some (.int .i64 x.a) ∧ w'.cell? ⟨db, off + j * 4 + 2, none⟩ = some (.int .i64 x.b) ∧ w'.cell? ⟨db, off + j * 4 + 3, none⟩ = some (.slice x.ao x.ps.length x.cap))
            (first
              | (with_reducible exact ⟨qx0, qx1, qx2, qx3, qd0, qd1, qd2, qd3⟩)
              | (with_reducible exact ⟨y0, y1, y2, y3, e0, e1, e2, e3⟩)
              | (with_reducible exact ⟨z0, z1, z2, z3, g0, g1, g2, g3⟩)
              | fail "nokeep")
            (first
              | (go_at_call 13; (with_reducible refine C13.out.mono ?_); rintro e w3 ⟨rfl, f2, S2, O2, R2, Q2, hz, hgm, hou⟩; have y0 := hz.cell HP4.out (HKP.out.cell 0 rfl); have y1 := hz.cell HP4.out (HKP.out.cell 1 rfl); have y2 := hz.cell HP4.out (HKP.out.cell 2 rfl); have y3 := hz.cell HP4.out (HKP.out.cell 3 rfl); have e0 := hz.cell HDBP.out c0; have e1 := hz.cell HDBP.out c1; have e2 := hz.cell HDBP.out c2; have e3 := hz.cell HDBP.out c3; have C14 := Lib.hid (z14 hz hgm key HKEY.out); have HZ2 := Lib.hid hz; have HG2 := Lib.hid hgm; clear hz hgm hou)
              | (go_at_call 14; (with_reducible refine C14.out.mono ?_); rintro e w4 ⟨rfl, hb4⟩; have z0 := below_cell hb4 y0; have z1 := below_cell hb4 y1; have z2 := below_cell hb4 y2; have z3 := below_cell hb4 y3; have g0 := below_cell hb4 e0; have g1 := below_cell hb4 e1; have g2 := below_cell hb4 e2; have g3 := below_cell hb4 e3; have HZ4 := Lib.hid (HZ2.out.below hb4); clear hb4)
              | fail "noarm")
          all_goals clear HZ HG
          all_goals go_wp2_with fail
          all_goals go_roundw
          case rel => exact ⟨j + 1, S2, O2, R2, Q2, f2, by omega, by go_num, rfl, HZ4.out, HG2⟩
          case measure => simp [intOf]; omega
        · have hm1 : ((j : Int).tmod 8 != 0) = true := by simp; exact hm
          go_wp2_with fail
          refine wp_region_any (by kernel_rfl) ?_
          change wpAny _ _ _ _ _ _ _ (World.drew _)
          refine wpAny_take (i := 1) (v := .slice (some ⟨db, off, none⟩) ds.length cap) rfl (by kernel_rfl) (by kernel_rfl) (by kernel_rfl) (fun _ _ _ h => h) (Or.inl ⟨by rfl, ?_⟩) ?_
          · intro w
            go_simp
            try (simp [hm1])
          refine wpAny_take (i := 2) (v := .int .i64 j) rfl (by kernel_rfl) (by kernel_rfl) (by kernel_rfl) (fun _ _ _ h => h) (Or.inl ⟨by rfl, ?_⟩) ?_
          · intro w
            go_simp
            try (simp [hm1])
          refine wpAny_take (i := 3) (v := .pointer (some ⟨db, off + j * 4, none⟩)) rfl (by kernel_rfl) (by kernel_rfl) (by kernel_rfl) (fun _ _ _ h => h) (Or.inl ⟨by rfl, ?_⟩) ?_
          · intro w
            go_simp
            try (simp [hm1])
          refine wpAny_ready (rs := [0, 4]) (by kernel_rfl) (by simp) ?_
          refine AllReady.cons rfl (fun K hK => ?_) (AllReady.cons rfl (fun K hK => ?_) AllReady.nil)
          · go_simp
            refine hK _ _ ?_
            clear hK K
            refine wpAny_ready (rs := [4]) (by kernel_rfl) (by simp) ?_
            refine AllReady.cons rfl (fun K hK => ?_) AllReady.nil
            go_simp
            refine hK _ _ ?_
            clear hK K
            refine wpAny_ready (rs := [5]) (by kernel_rfl) (by simp) ?_
            refine AllReady.cons rfl (fun K hK => ?_) AllReady.nil
            go_simp
            go_at_call 13
            refine C13.out.mono ?_
            rintro e w3 ⟨rfl, f2, S2, O2, R2, Q2, hz, hgm, hou⟩
            have HZ2 := Lib.hid hz
            have HG2 := Lib.hid hgm
            clear hz hgm hou
            (try go_simp)
            refine hK _ _ ?_
            clear hK K
            refine wpAny_take (i := 6) (v := .bool true) rfl (by kernel_rfl) (by kernel_rfl) (by kernel_rfl) (fun _ _ _ h => h) (Or.inl ⟨by rfl, ?_⟩) ?_
            · intro w
              go_simp
              try (simp [hm1])
            refine wpAny_take (i := 7) (v := .int .i64 j) rfl (by kernel_rfl) (by kernel_rfl) (by kernel_rfl) (fun _ _ _ h => h) (Or.inl ⟨by rfl, ?_⟩) ?_
            · intro w
              go_simp
              try (simp [hm1])
            refine wpAny_take (i := 8) (v := .int .i64 ((j : Int).tmod 8)) rfl (by kernel_rfl) (by kernel_rfl) (by kernel_rfl) (fun _ _ _ h => h) (Or.inl ⟨by rfl, ?_⟩) ?_
            · intro w
              go_simp
              try (simp [hm1])
            refine wpAny_take (i := 9) (v := .bool true) rfl (by kernel_rfl) (by kernel_rfl) (by kernel_rfl) (fun _ _ _ h => h) (Or.inl ⟨by rfl, ?_⟩) ?_
            · intro w
              go_simp
              try (simp [hm1])
            refine wpAny_take (i := 10) (v := .bool true) rfl (by kernel_rfl) (by kernel_rfl) (by kernel_rfl) (fun _ _ _ h => h) (Or.inl ⟨by rfl, ?_⟩) ?_
            · intro w
              go_simp
              try (simp [hm1])
            refine wpAny_take (i := 12) (v := undef) rfl (by kernel_rfl) (by kernel_rfl) (by kernel_rfl) (fun _ _ _ h => h) (Or.inr ⟨by rfl, rfl⟩) ?_
            refine wpAny_ready (rs := [11]) (by kernel_rfl) (by simp) ?_
            refine AllReady.cons rfl (fun K hK => ?_) AllReady.nil
            go_simp
            refine hK _ _ ?_
            clear hK K
            refine wpAny_ready (rs := [13]) (by kernel_rfl) (by simp) ?_
            refine AllReady.cons rfl (fun K hK => ?_) AllReady.nil
            go_simp
            refine hK _ _ ?_
            clear hK K
            refine wpAny_take (i := 14) (v := .bool true) rfl (by kernel_rfl) (by kernel_rfl) (by kernel_rfl) (fun _ _ _ h => h) (Or.inl ⟨by rfl, ?_⟩) ?_
            · intro w
              go_simp
              try (simp [hm1])
            refine wpAny_take (i := 15) (v := .bool true) rfl (by kernel_rfl) (by kernel_rfl) (by kernel_rfl) (fun _ _ _ h => h) (Or.inl ⟨by rfl, ?_⟩) ?_
            · intro w
              go_simp
              try (simp [hm1])
            refine wpAny_take (i := 16) (v := .bool true) rfl (by kernel_rfl) (by kernel_rfl) (by kernel_rfl) (fun _ _ _ h => h) (Or.inl ⟨by rfl, ?_⟩) ?_
            · intro w
              go_simp
              try (simp [hm1])
            refine wpAny_done (by kernel_rfl) ?_ _
            clear HZ HG
            (try go_frame)
            go_wp2_with fail
            go_roundw
            case rel => exact ⟨j + 1, S2, O2, R2, Q2, f2, by omega, by go_num, rfl, HZ2, HG2⟩
            case measure => simp [intOf]; omega
          · go_simp
            refine hK _ _ ?_
            clear hK K
            refine wpAny_ready (rs := [0]) (by kernel_rfl) (by simp) ?_
            refine AllReady.cons rfl (fun K hK => ?_) AllReady.nil
            go_simp
            refine hK _ _ ?_
            clear hK K
            refine wpAny_ready (rs := [5]) (by kernel_rfl) (by simp) ?_
            refine AllReady.cons rfl (fun K hK => ?_) AllReady.nil
            go_simp
            go_at_call 13
            refine C13.out.mono ?_
            rintro e w3 ⟨rfl, f2, S2, O2, R2, Q2, hz, hgm, hou⟩
            have HZ2 := Lib.hid hz
            have HG2 := Lib.hid hgm
            clear hz hgm hou
            (try go_simp)
            refine hK _ _ ?_
            clear hK K
            refine wpAny_take (i := 6) (v := .bool true) rfl (by kernel_rfl) (by kernel_rfl) (by kernel_rfl) (fun _ _ _ h => h) (Or.inl ⟨by rfl, ?_⟩) ?_
            · intro w
              go_simp
              try (simp [hm1])
            refine wpAny_take (i := 7) (v := .int .i64 j) rfl (by kernel_rfl) (by kernel_rfl) (by kernel_rfl) (fun _ _ _ h => h) (Or.inl ⟨by rfl, ?_⟩) ?_
            · intro w
              go_simp
              try (simp [hm1])
            refine wpAny_take (i := 8) (v := .int .i64 ((j : Int).tmod 8)) rfl (by kernel_rfl) (by kernel_rfl) (by kernel_rfl) (fun _ _ _ h => h) (Or.inl ⟨by rfl, ?_⟩) ?_
            · intro w
              go_simp
              try (simp [hm1])
            refine wpAny_take (i := 9) (v := .bool true) rfl (by kernel_rfl) (by kernel_rfl) (by kernel_rfl) (fun _ _ _ h => h) (Or.inl ⟨by rfl, ?_⟩) ?_
            · intro w
              go_simp
              try (simp [hm1])
            refine wpAny_take (i := 10) (v := .bool true) rfl (by kernel_rfl) (by kernel_rfl) (by kernel_rfl) (fun _ _ _ h => h) (Or.inl ⟨by rfl, ?_⟩) ?_
            · intro w
              go_simp
              try (simp [hm1])
            refine wpAny_take (i := 12) (v := undef) rfl (by kernel_rfl) (by kernel_rfl) (by kernel_rfl) (fun _ _ _ h => h) (Or.inr ⟨by rfl, rfl⟩) ?_
            refine wpAny_ready (rs := [11]) (by kernel_rfl) (by simp) ?_
            refine AllReady.cons rfl (fun K hK => ?_) AllReady.nil
            go_simp
            refine hK _ _ ?_
            clear hK K
            refine wpAny_ready (rs := [13]) (by kernel_rfl) (by simp) ?_
            refine AllReady.cons rfl (fun K hK => ?_) AllReady.nil
            go_simp
            refine hK _ _ ?_
            clear hK K
            refine wpAny_take (i := 14) (v := .bool true) rfl (by kernel_rfl) (by kernel_rfl) (by kernel_rfl) (fun _ _ _ h => h) (Or.inl ⟨by rfl, ?_⟩) ?_
            · intro w
              go_simp
              try (simp [hm1])
            refine wpAny_take (i := 15) (v := .bool true) rfl (by kernel_rfl) (by kernel_rfl) (by kernel_rfl) (fun _ _ _ h => h) (Or.inl ⟨by rfl, ?_⟩) ?_
            · intro w
              go_simp
              try (simp [hm1])
            refine wpAny_take (i := 16) (v := .bool true) rfl (by kernel_rfl) (by kernel_rfl) (by kernel_rfl) (fun _ _ _ h => h) (Or.inl ⟨by rfl, ?_⟩) ?_
            · intro w
              go_simp
              try (simp [hm1])
            refine wpAny_done (by kernel_rfl) ?_ _
            clear HZ HG
            (try go_frame)
            go_wp2_with fail
            go_roundw
            case rel => exact ⟨j + 1, S2, O2, R2, Q2, f2, by omega, by go_num, rfl, HZ2, HG2⟩
            case measure => simp [intOf]; omega

      · have h1' : ¬ ((j : Int) < 100) := by omega
        have C14 := Lib.hid (z14 HZ.out HG.out key HKEY.out)
        have HBE := Lib.hid (HB3.out.back HZ.out (fun k hk _ => HPP.out k hk)).end_
        go_wp2_with (first | (go_at_call 14; refine C14.out.mono ?_; rintro e w4 ⟨rfl, hb4⟩) | (go_at_call 15; refine (t15 w4).mono ?_; rintro e w5 ⟨rfl, hb5⟩))
        (try go_wp2)
        go_ret
        exact ⟨rfl, HBE.out.trans ((bThen hb4 hb5).mono HBE.out.size)⟩
    · have hlt' : ¬ ((j : Int) < ds.length) := by omega
      have C14 := Lib.hid (z14 HZ.out HG.out key HKEY.out)
      have HBE := Lib.hid (HB3.out.back HZ.out (fun k hk _ => HPP.out k hk)).end_
      go_wp2_with (first | (go_at_call 14; refine C14.out.mono ?_; rintro e w4 ⟨rfl, hb4⟩) | (go_at_call 15; refine (t15 w4).mono ?_; rintro e w5 ⟨rfl, hb5⟩))
      (try go_wp2)
      go_ret
      exact ⟨rfl, HBE.out.trans ((bThen hb4 hb5).mono HBE.out.size)⟩
end Go.Proofs.Ytagejkolgicecaa
