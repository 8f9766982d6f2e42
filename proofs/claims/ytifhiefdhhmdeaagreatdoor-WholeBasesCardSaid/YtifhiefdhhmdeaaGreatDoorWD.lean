/- The walk of WholeInts. -/
import Derived.Test.YtifhiefdhhmdeaaGreatDoorXC
import Derived.Test.YtifhiefdhhmdeaaGreatDoorWC
namespace Go.Proofs.YtifhiefdhhmdeaaGreatDoor
open Go Go.RowKit

theorem decDigits_txt (u : Nat) : Lib.decDigits u = txt 10 u := by
  induction u using Nat.strongRecOn with
  | _ u ih =>
    rw [Lib.decDigits]
    by_cases h : u < 10
    · rw [dif_pos h, ← chr10 u h]
      unfold txt
      by_cases h0 : u = 0
      · rw [if_pos h0, h0]; rfl
      · rw [if_neg h0, dgs_pos (by omega) (by omega), show u / 10 = 0 by omega, show u % 10 = u by omega]
        rfl
    · rw [dif_neg h, ih (u / 10) (by omega), ← chr10 (u % 10) (by omega)]
      unfold txt
      rw [if_neg (by omega), if_neg (by omega), dgs_pos (N := u) (by omega) (by omega)]
      simp
theorem itoa_txtZ (z : Int) : Lib.itoa z = txtZ 10 z := by
  unfold Lib.itoa txtZ
  by_cases h : z < 0
  · rw [if_pos h, if_pos h, decDigits_txt]
  · rw [if_neg h, if_neg h, decDigits_txt, show z.toNat = z.natAbs by omega]
theorem int_fits {z : Int} (h : InInt z) : fits z := by
  have h1 : z.natAbs < 10 ^ 19 := by have := h.1; have := h.2; omega
  exact (Dl_iff.2 h1).fits (by omega)
set_option maxRecDepth 100000 in
set_option maxHeartbeats 4000000 in
theorem t26 (n : Int) (w : World) (hn : InInt n) (hT : TabOk w) : Calls Tryz.prog 26 #[.int .i64 n] w fun e w' => e = .returned (.string (numS n)) ∧ Below w.heap.size w w' := by
  have c1 := t50 n w hn hT
  rw [itoa_txtZ] at c1
  have C1 : Hid (Calls Tryz.prog 50 #[.int .i64 n] w fun e w' => e = .returned (.string (numS n)) ∧ Below w.heap.size w w') := c1
  clear c1 hT hn
  go_enter Tryz.func26, Tryz.ntmps26
  go_wp2_with fail
  refine C1.out.mono ?_
  rintro e w1 ⟨rfl, hb1⟩
  go_wp2_with fail
  go_ret
  exact ⟨rfl, hb1⟩
set_option maxRecDepth 100000 in
set_option maxHeartbeats 4000000 in
theorem t29 (n : Int) (w : World) (hn : InInt n) (hT : TabOk w) : Calls Tryz.prog 29 #[.int .i64 n] w fun e w' => e = .returned (.string (numS n)) ∧ Below w.heap.size w w' := by
  have c1 := t50 n w hn hT
  rw [itoa_txtZ] at c1
  have C1 : Hid (Calls Tryz.prog 50 #[.int .i64 n] w fun e w' => e = .returned (.string (numS n)) ∧ Below w.heap.size w w') := c1
  clear c1 hT hn
  go_enter Tryz.func29, Tryz.ntmps29
  go_wp2_with fail
  refine C1.out.mono ?_
  rintro e w1 ⟨rfl, hb1⟩
  go_wp2_with fail
  go_ret
  exact ⟨rfl, hb1⟩
theorem both27 (s : ByteArray) (ev : Value) (w0 : World) (hs : s.size ≤ 9223372036854775807) (hv : w0.cell? ⟨2, 0, none⟩ = some ev) (hev : ∃ te pe, ev = .iface te pe) :
    ∃ c n : Int, (∀ W, Below w0.heap.size w0 W → Calls Tryz.prog 27 #[.string s] W fun e w' => e = .returned (.tuple #[.int .i64 c, .int .i64 n]) ∧ Below W.heap.size W w') ∧ (∀ W, Calls Tryz.prog 28 #[.string s] W fun e w' => e = .returned (.tuple #[.int .i64 c, .int .i64 n]) ∧ Below W.heap.size W w') := by
  cases hvl : vldL s.data.toList with
  | false =>
    have hno : ∀ z, ¬ IsNum s.data.toList z := fun z hz => by rw [(vldL_iff _).2 ⟨z, hz⟩] at hvl; cases hvl
    refine ⟨0, 1, fun W h => ?_, fun W => ?_⟩
    · refine (t27 s ev W (below_cell h hv) hev).mono fun e w' k => ?_
      rcases k with ⟨-, h1, h2⟩ | ⟨z, hz, -, -⟩
      · exact ⟨h1, h2⟩
      · exact absurd hz (hno z)
    · refine (t28 s W hs).mono fun e w' k => ?_
      rcases k with ⟨-, h1, h2⟩ | ⟨z, hz, -, -⟩
      · exact ⟨h1, h2⟩
      · exact absurd hz (hno z)
  | true =>
    obtain ⟨z, hz⟩ := (vldL_iff _).1 hvl
    refine ⟨intV z, intE z, fun W h => ?_, fun W => ?_⟩
    · refine (t27 s ev W (below_cell h hv) hev).mono fun e w' k => ?_
      rcases k with ⟨h0, -, -⟩ | ⟨z', hz', h1, h2⟩
      · rw [hvl] at h0; cases h0
      · obtain rfl := num_one hz' hz
        exact ⟨h1, h2⟩
    · refine (t28 s W hs).mono fun e w' k => ?_
      rcases k with ⟨h0, -, -⟩ | ⟨z', hz', h1, h2⟩
      · rw [hvl] at h0; cases h0
      · obtain rfl := num_one hz' hz
        exact ⟨h1, h2⟩
theorem a27 (n : Int) (ev : Value) (w0 : World) (hn : InInt n) (hv : w0.cell? ⟨2, 0, none⟩ = some ev) (hev : ∃ te pe, ev = .iface te pe) (W : World) (h : Below w0.heap.size w0 W) :
    Calls Tryz.prog 27 #[.string (numS n)] W fun e w' => e = .returned (.tuple #[.int .i64 n, .int .i64 0]) ∧ Below W.heap.size W w' := by
  have hz := num_numS (int_fits hn)
  refine (t27 (numS n) ev W (below_cell h hv) hev).mono fun e w' k => ?_
  rcases k with ⟨h0, -, -⟩ | ⟨z', hz', h1, h2⟩
  · rw [(vldL_iff _).2 ⟨n, hz⟩] at h0; cases h0
  · obtain rfl := num_one hz' hz
    rw [(int_in hn).1, (int_in hn).2] at h1
    exact ⟨h1, h2⟩
theorem long1 (s : ByteArray) (w : World) (hs : s.size ≤ 9223372036854775807) :
    Calls Tryz.prog 13 #[.slice (some ⟨w.heap.size, 0, none⟩) 1 1] (w.alloc (.cells #[.string s] 9)) fun e w' => e = .returned (.bool (decide (3000 < s.size))) ∧ w.alloc (.cells #[.string s] 9) = w' := by
  have h := t13 w.heap.size 1 1 [s] (w.alloc (.cells #[.string s] 9)) rfl (Nat.le_refl _) (by unfold maxLen; omega) (fun k x hx => (Blk.new w #[.string s] 9).cell k (by
    match k, hx with
    | 0, hx => obtain rfl := Option.some.inj hx; rfl)) (fun x hx => by rw [List.mem_singleton.1 hx]; exact hs)
  simpa using h
set_option maxRecDepth 100000 in
set_option maxHeartbeats 4000000 in
theorem t7 (n : Int) (s : ByteArray) (m0 : Int) (ev : Value) (w : World) (hn : InInt n) (hs : s.size ≤ 9223372036854775807) (hT : TabOk w) (hm : w.cell? ⟨0, 0, none⟩ = some (.int .i64 m0)) (hv : w.cell? ⟨2, 0, none⟩ = some ev) (hev : ∃ te pe, ev = .iface te pe) :
    Calls Tryz.prog 7 #[.int .i64 n, .string s] w fun e w' => e = .returned (.bool true) ∧ Below w.heap.size w w' := by
  have HS := Lib.hid (fun W (h : Below w.heap.size w W) => t14 m0 W (below_cell h hm))
  have HL0 := long1 s w hs
  have HB0 := Lib.hid (bSelf0 w (.cells #[.string s] 9))
  have C26 := Lib.hid (fun W (h : Below w.heap.size w W) => t26 n W hn (hT.on h))
  have C29 := Lib.hid (fun W (h : Below w.heap.size w W) => t29 n W hn (hT.on h))
  have CA := Lib.hid (a27 n ev w hn hv hev)
  obtain ⟨c, k, h27, h28⟩ := both27 s ev w hs hv hev
  have C27 := Lib.hid h27
  have C28 := Lib.hid h28
  clear h27 h28 hT hm hv hev hs hn
  by_cases hlong : 3000 < s.size
  · have hd : decide (3000 < s.size) = true := by simpa using hlong
    rw [hd] at HL0
    have HL := Lib.hid HL0
    clear hd hlong HL0
    go_enter Tryz.func7, Tryz.ntmps7
    go_wp2_with fail
    refine HL.out.mono ?_
    rintro e w1 ⟨rfl, rfl⟩
    go_wp2_with fail
    refine (HS.out _ HB0.out).mono ?_
    rintro e w2 ⟨rfl, hb2⟩
    have hB2 := bThen HB0.out hb2
    go_wp2_with fail
    go_ret
    exact ⟨rfl, hB2⟩
  · have hd : decide (3000 < s.size) = false := by simpa using hlong
    rw [hd] at HL0
    have HL := Lib.hid HL0
    clear hd hlong HL0
    go_enter Tryz.func7, Tryz.ntmps7
    go_wp2_with fail
    refine HL.out.mono ?_
    rintro e w1 ⟨rfl, rfl⟩
    go_wp2_with fail
    refine (C26.out _ HB0.out).mono ?_
    rintro e w2 ⟨rfl, hb2⟩
    have hB2 := bThen HB0.out hb2
    clear hb2
    go_wp2_with fail
    refine (CA.out _ hB2).mono ?_
    rintro e w3 ⟨rfl, hb3⟩
    have hB3 := bThen hB2 hb3
    clear hb3
    go_wp2_with fail
    refine (C27.out _ hB3).mono ?_
    rintro e w4 ⟨rfl, hb4⟩
    have hB4 := bThen hB3 hb4
    clear hb4
    go_wp2_with fail
    refine (C28.out w4).mono ?_
    rintro e w5 ⟨rfl, hb5⟩
    have hB5 := bThen hB4 hb5
    clear hb5
    go_wp2_with fail
    refine (C29.out _ hB5).mono ?_
    rintro e w6 ⟨rfl, hb6⟩
    have hB6 := bThen hB5 hb6
    clear hb6
    go_wp2_with fail
    refine (HS.out _ hB6).mono ?_
    rintro e w7 ⟨rfl, hb7⟩
    have hB7 := bThen hB6 hb7
    go_wp2_with fail
    go_ret
    exact ⟨rfl, hB7⟩
end Go.Proofs.YtifhiefdhhmdeaaGreatDoor
