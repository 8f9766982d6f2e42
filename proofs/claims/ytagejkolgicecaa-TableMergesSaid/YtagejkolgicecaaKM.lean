/- Merge, Copy, Same. -/
import Derived.Test.YtagejkolgicecaaKS
import Derived.Test.YtagejkolgicecaaKN
namespace Go.Proofs.Ytagejkolgicecaa
open Go Go.RowKit Go.Maps
theorem rows_ok {S : Tb} (h : Ok S) : (∀ r ∈ S.rows, WF r.1) ∧ S.rows.Pairwise (fun x y => x.1 ≠ y.1) ∧ S.rows.length ≤ 500 := by
  refine ⟨fun r hr => ?_, ?_, by unfold Tb.rows; rw [List.length_map]; exact h.len⟩
  · obtain ⟨k, hk, rfl⟩ := List.mem_map.1 hr
    exact h.wf k hk
  · unfold Tb.rows
    rw [List.pairwise_map]
    exact h.nd
/-- putAll of a fresh list -/
theorem put_fresh {F : Nat → Prop} {b : Nat} {S : Tb} (w w1 : World) (h : Tab F w b S) (hn : ∀ i, w.heap.size ≤ i → F i) (hb : Below w.heap.size w w1) (v : Value) (rs : List (Int × Int)) (hP : Prs w1 v rs) (hv : ∀ rb, v.ownBlock = some rb → w.heap.size ≤ rb)
    (hk : ∀ r ∈ rs, WF r.1) (hd : rs.Pairwise (fun x y => x.1 ≠ y.1)) (hrl : rs.length ≤ 500) (hp : S.pt < 4611686018427386904) :
    Calls Try.prog 65 #[.pointer (some ⟨b, 0, none⟩), v] w1 fun e w' => e = .returned (.int .i64 (S.allE rs)) ∧ Tab F w' b (S.all rs) ∧ Turn F w1 w' := by
  obtain ⟨hO, m0, m1, kv, hW⟩ := h
  obtain ⟨ao, cap, rfl, hR, ho, hlt⟩ := hP.read
  have hW1 : Wit (fun i => F i ∧ (Value.slice ao rs.length cap).ownBlock ≠ some i) w1 b S m0 m1 kv := by
    have h1 := (hW.mono (G := fun i => F i ∧ (Value.slice ao rs.length cap).ownBlock ≠ some i) (fun i hi hf => ⟨hf, fun e => by have := hv i e; omega⟩)).below hb
    exact h1
  refine (t65 w1 hO hW1 (fun i hi => ⟨hn i (by have := hb.size; omega), fun e => by have := hlt i e; omega⟩) rs ao cap hR (fun rb e hf => hf.2 (ho rb e)) hk hd hrl hp).mono ?_
  rintro e w' ⟨rfl, ⟨kv', h1⟩, h2, h3⟩
  exact ⟨rfl, ⟨h2, m0, m1, kv', h1.mono (fun _ _ hf => hf.1)⟩, h3.mono (fun _ _ hf => hf.1)⟩
section
variable {F G : Nat → Prop} {b c : Nat} {S S2 : Tb}
theorem t29 (w : World) (h : Tab F w b S) (hn : ∀ i, w.heap.size ≤ i → F i) (h2 : Tab G w c S2) (hp : S.pt < 4611686018427386904) :
    Calls Try.prog 29 #[.pointer (some ⟨b, 0, none⟩), .pointer (some ⟨c, 0, none⟩)] w fun e w' => e = .returned (.int .i64 (S.allE S2.rows)) ∧ Tab F w' b (S.all S2.rows) ∧ Turn F w w' := by
  obtain ⟨hO2, m0, m1, kv, hW2⟩ := h2
  obtain ⟨r1, r2, r3⟩ := rows_ok hO2
  have C23 := Lib.hid (t23 w hO2 hW2)
  have C65 := Lib.hid (fun w1 v (hb : Below w.heap.size w w1) (hP : Prs w1 v S2.rows) hv => put_fresh w w1 h hn hb v S2.rows hP hv r1 r2 r3 hp)
  clear h hn hO2 hW2 r1 r2 r3
  go_enter Try.func29, Try.ntmps29
  go_wp2_with fail
  refine C23.out.mono ?_
  rintro e w1 ⟨v, rfl, hP, hb, hv⟩
  have C := Lib.hid (C65.out w1 v hb hP hv)
  have HB := Lib.hid hb
  clear hP hv C65 hb
  go_wp2_with fail
  refine C.out.mono ?_
  rintro e w2 ⟨rfl, h3, h4⟩
  have H3 := Lib.hid h3
  have H4 := Lib.hid h4
  clear h3 h4
  go_wp2
  go_ret
  exact ⟨rfl, H3.out, (Turn.of_below HB.out).trans H4.out⟩
theorem t29z (w : World) (h : Tab F w b S) (hn : ∀ i, w.heap.size ≤ i → F i) (p : Value) (h2 : NoneT w p) (hp : S.pt < 4611686018427386904) :
    Calls Try.prog 29 #[.pointer (some ⟨b, 0, none⟩), p] w fun e w' => e = .returned (.int .i64 (S.allE [])) ∧ Tab F w' b (S.all []) ∧ Turn F w w' := by
  have C23 := Lib.hid (t23n w p h2)
  have C65 := Lib.hid (put_fresh w w h hn (Below.refl _ _) (.slice none 0 0) [] ⟨rfl, .inl ⟨rfl, rfl⟩⟩ (fun rb e => by cases e) (by simp) (by simp) (by simp) hp)
  clear h hn h2
  go_enter Try.func29, Try.ntmps29
  go_wp2_with fail
  refine C23.out.mono ?_
  rintro e w1 ⟨rfl, rfl⟩
  go_wp2_with fail
  refine C65.out.mono ?_
  rintro e w2 ⟨rfl, h3, h4⟩
  have H3 := Lib.hid h3
  have H4 := Lib.hid h4
  clear h3 h4
  go_wp2
  go_ret
  exact ⟨rfl, H3.out, H4.out⟩
theorem t34 (w : World) (h : Tab F w b S) (h2 : Tab G w c S2) : Calls Try.prog 34 #[.pointer (some ⟨b, 0, none⟩), .pointer (some ⟨c, 0, none⟩)] w fun e w' => e = .returned (.bool (decide (S.rows = S2.rows))) ∧ Below w.heap.size w w' := by
  obtain ⟨hO, m0, m1, kv, hW⟩ := h
  obtain ⟨hO2, n0, n1, lv, hW2⟩ := h2
  have C1 := Lib.hid (t23 w hO hW)
  have C2 := Lib.hid (fun w1 (hb : Below w.heap.size w w1) => t23 w1 hO2 (hW2.below hb))
  have hl := (rows_ok hO).2.2
  have C69 := Lib.hid (fun W ao ao' cap cap' h1 h2 => t69 W ao ao' cap cap' S.rows S2.rows h1 h2 (by omega))
  clear hO hW hO2 hW2
  go_enter Try.func34, Try.ntmps34
  go_wp2_with fail
  refine C1.out.mono ?_
  rintro e w1 ⟨v, rfl, hP, hb, _⟩
  have HP := Lib.hid hP
  have HB := Lib.hid hb
  clear hP hb C1
  go_wp2_with fail
  refine (C2.out w1 HB.out).mono ?_
  rintro e w2 ⟨v2, rfl, hP2, hb2, _⟩
  obtain ⟨ao, cap, rfl, hR, _⟩ := (HP.out.below hb2).read
  obtain ⟨ao', cap', rfl, hR', _⟩ := hP2.read
  have C := Lib.hid (C69.out w2 ao ao' cap cap' hR hR')
  have HB2 := Lib.hid (bThen HB.out hb2)
  clear hP2 hR hR' HP hb2 C69 C2
  go_wp2_with fail
  refine C.out.mono ?_
  rintro e w3 ⟨rfl, hb3⟩
  have HB3 := Lib.hid (bThen HB2.out hb3)
  clear hb3
  go_wp2
  go_ret
  exact ⟨rfl, HB3.out⟩
theorem t32 (w : World) (h : Tab G w b S) : Calls Try.prog 32 #[.pointer (some ⟨b, 0, none⟩)] w fun e w' => ∃ c, e = .returned (.pointer (some ⟨c, 0, none⟩)) ∧ Tab (fun i => w.heap.size ≤ i) w' c (Tb.new.all S.rows) ∧ Below w.heap.size w w' := by
  have HT := Lib.hid h
  obtain ⟨hO, m0, m1, kv, hW⟩ := h
  have q0 := hW.blk.cell 0 rfl
  have C55 := Lib.hid (t55 b m0 w q0)
  have C20 := Lib.hid (t20 (fun i => w.heap.size ≤ i) w (fun i h => h))
  have C2 := Lib.hid (fun w1 (hb : Below w.heap.size w w1) => t23 w1 hO (hW.below hb))
  obtain ⟨r1, r2, r3⟩ := rows_ok hO
  have C65 := Lib.hid (fun w1 w2 c (hT : Tab (fun i => w.heap.size ≤ i) w1 c Tb.new) (hs : w.heap.size ≤ w1.heap.size) v (hb : Below w1.heap.size w1 w2) (hP : Prs w2 v S.rows) hv => put_fresh w1 w2 hT (fun i hi => Nat.le_trans hs hi) hb v S.rows hP hv r1 r2 r3 (by show (0 : Nat) < 4611686018427386904; omega))
  clear hO hW r1 r2 r3
  go_enter Try.func32, Try.ntmps32
  go_wp2_with (go_at_call 55; refine C55.out.mono ?_; rintro e w' ⟨rfl, rfl⟩)
  refine C20.out.mono ?_
  rintro e w1 ⟨c, rfl, h1, hb1, _⟩
  have H1 := Lib.hid h1
  have HB1 := Lib.hid hb1
  clear h1 hb1 C20
  go_wp2_with fail
  refine (C2.out w1 HB1.out).mono ?_
  rintro e w2 ⟨v, rfl, hP, hb2, hv⟩
  have C := Lib.hid (C65.out w1 w2 c H1.out HB1.out.size v hb2 hP hv)
  have HB2 := Lib.hid (bThen HB1.out hb2)
  clear hP hv hb2 C65 C2
  go_wp2_with fail
  refine C.out.mono ?_
  rintro e w3 ⟨rfl, h3, h4⟩
  have H3 := Lib.hid h3
  have H4 := Lib.hid h4
  clear h3 h4
  go_wp2
  go_ret
  exact ⟨c, rfl, H3.out, HB2.out.trans (H4.out.below HB2.out.size (fun k hk => hk))⟩
end
end Go.Proofs.Ytagejkolgicecaa
