/- Contracts of text.Scrub and of the examples that each statement asks (sane). -/
import Derived.Test.YtjdnpgknamhnlaaDoorM
namespace Go.Proofs.YtjdnpgknamhnlaaDoor
open Go Go.RowKit Go.Shelf

set_option maxRecDepth 100000 in
theorem t29 (s by' : ByteArray) (w : World) (hT : Lib.Utf8Tabs 0 1 w) (hs : s.size ≤ 100000) (hby : by'.size ≤ 100000) :
    Calls Tryd.prog 29 #[.string s, .string by'] w fun e' w' => e' = .returned (.tuple #[.string ⟨(cat (pcs 2 by' (parts (nxOf 2) s))).toArray⟩, .int .i64 0]) ∧ Below w.heap.size w w' := by
  have c := t33 s by' 2 2 w hT hs hby rfl rfl
  go_enter Tryd.func29, Tryd.ntmps29
  go_wp2_with (go_at_call 33; refine c.mono ?_; rintro e1 w1 ⟨rfl, hb1⟩)
  go_ret2
  exact ⟨rfl, hb1⟩

theorem parts_e : parts (nxOf 2) ⟨#[195, 169]⟩ = [(⟨#[195, 169]⟩, 233)] := by kernel_rfl
theorem parts_ae : parts (nxOf 2) ⟨#[97, 195, 169]⟩ = [(⟨#[97]⟩, 97), (⟨#[195, 169]⟩, 233)] := by kernel_rfl
theorem scrub_ex : (cat (pcs 2 ⟨#[63]⟩ (parts (nxOf 2) ⟨#[226, 130, 65]⟩))).toArray = #[63, 65] := by kernel_rfl

set_option maxRecDepth 100000 in
set_option maxHeartbeats 1000000 in
theorem c15 (w : World) (hT : Lib.Utf8Tabs 0 1 w) :
    Calls Tryd.prog 15 #[] w fun e' w' => e' = .returned (.bool true) ∧ Below w.heap.size w w' := by
  have HT := Lib.hid hT
  have c1 := t18 ⟨#[195, 169]⟩ 2 w hT (by decide) rfl
  rw [parts_e] at c1
  have c2 : ∀ W, Below w.heap.size w W → Calls Tryd.prog 29 #[.string ⟨#[226, 130, 65]⟩, .string ⟨#[63]⟩] W fun e' w' => e' = .returned (.tuple #[.string ⟨#[63, 65]⟩, .int .i64 0]) ∧ Below W.heap.size W w' := fun W hb => by
    have := t29 ⟨#[226, 130, 65]⟩ ⟨#[63]⟩ W (Utf8Tabs_below HT.out hb) (by decide) (by decide)
    rw [scrub_ex] at this
    exact this
  have C2 := Lib.hid c2
  have c3 : ∀ W, Below w.heap.size w W → Calls Tryd.prog 25 #[.string ⟨#[97, 195, 169]⟩, .int .i64 2, .int .i64 (-1)] W fun e' w' => e' = .returned (.tuple #[.string ⟨#[195, 169]⟩, .int .i64 0]) ∧ Below W.heap.size W w' := fun W hb => by
    have hl : (parts (nxOf 2) ⟨#[97, 195, 169]⟩).length = 2 := by rw [parts_ae]; rfl
    have := t25 ⟨#[97, 195, 169]⟩ 2 (-1) W (Utf8Tabs_below HT.out hb) (by decide) rfl (by decide) (by decide) 1 (by rw [hl]; decide) (by rw [hl]; decide)
    simp only [parts_ae] at this
    exact this
  have C3 := Lib.hid c3
  clear c2 c3 hT
  go_enter Tryd.func15, Tryd.ntmps15
  go_wp2_with fail
  refine c1.mono ?_
  rintro e1 w1 ⟨(⟨_, v, rfl, hrow⟩ | ⟨⟨p, hp, h1⟩, _⟩), hb1⟩
  · obtain ⟨g, cap, rfl⟩ := ownsRow_succ (k := 0) hrow
    have hg := (hrow.lt g rfl).2
    have hcell : w1.cell? ⟨g, 0, none⟩ = some (.int .i64 233) := by rw [hrow.cellAt 0 (by decide)]; rfl
    go_wp2_with fail
    refine (C2.out _ hb1).mono ?_
    rintro e1 w2 ⟨rfl, hb2⟩
    have hB2 := hb1.trans (hb2.mono hb1.size)
    go_wp2_with fail
    refine (C3.out _ hB2).mono ?_
    rintro e1 w3 ⟨rfl, hb3⟩
    have hc3 : w3.cell? ⟨g, 0, none⟩ = some (.int .i64 233) := (hb3.cell (p := ⟨g, 0, none⟩) (Nat.lt_of_lt_of_le hg hb2.size)).trans ((hb2.cell (p := ⟨g, 0, none⟩) hg).trans hcell)
    have hB3 := hB2.trans (hb3.mono hB2.size)
    go_wp2
    go_ret
    exact ⟨rfl, hB3⟩
  · exfalso
    simp at hp
    subst hp
    cases h1
end Go.Proofs.YtjdnpgknamhnlaaDoor
