/- Index, Where, At, Get. -/
import Derived.Test.YtagejkolgicecaaA
namespace Go.Proofs.Ytagejkolgicecaa
open Go Go.RowKit Go.Maps

/-- the place of an int among ints -/
def IdxR (l : List Int) (x : Int) (e : Ending) : Prop := (x ∉ l ∧ e = .returned (.int .i64 (-1))) ∨ ∃ k : Nat, l[k]? = some x ∧ e = .returned (.int .i64 (k : Int))
set_option maxRecDepth 100000 in
set_option maxHeartbeats 2000000 in
theorem t70 (l : List Int) (x : Int) (kv : Value) (w : World) (h : w.ownsRow 0 3 1 kv l.length (l.map (Value.int .i64))) (hl : l.length ≤ 500) :
    Calls Try.prog 70 #[kv, .int .i64 x] w fun e w' => IdxR l x e ∧ w' = w := by
  obtain ⟨ao, cap, rfl, _, _, hc⟩ := keys_form h
  have HC := Lib.hid hc
  have hl' : (l.length : Int) ≤ 500 := by omega
  have H0 : Hid (x ∉ l.take 0) := by show x ∉ l.take 0; simp
  clear hc h
  go_enter Try.func70, Try.ntmps70
  go_wp2_with fail
  go_loopw [8] (fun i wr => ∃ k : Nat, k ≤ l.length ∧ i = .int .i64 k ∧ Hid (x ∉ l.take k) ∧ wr = w) (fun i _ => l.length - (intOf i).toNat)
  case atStart => exact ⟨0, Nat.zero_le _, rfl, H0, rfl⟩
  case round =>
    obtain ⟨k, hk, rfl, HD, rfl⟩ := hrel
    by_cases hlt : k < l.length
    · have hg : l[k]? = some l[k] := List.getElem?_eq_getElem hlt
      obtain ⟨g, rfl, c0⟩ := HC.out k _ hg
      have HG := Lib.hid hg
      have HS : Hid (x ≠ l[k] → x ∉ l.take (k + 1)) := by
        show _
        intro hne hm
        rw [List.take_add_one, hg] at hm
        rcases List.mem_append.1 hm with hm | hm
        · exact HD.out hm
        · simp at hm; exact hne hm
      have hlt' : (k : Int) < l.length := by omega
      clear hg HD HC
      generalize l[k] = y at *
      by_cases hxy : x = y
      · subst hxy
        go_wp2
        go_ret
        exact ⟨.inr ⟨k, HG.out, rfl⟩, rfl⟩
      · have hb : (x == y) = false := by simpa using hxy
        have HS2 := Lib.hid (HS.out hxy)
        go_wp2_with fail
        go_roundw
        case rel => exact ⟨k + 1, by omega, by go_num, HS2, trivial⟩
        case measure => simp [intOf]; omega
    · obtain rfl : k = l.length := by omega
      have HN : Hid (x ∉ l) := by have := HD.out; rwa [List.take_length] at this
      clear HD
      go_wp2
      go_ret
      exact ⟨.inl ⟨HN.out, rfl⟩, rfl⟩
section
variable {F : Nat → Prop} {b : Nat} {S : Tb} {m0 m1 : Nat} {kv : Value}
def WhR (S : Tb) (x : Int) (e : Ending) : Prop := (S.has x = false ∧ e = .returned (.tuple #[.int .i64 0, .int .i64 3])) ∨ ∃ k : Nat, S.has x = true ∧ S.ks[k]? = some x ∧ e = .returned (.tuple #[.int .i64 (k : Int), .int .i64 0])
theorem has_false {S : Tb} (h : Ok S) {x : Int} (hx : WF x) (hn : x ∉ S.ks) : S.has x = false := by
  cases hh : S.has x with
  | false => rfl
  | true => exact absurd ((h.mem x hx).1 hh) hn
set_option maxRecDepth 100000 in
theorem t42 (w : World) (hO : Ok S) (h : Wit F w b S m0 m1 kv) {x : Int} (hx : WF x) : Calls Try.prog 42 #[.pointer (some ⟨b, 0, none⟩), .int .i64 x] w fun e w' => WhR S x e ∧ w' = w := by
  have q0 := h.blk.cell 0 rfl
  have q1 := h.blk.cell 1 rfl
  have C55 := Lib.hid (t55 b m0 w q0)
  have C70 := Lib.hid (t70 S.ks x kv w h.keys hO.len)
  have HO := Lib.hid hO
  have HX := Lib.hid hx
  clear h hO hx
  go_enter Try.func42, Try.ntmps42
  go_wp2_with (go_at_call 55; refine C55.out.mono ?_; rintro e w' ⟨rfl, rfl⟩)
  refine C70.out.mono ?_
  rintro e w' ⟨h | ⟨k, h1, rfl⟩, rfl⟩
  · obtain ⟨h1, rfl⟩ := h
    have H1 := Lib.hid h1
    clear h1
    go_wp2
    go_ret2
    exact ⟨.inl ⟨has_false HO.out HX.out H1.out, rfl⟩, rfl⟩
  · have H1 := Lib.hid h1
    have hk : ¬ ((k : Int) < 0) := by omega
    clear h1
    go_wp2
    go_ret2
    exact ⟨.inr ⟨k, (HO.out.mem x HX.out).2 (List.mem_of_getElem? H1.out), H1.out, rfl⟩, rfl⟩
end
end Go.Proofs.Ytagejkolgicecaa
