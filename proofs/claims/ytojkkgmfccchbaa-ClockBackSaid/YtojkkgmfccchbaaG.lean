/- Zones: rows of changes and periods, isOffset, has, shows, skips, isZone. -/
import Derived.Test.YtojkkgmfccchbaaE
import Derived.Test.YtojkkgmfccchbaaMz
namespace Go.Proofs.Ytojkkgmfccchbaa
open Go Go.RowKit Go.Sort

/-- a slice of changes that reads as a list -/
def ZR (w : World) (v : Value) (l : List Ch) : Prop := ∃ (a : Option Addr) (cap : Nat), v = .slice a l.length cap ∧ l.length ≤ 9223372036854775807 ∧
  ∀ k x, l[k]? = some x → ∃ g o, a = some ⟨g, o, none⟩ ∧ g < w.heap.size ∧ w.cell? ⟨g, o + k * 2, none⟩ = some (.int .i64 x.1) ∧ w.cell? ⟨g, o + k * 2 + 1, none⟩ = some (.int .i64 x.2)
theorem ZR.below {w w' : World} {v : Value} {l : List Ch} (h : ZR w v l) (hb : Below w.heap.size w w') : ZR w' v l := by
  obtain ⟨a, cap, h1, h2, h3⟩ := h
  refine ⟨a, cap, h1, h2, fun k x hx => ?_⟩
  obtain ⟨g, o, e, hg, c1, c2⟩ := h3 k x hx
  exact ⟨g, o, e, Nat.lt_of_lt_of_le hg hb.size, (hb.cell (p := ⟨g, o + k * 2, none⟩) hg).trans c1, (hb.cell (p := ⟨g, o + k * 2 + 1, none⟩) hg).trans c2⟩
theorem ZR.nil (w : World) : ZR w (.slice none 0 0) [] := ⟨none, 0, rfl, Nat.zero_le _, fun k x hx => by simp at hx⟩
abbrev PV (p : Per) : Value := .agg #[.int .i64 p.first, .int .i64 p.last, .int .i64 p.before, .int .i64 p.off]
/-- a period of a zone -/
def POk (p : Per) : Prop := (-100000000001 ≤ p.first ∧ p.first ≤ 100000000001) ∧ (-100000000001 ≤ p.last ∧ p.last ≤ 100000000001) ∧ (-86400 ≤ p.before ∧ p.before ≤ 86400) ∧ (-86400 ≤ p.off ∧ p.off ≤ 86400)
theorem t84 (n : Int) (w : World) : Calls Try.prog 84 #[.int .i64 n] w fun e w' => e = .returned (.bool (isOf n)) ∧ w = w' := by
  unfold isOf
  go_enter Try.func84, Try.ntmps84
  go_wp2_with (go_at_call 66; refine (t66 _ _ _ _).mono ?_; rintro e w' ⟨rfl, rfl⟩)
  go_ret
  exact ⟨rfl, rfl⟩
theorem t82 (p : Per) (m : Int) (w : World) : Calls Try.prog 82 #[PV p, .int .i64 m] w fun e w' => e = .returned (.bool (p.has m)) ∧ Below w.heap.size w w' := by
  unfold Per.has
  obtain ⟨f, l, b, o⟩ := p
  go_enter Try.func82, Try.ntmps82
  go_wp2_with (go_at_call 66; refine (t66 _ _ _ _).mono ?_; rintro e w' ⟨rfl, rfl⟩)
  go_ret
  exact ⟨rfl, bSelf _ _⟩
theorem t61 (p : Per) (s : Int) (w : World) (hp : POk p) (h1 : -200000000000 ≤ s) (h2 : s ≤ 200000000000) : Calls Try.prog 61 #[PV p, .int .i64 s] w fun e w' => e = .returned (.bool (p.shows s)) ∧ Below w.heap.size w w' := by
  have C82 := Lib.hid (t82 p (s - p.off))
  have e : p.shows s = p.has (s - p.off) := rfl
  rw [e]
  clear e
  obtain ⟨_, _, _, p4⟩ := hp
  generalize p.has (s - p.off) = b at *
  obtain ⟨f, l, bb, o⟩ := p
  dsimp only at *
  go_enter Try.func61, Try.ntmps61
  go_wp2_with fail
  refine (C82.out _).mono ?_
  rintro e w1 ⟨rfl, hb1⟩
  have hB1 := (bSelf w _).trans (hb1.mono (by simp))
  go_wp2
  go_ret
  exact ⟨rfl, hB1⟩
theorem t65 (p : Per) (s : Int) (w : World) (hp : POk p) : Calls Try.prog 65 #[PV p, .int .i64 s] w fun e w' => e = .returned (.bool (p.skips s)) ∧ Below w.heap.size w w' := by
  obtain ⟨p1, p2, p3, p4⟩ := hp
  have e : p.skips s = (decide (p.first + p.before ≤ s) && decide (s < p.first + p.off)) := rfl
  rw [e]
  clear e
  obtain ⟨f, l, b, o⟩ := p
  dsimp only at *
  by_cases h1 : f + b ≤ s
  · have d1 : decide (f + b ≤ s) = true := decide_eq_true h1
    rw [d1]
    go_enter Try.func65, Try.ntmps65
    go_wp2
    go_ret
    exact ⟨by simp, bSelf _ _⟩
  · have d1 : decide (f + b ≤ s) = false := decide_eq_false h1
    rw [d1]
    go_enter Try.func65, Try.ntmps65
    go_wp2
    go_ret
    exact ⟨rfl, bSelf _ _⟩
/-- the zone by value -/
abbrev ZV (off : Int) (v : Value) : Value := .agg #[.int .i64 off, v]
set_option maxHeartbeats 2000000 in
theorem t59 (off : Int) (v : Value) (l : List Ch) (w : World) (hz : ZR w v l) : Calls Try.prog 59 #[ZV off v] w fun e w' => e = .returned (.bool (zOk off l)) ∧ Below w.heap.size w w' := by
  have C84 := Lib.hid (t84 off)
  have e : zOk off l = ((isOf off && decide (l.length ≤ 40)) && ordB (-100000000000) l) := rfl
  rw [e]
  clear e
  obtain ⟨a, cap, rfl, hlen, hz⟩ := hz
  have HZ := Lib.hid hz
  clear hz
  generalize isOf off = b at *
  cases b
  · go_enter Try.func59, Try.ntmps59
    go_wp2_with (go_at_call 84; (with_reducible refine (C84.out _).mono ?_); rintro e w' ⟨rfl, rfl⟩)
    go_ret
    exact ⟨rfl, bSelf _ _⟩
  · by_cases h40 : l.length ≤ 40
    · have d40 : decide (l.length ≤ 40) = true := decide_eq_true h40
      rw [d40]
      clear d40
      have h40' : (l.length : Int) ≤ 40 := by omega
      obtain ⟨R, hR⟩ : ∃ R, R = ordB (-100000000000) l := ⟨_, rfl⟩
      rw [← hR]
      have HR0 : Hid (R = ordB (-100000000000) (l.drop 0)) := by rw [List.drop_zero]; exact hR
      clear hR
      go_enter Try.func59, Try.ntmps59
      go_wp2_with (go_at_call 84; (with_reducible refine (C84.out _).mono ?_); rintro e w' ⟨rfl, rfl⟩)
      go_loopw [3, 19] (fun t i wr => ∃ (k : Nat) (lo : Int), k ≤ l.length ∧ i = .int .i64 k ∧ t = .int .i64 lo ∧ -100000000001 ≤ lo ∧ lo ≤ 100000000001 ∧ Hid (R = ordB lo (l.drop k)) ∧ Below w.heap.size w wr) (fun _ i _ => l.length - (intOf i).toNat)
      case atStart => exact ⟨0, _, Nat.zero_le _, rfl, rfl, by omega, by omega, HR0, bSelf _ _⟩
      case round =>
        obtain ⟨k, lo, hk, rfl, rfl, l1, l2, HR, hb⟩ := hrel
        by_cases hlt : k < l.length
        · have hg : l[k]? = some l[k] := List.getElem?_eq_getElem hlt
          obtain ⟨g, o, rfl, hgl, q1, q2⟩ := HZ.out k _ hg
          have hb2 := hb
          have q1' : wr.cell? ⟨g, o + k * 2, none⟩ = some (.int .i64 l[k].1) := (hb.cell (p := ⟨g, o + k * 2, none⟩) hgl).trans q1
          have q2' : wr.cell? ⟨g, o + k * 2 + 1, none⟩ = some (.int .i64 l[k].2) := (hb.cell (p := ⟨g, o + k * 2 + 1, none⟩) hgl).trans q2
          have HS : Hid (R = ((inB l[k].1 lo 100000000000 && isOf l[k].2) && ordB (l[k].1 + 1) (l.drop (k + 1)))) := by
            show _ = _
            rw [HR.out, List.drop_eq_getElem_cons hlt]
            rfl
          have hlt' : (k : Int) < l.length := by omega
          have C66 := Lib.hid (t66 l[k].1 lo 100000000000)
          have C84' := Lib.hid (t84 l[k].2)
          have hi := @inB_iff l[k].1 lo 100000000000
          have HI := Lib.hid hi
          clear q1 q2 hg hi HR
          generalize l[k].1 = xa at *
          generalize l[k].2 = xo at *
          by_cases hB1 : inB xa lo 100000000000 = true
          · have hxa := HI.out.1 hB1
            have c66 := C66.out
            rw [hB1] at c66
            have HS1 : Hid (R = (isOf xo && ordB (xa + 1) (l.drop (k + 1)))) := by show _ = _; rw [HS.out, hB1, Bool.true_and]
            have CC := Lib.hid c66
            clear c66 C66 hB1 HS HI
            by_cases hB2 : isOf xo = true
            · have c84 := C84'.out
              rw [hB2] at c84
              have HS2 : Hid (R = ordB (xa + 1) (l.drop (k + 1))) := by show _ = _; rw [HS1.out, hB2, Bool.true_and]
              have CD := Lib.hid c84
              clear c84 C84' hB2 HS1
              go_wp2_with (first | (go_at_call 66; (with_reducible refine (CC.out _).mono ?_); rintro e w' ⟨rfl, rfl⟩) | (go_at_call 84; (with_reducible refine (CD.out _).mono ?_); rintro e w' ⟨rfl, rfl⟩))
              go_roundw
              case rel => exact ⟨k + 1, xa + 1, by omega, by go_num, rfl, by omega, by omega, HS2, bAl hb _⟩
              case measure => simp [intOf] <;> omega
            · have c84 := C84'.out
              rw [eq_false_of_ne_true hB2] at c84
              have HS2 : Hid (R = false) := by show _ = _; rw [HS1.out, eq_false_of_ne_true hB2, Bool.false_and]
              have CD := Lib.hid c84
              clear c84 C84' hB2 HS1
              go_wp2_with (first | (go_at_call 66; (with_reducible refine (CC.out _).mono ?_); rintro e w' ⟨rfl, rfl⟩) | (go_at_call 84; (with_reducible refine (CD.out _).mono ?_); rintro e w' ⟨rfl, rfl⟩))
              go_ret
              exact ⟨by rw [HS2.out]; rfl, bAl hb _⟩
          · have c66 := C66.out
            rw [eq_false_of_ne_true hB1] at c66
            have HS1 : Hid (R = false) := by show _ = _; rw [HS.out, eq_false_of_ne_true hB1, Bool.false_and, Bool.false_and]
            have CC := Lib.hid c66
            clear c66 C66 hB1 HS HI
            go_wp2_with (go_at_call 66; (with_reducible refine (CC.out _).mono ?_); rintro e w' ⟨rfl, rfl⟩)
            go_ret
            exact ⟨by rw [HS1.out]; rfl, bAl hb _⟩
        · have he : l.drop k = [] := List.drop_eq_nil_of_le (by omega)
          have HE : Hid (R = true) := by show _ = _; rw [HR.out, he]; rfl
          go_wp2
          go_ret
          exact ⟨by rw [HE.out]; rfl, hb⟩
    · have d40 : decide (l.length ≤ 40) = false := decide_eq_false h40
      rw [d40]
      clear d40
      have h40' : 40 < (l.length : Int) := by omega
      go_enter Try.func59, Try.ntmps59
      go_wp2_with (go_at_call 84; (with_reducible refine (C84.out _).mono ?_); rintro e w' ⟨rfl, rfl⟩)
      go_ret
      exact ⟨rfl, bSelf _ _⟩
end Go.Proofs.Ytojkkgmfccchbaa
