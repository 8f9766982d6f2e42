/- Zones, the reference: IsZone, offset. -/
import Derived.Test.YtojkkgmfccchbaaN
import Derived.Test.YtojkkgmfccchbaaRE
namespace Go.Proofs.Ytojkkgmfccchbaa
open Go Go.RowKit Go.Sort

theorem ordB_step {lo a o : Int} {r : List Ch} (h1 : ¬ ((lo ≤ a ∧ a ≤ 100000000000) ∧ (-86400 ≤ o ∧ o ≤ 86400))) : ordB lo ((a, o) :: r) = false := by
  cases h : ordB lo ((a, o) :: r)
  · rfl
  · obtain ⟨g1, g2, _⟩ := ordB_cons.1 h
    exact absurd ⟨g1, g2⟩ h1
theorem ordB_go {lo a o : Int} {r : List Ch} (h1 : (lo ≤ a ∧ a ≤ 100000000000) ∧ (-86400 ≤ o ∧ o ≤ 86400)) : ordB lo ((a, o) :: r) = ordB (a + 1) r := by
  show ((inB a lo 100000000000 && isOf o) && ordB (a + 1) r) = _
  unfold isOf
  rw [inB_t h1.1.1 h1.1.2, inB_t h1.2.1 h1.2.2]; rfl
set_option maxRecDepth 100000 in
set_option maxHeartbeats 4000000 in
theorem t53 (off : Int) (v : Value) (l : List Ch) (w : World) (hz : ZR w v l) : Calls Try.prog 53 #[ZV off v] w fun e w' => e = .returned (.bool (zOk off l)) ∧ Below w.heap.size w w' := by
  have e : zOk off l = ((isOf off && decide (l.length ≤ 40)) && ordB (-100000000000) l) := rfl
  rw [e]
  clear e
  have c84 := t35 off (-86400) 86400
  have e2 : isOf off = inB off (-86400) 86400 := rfl
  rw [e2]
  clear e2
  obtain ⟨a, cap, rfl, hlen, hz⟩ := hz
  have HZ := Lib.hid hz
  clear hz
  generalize inB off (-86400) 86400 = b at *
  have C84 := Lib.hid c84
  clear c84
  cases b
  · go_enter Try.func53, Try.ntmps53
    go_wp2_with (go_at_call 35; (with_reducible refine (C84.out _).mono ?_); rintro e w' ⟨rfl, rfl⟩)
    go_ret
    exact ⟨rfl, bSelf _ _⟩
  · by_cases h40 : l.length ≤ 40
    · have d40 : decide (l.length ≤ 40) = true := decide_eq_true h40
      rw [d40]
      clear d40
      have h40' : (l.length : Int) ≤ 40 := by omega
      obtain ⟨R, hR⟩ : ∃ R, R = ordB (-100000000000) l := ⟨_, rfl⟩
      rw [← hR]
      have HR0 : Hid (R = ordB (-100000000000) (l.drop 0)) := by rw [List.drop_zero]; exact hR
      clear hR
      go_enter Try.func53, Try.ntmps53
      go_wp2_with (go_at_call 35; (with_reducible refine (C84.out _).mono ?_); rintro e w' ⟨rfl, rfl⟩)
      have hb0 := bSelf w (.cells #[.int .i64 off, .slice a l.length cap] 58)
      have K0 := Lib.hid (Blk.new w #[.int .i64 off, .slice a l.length cap] 58)
      generalize w.alloc (.cells #[.int .i64 off, .slice a l.length cap] 58) = w1 at *
      go_loopw [3] (fun i wr => ∃ (k : Nat) (lo : Int), k ≤ l.length ∧ i = .int .i64 k ∧ -100000000000 ≤ lo ∧ Hid ((k = 0 → lo = -100000000000) ∧ ∀ j, k = j + 1 → ∃ c, l[j]? = some c ∧ lo = c.1 + 1) ∧ Hid (R = ordB lo (l.drop k)) ∧ Hid (Blk wr w.heap.size 58 [.int .i64 off, .slice a l.length cap]) ∧ Below w.heap.size w wr) (fun i _ => l.length - (intOf i).toNat)
      case atStart => exact ⟨0, _, Nat.zero_le _, rfl, by omega, Lib.hid ⟨fun _ => rfl, fun j hj => by omega⟩, HR0, K0, hb0⟩
      case round =>
        obtain ⟨k, lo, hk, rfl, l1, HL, HR, K, hb⟩ := hrel
        have q1 := K.out.cell 1 rfl
        have ql := K.out.lt
        by_cases hlt : k < l.length
        · have hg : l[k]? = some l[k] := List.getElem?_eq_getElem hlt
          obtain ⟨g, o, rfl, hgl, c1, c2⟩ := HZ.out k _ hg
          have c1' : wr.cell? ⟨g, o + k * 2, none⟩ = some (.int .i64 l[k].1) := (hb.cell (p := ⟨g, o + k * 2, none⟩) hgl).trans c1
          have c2' : wr.cell? ⟨g, o + k * 2 + 1, none⟩ = some (.int .i64 l[k].2) := (hb.cell (p := ⟨g, o + k * 2 + 1, none⟩) hgl).trans c2
          have HS : Hid (R = ordB lo ((l[k].1, l[k].2) :: l.drop (k + 1))) := by
            show _ = _
            rw [HR.out, List.drop_eq_getElem_cons hlt]
          have hlt' : (k : Int) < l.length := by omega
          have HG := Lib.hid hg
          have C1 := Lib.hid (t35 l[k].1 (-100000000000) 100000000000)
          have C2 := Lib.hid (t35 l[k].2 (-86400) 86400)
          clear c1 c2 hg HR
          have HXA : Hid (∃ x, l[k]? = some x ∧ x.1 = l[k].1) := ⟨_, HG.out, rfl⟩
          clear HG
          generalize l[k].1 = xa at *
          generalize l[k].2 = xo at *
          have hgw : g < wr.heap.size := Nat.lt_of_lt_of_le hgl hb.size
          obtain ⟨xc, hx1, hx2⟩ := HXA.out
          have HXB : Hid (l[k]? = some xc ∧ xa + 1 = xc.1 + 1) := ⟨hx1, by rw [hx2]⟩
          clear hx1 hx2
          by_cases b1 : inB xa (-100000000000) 100000000000 = true
          · have i1 := inB_iff.1 b1
            have cc1 := C1.out
            rw [b1] at cc1
            have CC1 := Lib.hid cc1
            clear cc1 C1 b1
            by_cases b2 : inB xo (-86400) 86400 = true
            · have i2 := inB_iff.1 b2
              have cc2 := C2.out
              rw [b2] at cc2
              have CC2 := Lib.hid cc2
              clear cc2 C2 b2
              cases k with
              | zero =>
                have hlo : lo = -100000000000 := HL.out.1 rfl
                have HT : Hid (R = ordB (xa + 1) (l.drop (0 + 1))) := by show _ = _; rw [HS.out, ordB_go ⟨⟨by omega, i1.2⟩, i2⟩]
                clear hlo
                simp only [Nat.zero_mul, Nat.add_zero] at c1' c2'
                go_wp2_with fail
                go_quiet (first | ((go_at_call 35; (with_reducible exact quiet_left (CC1.out _))))| ((go_at_call 35; (with_reducible exact quiet_left (CC2.out _)))))
                go_wp2_with fail
                go_roundw
                case rel => exact ⟨0 + 1, xa + 1, by omega, by go_num, by omega, Lib.hid ⟨fun h => by omega, fun i hi => (by obtain rfl : i = 0 := (by omega); exact ⟨_, HXB.out.1, HXB.out.2⟩)⟩, HT, Lib.hid (K.out.alloc (.cells #[.int .i64 xa, .int .i64 xo] 83)), below_drewN (bAl hb _) _⟩
                case measure => simp [intOf] <;> omega
              | succ j =>
                obtain ⟨c, hc1, hc2⟩ := HL.out.2 j rfl
                obtain ⟨g', o', hgo, _, p1, _⟩ := HZ.out j c hc1
                obtain ⟨rfl, rfl⟩ : g = g' ∧ o = o' := by simpa using hgo
                have p1' : wr.cell? ⟨g, o + j * 2, none⟩ = some (.int .i64 c.1) := (hb.cell (p := ⟨g, o + j * 2, none⟩) hgl).trans p1
                have v1 : IntKind.i64.wrap (j : Int) = j := IntWalk.i64_in _ (by omega)
                have v2 : IntKind.i64.wrap ((j : Int) + 1 - 1) = j := by rw [show (j : Int) + 1 - 1 = j by omega]; exact v1
                have hj0 : (0 : Int) ≤ j := by omega
                have hj1 : (j : Int) < l.length := by omega
                have hj2 : j < l.length := by omega
                clear p1 hgo hc1
                by_cases hle : xa ≤ c.1
                · have HF : Hid (R = false) := by show _ = _; rw [HS.out, ordB_step (by omega)]
                  clear hc2
                  generalize c.1 = pv at *
                  go_wp2_with fail
                  go_quiet (first | ((go_at_call 35; (with_reducible exact quiet_left (CC1.out _))))| ((go_at_call 35; (with_reducible exact quiet_left (CC2.out _)))))
                  go_wp2
                  go_ret
                  exact ⟨by rw [HF.out]; rfl, below_drewN (bAl hb _) _⟩
                · have HT : Hid (R = ordB (xa + 1) (l.drop (j + 1 + 1))) := by show _ = _; rw [HS.out, ordB_go ⟨⟨by omega, i1.2⟩, i2⟩]
                  clear hc2
                  generalize c.1 = pv at *
                  go_wp2_with fail
                  go_quiet (first | ((go_at_call 35; (with_reducible exact quiet_left (CC1.out _))))| ((go_at_call 35; (with_reducible exact quiet_left (CC2.out _)))))
                  clear v1 v2
                  go_wp2_with fail
                  go_roundw
                  case rel => exact ⟨j + 1 + 1, xa + 1, by omega, by go_num, by omega, Lib.hid ⟨fun h => by omega, fun i hi => (by obtain rfl : i = j + 1 := (by omega); exact ⟨_, HXB.out.1, HXB.out.2⟩)⟩, HT, Lib.hid (K.out.alloc (.cells #[.int .i64 xa, .int .i64 xo] 83)), below_drewN (bAl hb _) _⟩
                  case measure => simp [intOf] <;> omega
            · have cc2 := C2.out
              rw [eq_false_of_ne_true b2] at cc2
              have CC2 := Lib.hid cc2
              have HF : Hid (R = false) := by show _ = _; rw [HS.out, ordB_step (fun h => b2 (inB_t h.2.1 h.2.2))]
              clear cc2 C2 b2
              go_wp2_with fail
              go_quiet (first | ((go_at_call 35; (with_reducible exact quiet_left (CC1.out _))))| ((go_at_call 35; (with_reducible exact quiet_left (CC2.out _)))))
              go_wp2
              go_ret
              exact ⟨by rw [HF.out]; rfl, below_drewN (bAl hb _) _⟩
          · have cc1 := C1.out
            rw [eq_false_of_ne_true b1] at cc1
            have CC1 := Lib.hid cc1
            have HF : Hid (R = false) := by show _ = _; rw [HS.out, ordB_step (fun h => b1 (inB_t (by omega) h.1.2))]
            clear cc1 C1 b1
            go_wp2_with fail
            go_quiet (first | ((go_at_call 35; (with_reducible exact quiet_left (CC1.out _)))))
            go_wp2
            go_ret
            exact ⟨by rw [HF.out]; rfl, below_drewN (bAl hb _) _⟩
        · have he : l.drop k = [] := List.drop_eq_nil_of_le (by omega)
          have HE : Hid (R = true) := by show _ = _; rw [HR.out, he]; rfl
          go_wp2
          go_ret
          exact ⟨by rw [HE.out]; rfl, hb⟩
    · have d40 : decide (l.length ≤ 40) = false := decide_eq_false h40
      rw [d40]
      clear d40
      have h40' : 40 < (l.length : Int) := by omega
      go_enter Try.func53, Try.ntmps53
      go_wp2_with (go_at_call 35; (with_reducible refine (C84.out _).mono ?_); rintro e w' ⟨rfl, rfl⟩)
      go_ret
      exact ⟨rfl, bSelf _ _⟩
end Go.Proofs.Ytojkkgmfccchbaa
