/- Contracts of decimal and Decimal. -/
import Derived.Lib.Repeat
import Derived.Deep.DeepCutAuto
import Derived.BigQuiet
import Derived.Test.YtifhiefdhhmdeaaGreatDoorZK
namespace Go.Proofs.YtifhiefdhhmdeaaGreatDoor
open Go Go.RowKit

theorem bThen {w X Y : World} (h : Below w.heap.size w X) (k : Below X.heap.size X Y) : Below w.heap.size w Y := h.trans (k.mono h.size)
theorem bAl {w X : World} (h : Below w.heap.size w X) (o : Obj) : Below w.heap.size w (X.alloc o) := h.alloc h.size o
theorem bSelf (X : World) (o : Obj) : Below X.heap.size X (X.alloc o) := (Below.refl _ _).alloc (Nat.le_refl _) o

theorem nt_two (X : World) : Nt (X.alloc (.cells #[.int .u32 2] 143)) (.slice (some ⟨X.heap.size, 0, none⟩) 1 1) 2 := nt_one X (n := 2) (by omega) (by omega)
/-- rounded to so many places: a natural -/
def rndN (n m p : Nat) : Nat := (n * 10 ^ p * 2 + m) / (m * 2)
def padL (p : Nat) (l : List UInt8) : List UInt8 := List.replicate (p + 1 - l.length) 48 ++ l
def pointL (p : Nat) (l : List UInt8) : List UInt8 := if 0 < p then l.take (l.length - p) ++ (46 :: l.drop (l.length - p)) else l
/-- a rational with so many places, written -/
def decL (t : Int) (m p : Nat) : List UInt8 := (if t < 0 ∧ 0 < rndN t.natAbs m p then [45] else []) ++ pointL p (padL p (txt 10 (rndN t.natAbs m p)))
theorem repeat_zero (n : Nat) : Lib.repeatL [48] n = List.replicate n 48 := by
  induction n with
  | zero => rfl
  | succ n ih => rw [Lib.repeatL, ih]; rfl
theorem bytes_app (l m : List UInt8) : ((⟨l.toArray⟩ : ByteArray) ++ ⟨m.toArray⟩) = ⟨(l ++ m).toArray⟩ := by
  apply ByteArray.ext
  simp
theorem bytes_size (l : List UInt8) : (⟨l.toArray⟩ : ByteArray).size = l.length := by simp [ByteArray.size]
theorem rep1 (x : Int) (k : Nat) (w : World) (hx : x = k) (hk : k ≤ 1000) :
    Calls Tryz.prog 147 #[.string ⟨#[48]⟩, .int .i64 x] w (TxtR (List.replicate k 48) w) := by
  subst hx
  have h := Tryz.strings_Repeat ⟨#[48]⟩ k w (by omega) (by rw [show (⟨#[48]⟩ : ByteArray).size = 1 from rfl]; omega)
  rw [show ((⟨#[48]⟩ : ByteArray).data.toList) = [48] from rfl, repeat_zero] at h
  exact h
theorem padL_none (p : Nat) (l : List UInt8) (h : p + 1 ≤ l.length) : padL p l = l := by unfold padL; rw [show p + 1 - l.length = 0 by omega]; rfl
theorem padL_length (p : Nat) (l : List UInt8) : p + 1 ≤ (padL p l).length := by unfold padL; simp; omega
theorem padL_le (p : Nat) (l : List UInt8) : (padL p l).length ≤ p + 1 + l.length := by unfold padL; simp
theorem ext_mid (l : List UInt8) (k : Nat) (_h : k ≤ l.length) : ((⟨l.toArray⟩ : ByteArray).extract 0 k ++ ⟨#[46]⟩ ++ (⟨l.toArray⟩ : ByteArray).extract k l.length) = ⟨(l.take k ++ (46 :: l.drop k)).toArray⟩ := by
  apply ByteArray.ext
  simp [List.extract_eq_take_drop]
  try rw [List.take_of_length_le (by simp)]

set_option maxRecDepth 100000 in
set_option maxHeartbeats 4000000 in
theorem t114 (t : Int) (b c : Bool) (va vb : Value) (m p : Nat) (w : World) (hb : b = decide (t < 0)) (hA : Nt w va t.natAbs) (hB : Nt w vb m) (hm : 0 < m) (hl : Lw t.natAbs ≤ 1000) (hl' : Lw m ≤ 1000) (hp : p ≤ 100) :
    Calls Tryz.prog 114 #[.agg #[.bool b, va, .bool c, vb], .int .i64 p] w (TxtR (decL t m p) w) := by
  obtain ⟨pa, ca, rfl, -, -, -⟩ := hA.cells
  obtain ⟨pb, cb, rfl, -, -, -⟩ := hB.cells
  have hb0 : Below w.heap.size w (w.alloc (.cells #[.bool b, .slice pa (Lw t.natAbs) ca, .bool c, .slice pb (Lw m) cb] 98)) := (Below.refl _ _).alloc (Nat.le_refl _) _
  have hk := Blk.new w #[.bool b, .slice pa (Lw t.natAbs) ca, .bool c, .slice pb (Lw m) cb] 98
  have HA0 := Lib.hid (hA.below hb0)
  have HBB0 := Lib.hid (hB.below hb0)
  have HK0 := Lib.hid hk
  have HB0 := Lib.hid hb0
  have HBT := Lib.hid hb
  clear hA hB hb0 hk hb
  have hpi : (0 : Int) ≤ p := by omega
  have hpj : (p : Int) ≤ 100 := by omega
  go_enter Tryz.func114, Tryz.ntmps114
  go_wp2_with fail
  generalize (w.alloc (.cells #[.bool b, .slice pa (Lw t.natAbs) ca, .bool c, .slice pb (Lw m) cb] 98)) = W at *
  have q0 := (Below.refl W.heap.size W).drew
  have h1 := HK0.out.cell 1 rfl
  go_cut [5] (fun d wx => ∃ v, d = v ∧ Hid (Nt wx v (t.natAbs * 10 ^ p * 2)) ∧ Hid (Below W.heap.size W wx))
  case first =>
    go_region_held3 (fun w' => w'.cell? ⟨w.heap.size, 1, none⟩ = some (.slice pa (Lw t.natAbs) ca))
      (first
        | with_reducible exact below_cell q0 h1
        | with_reducible exact below_cell (bAl q0 _) h1
        | exact below_cell (bSelf W _).drew h1
        | with_reducible exact below_cell q1 h1
        | with_reducible exact below_cell (bAl q1 _) h1
        | with_reducible exact below_cell q2 h1
        | with_reducible exact below_cell (bAl q2 _) h1
        | with_reducible exact below_cell q3 h1
        | fail "nokeep")
      (first
        | (go_at_call 146; (with_reducible refine (t146 p _ (by omega)).mono ?_); rintro e a1 ⟨v1, rfl, hv1, hb1⟩; have q1 : Below W.heap.size W a1 := (by first | with_reducible exact bThen q0 hb1 | exact bThen (bSelf W _).drew hb1))
        | (go_at_call 140; (with_reducible refine (t140 (.slice pa (Lw t.natAbs) ca) v1 t.natAbs (10 ^ p) _ (HA0.out.below (by first | with_reducible exact q1 | with_reducible exact bAl q1 _)) (by first | with_reducible exact hv1 | with_reducible exact hv1.below (bSelf _ _)) (by omega) (Nat.le_trans (Lw_ten p) (by omega))).mono ?_); rintro e a2 ⟨v2, rfl, hv2, hb2, -⟩; have q2 : Below W.heap.size W a2 := (by first | with_reducible exact bThen q1 hb2 | with_reducible exact bThen (bAl q1 _) hb2))
        | (go_at_call 140; (with_reducible refine (t140 v2 _ (t.natAbs * 10 ^ p) 2 _ (by first | with_reducible exact hv2 | with_reducible exact hv2.below (bSelf _ _)) (by first | exact nt_two _ | exact (nt_two _).below hb2 | exact (((nt_two W).below (Below.refl _ _).drew).below hb1).below hb2 | exact ((nt_two _).below hb1).below hb2) (Nat.le_trans (Lw_mul _ _) (by have := Lw_ten p; omega)) (Nat.le_trans (Lw_small (by omega)) (by omega))).mono ?_); rintro e a3 ⟨v3, rfl, hv3, hb3, -⟩; have q3 : Below W.heap.size W a3 := (by first | with_reducible exact bThen q2 hb3 | with_reducible exact bThen (bAl q2 _) hb3))
        | fail "noarm")
    all_goals (go_wp2_with fail; go_meet; exact ⟨_, rfl, hv3, q3⟩)
  case rest =>
    obtain ⟨v5, rfl, HV5, HW5⟩ := hcut
    obtain ⟨p5, c5, rfl, -, -, -⟩ := HV5.out.cells
    have hl5 : Lw (t.natAbs * 10 ^ p * 2) ≤ 1200 := Nat.le_trans (Lw_mul _ _) (by have := Lw_mul t.natAbs (10 ^ p); have := Lw_ten p; have := Lw_small (show 2 < 4294967296 by omega); omega)
    have hl6 : Lw (t.natAbs * 10 ^ p * 2 + m) ≤ 1300 := Nat.le_trans (Lw_add _ _) (by omega)
    have HB5 := Lib.hid (HBB0.out.below HW5.out)
    have h3 := (HK0.out.below HW5.out HK0.out.lt).cell 3 rfl
    have h2 := (HK0.out.below HW5.out HK0.out.lt).cell 0 rfl
    have HWb := Lib.hid (HB0.out.trans (HW5.out.mono HB0.out.size))
    have HK5 := Lib.hid (HK0.out.below HW5.out HK0.out.lt)
    clear q0 h1 HA0 HBB0 HK0 HB0 HW5
    generalize hdd : t.natAbs * 10 ^ p * 2 = D at *
    clear hl
    have q0 := (Below.refl wc.heap.size wc).drew
    go_upto_region 2 with fail
    go_cut [6] (fun d wx => ∃ v, d = v ∧ Hid (Nt wx v ((D + m) / (m * 2))) ∧ Hid (Below wc.heap.size wc wx))
    case first =>
      go_region_held3 (fun w' => w'.cell? ⟨w.heap.size, 3, none⟩ = some (.slice pb (Lw m) cb))
        (first
          | with_reducible exact below_cell q0 h3
          | with_reducible exact below_cell (bAl q0 _) h3
          | exact below_cell (bSelf wc _).drew h3
          | with_reducible exact below_cell q1 h3
          | with_reducible exact below_cell (bAl q1 _) h3
          | with_reducible exact below_cell q2 h3
          | with_reducible exact below_cell q3 h3
          | fail "nokeep")
        (first
          | (go_at_call 137; (with_reducible refine (t137 (.slice p5 (Lw D) c5) (.slice pb (Lw m) cb) D m _ (HV5.out.below (by first | with_reducible exact q0 | exact (bSelf wc _).drew)) (HB5.out.below (by first | with_reducible exact q0 | exact (bSelf wc _).drew)) (by omega) (by omega)).mono ?_); rintro e a1 ⟨v1, rfl, hv1, hb1, -⟩; have q1 : Below wc.heap.size wc a1 := (by first | with_reducible exact bThen q0 hb1 | exact bThen (bSelf wc _).drew hb1))
          | (go_at_call 140; (with_reducible refine (t140 (.slice pb (Lw m) cb) _ m 2 _ (HB5.out.below (by first | with_reducible exact q1 | with_reducible exact bAl q1 _)) (by first | exact nt_two _ | exact (((nt_two wc).below (Below.refl _ _).drew).below hb1)) (by omega) (Nat.le_trans (Lw_small (by omega)) (by omega))).mono ?_); rintro e a2 ⟨v2, rfl, hv2, hb2, -⟩; have q2 : Below wc.heap.size wc a2 := (by first | with_reducible exact bThen q1 hb2 | with_reducible exact bThen (bAl q1 _) hb2))
          | (go_at_call 141; (with_reducible refine (t141 v1 v2 (D + m) (m * 2) _ (by first | with_reducible exact hv1.below hb2 | with_reducible exact (hv1.below (bSelf _ _)).below hb2) hv2 (by omega) (Nat.le_trans (Lw_mul _ _) (by have := Lw_small (show 2 < 4294967296 by omega); omega)) (by omega)).mono ?_); rintro e a3 ⟨v3, u3, rfl, hv3, -, hb3⟩; have q3 : Below wc.heap.size wc a3 := bThen q2 hb3)
          | fail "noarm")
      all_goals (go_wp2_with fail; go_meet; exact ⟨_, rfl, hv3, q3⟩)
    case rest =>
      obtain ⟨v6, rfl, HV6, HW6⟩ := hcut
      obtain ⟨p6, c6, rfl, -, -, -⟩ := HV6.out.cells
      obtain ⟨R, hR⟩ : ∃ R, R = (D + m) / (m * 2) := ⟨_, rfl⟩
      rw [← hR] at HV6 ⊢
      have hlR : Lw R ≤ 1300 := by rw [hR]; exact Nat.le_trans (Lw_mono (Nat.div_le_self _ _)) hl6
      have HRR : Hid (rndN t.natAbs m p = R) := by show _ = _; unfold rndN; rw [hdd, hR]
      have HW6b := Lib.hid (HWb.out.trans (HW6.out.mono HWb.out.size))
      have HK6 := Lib.hid (HK5.out.below HW6.out HK5.out.lt)
      have HC := Lib.hid (t127 _ R 10 wc HV6.out (by omega) (by omega) (by omega))
      have hlt := Nat.le_trans (txt_len 10 R (by omega)) (show 32 * Lw R + 1 ≤ 50000 by omega)
      obtain ⟨T, hT⟩ : ∃ T, T = txt 10 R := ⟨_, rfl⟩
      rw [← hT] at HC hlt
      have HTT := Lib.hid hT
      clear hR hT hdd hl5 hl6 hl' HV5 HB5 HWb HK5 h2 h3 q0 HW6
      go_wp2_with fail
      refine HC.out.mono ?_
      rintro e w1 ⟨rfl, hb1⟩
      by_cases hge : p + 1 ≤ T.length
      · have hgi : (p : Int) + 1 ≤ T.length := by omega
        have HX0 : Hid (padL p T = T) := padL_none p T hge
        clear hge
        go_upto_region 7 with fail
        obtain ⟨X, hX⟩ : ∃ X, X = T := ⟨_, rfl⟩
        have HX : Hid (padL p T = X) := by show _ = _; rw [HX0.out, hX]
        rw [← hX]
        clear hX HX0 hgi
        have hX1 : p + 1 ≤ X.length := by rw [← HX.out]; exact padL_length p T
        have hX2 : X.length ≤ 60000 := by rw [← HX.out]; exact Nat.le_trans (padL_le p T) (by omega)
        have r0 := (HK6.out.below hb1 HK6.out.lt).cell 0 rfl
        have HBw := Lib.hid (HW6b.out.trans (hb1.mono HW6b.out.size))
        have HD : Hid (decL t m p = (if t < 0 ∧ 0 < R then [45] else []) ++ pointL p X) := by show _ = _; unfold decL; rw [HRR.out, ← HTT.out, HX.out]
        clear hlt HK6 hb1 HW6b HC
        by_cases hp0 : p = 0
        · have HP : Hid (pointL p X = X) := by show _ = _; unfold pointL; rw [if_neg (by omega)]
          have hpz : ¬ (0 : Int) < p := by omega
          clear hp0
          cases b with
          | false =>
            have HS : Hid (decL t m p = pointL p X) := by show _ = _; rw [HD.out, if_neg (fun h => by have := HBT.out; simp at this; omega)]; rfl
            go_wp2_with fail
            go_ret
            refine ⟨?_, HBw.out⟩
            rw [HS.out, HP.out]
            rfl

          | true =>
            by_cases hR0 : R = 0
            · have HS : Hid (decL t m p = pointL p X) := by show _ = _; rw [HD.out, if_neg (fun h => by omega)]; rfl
              rw [show Lw R = 0 from by rw [hR0]; rfl]
              clear hR0
              go_wp2_with fail
              go_ret
              refine ⟨?_, HBw.out⟩
              rw [HS.out, HP.out]
              rfl

            · have hRi : (0 : Int) < Lw R := by have := Lw_pos (show 0 < R by omega); omega
              have HS : Hid (decL t m p = 45 :: pointL p X) := by show _ = _; rw [HD.out, if_pos ⟨by have := HBT.out; simpa using this, by omega⟩]; rfl
              clear hR0
              go_wp2_with fail
              go_ret
              refine ⟨?_, HBw.out⟩
              rw [HS.out, HP.out, cons_bytes]
              rfl

        · have HP : Hid (pointL p X = X.take (X.length - p) ++ (46 :: X.drop (X.length - p))) := by show _ = _; unfold pointL; rw [if_pos (by omega)]
          have hpz : (0 : Int) < p := by omega
          have hs1 : (0 : Int) ≤ X.length - p := by omega
          have hs2 : (X.length : Int) - p ≤ X.length := by omega
          clear hp0
          cases b with
          | false =>
            have HS : Hid (decL t m p = pointL p X) := by show _ = _; rw [HD.out, if_neg (fun h => by have := HBT.out; simp at this; omega)]; rfl
            go_wp2_with fail
            go_quiet (fail)
            go_wp2_with fail
            go_ret
            refine ⟨?_, below_drewN HBw.out _⟩
            rw [HS.out, HP.out, ext_mid _ _ (Nat.sub_le _ _)]
            rfl

          | true =>
            by_cases hR0 : R = 0
            · have HS : Hid (decL t m p = pointL p X) := by show _ = _; rw [HD.out, if_neg (fun h => by omega)]; rfl
              rw [show Lw R = 0 from by rw [hR0]; rfl]
              clear hR0
              go_wp2_with fail
              go_quiet (fail)
              go_wp2_with fail
              go_ret
              refine ⟨?_, below_drewN HBw.out _⟩
              rw [HS.out, HP.out, ext_mid _ _ (Nat.sub_le _ _)]
              rfl

            · have hRi : (0 : Int) < Lw R := by have := Lw_pos (show 0 < R by omega); omega
              have HS : Hid (decL t m p = 45 :: pointL p X) := by show _ = _; rw [HD.out, if_pos ⟨by have := HBT.out; simpa using this, by omega⟩]; rfl
              clear hR0
              go_wp2_with fail
              go_quiet (fail)
              go_wp2_with fail
              go_ret
              refine ⟨?_, below_drewN HBw.out _⟩
              rw [HS.out, HP.out, ext_mid _ _ (Nat.sub_le _ _), cons_bytes]
              rfl

      · have hgi : (T.length : Int) < (p : Int) + 1 := by omega
        have hx0 : padL p T = List.replicate (p + 1 - T.length) 48 ++ T := rfl
        have c7 := rep1 ((p : Int) + 1 - (T.length : Int)) (p + 1 - T.length) w1 (by omega) (by omega)
        have hzl : (List.replicate (p + 1 - T.length) (48 : UInt8)).length ≤ 101 := by rw [List.length_replicate]; omega
        generalize List.replicate (p + 1 - T.length) (48 : UInt8) = Z at hx0 c7 hzl
        have HX0 := Lib.hid hx0
        have C7 := Lib.hid c7
        clear hx0 c7
        clear hge
        go_wp2_with fail
        refine C7.out.mono ?_
        rintro e w2 ⟨rfl, hb2⟩
        have HBB := Lib.hid (bThen hb1 hb2)
        clear C7 hb1 hb2
        go_upto_region 7 with fail
        rw [bytes_app]
        obtain ⟨X, hX⟩ : ∃ X, X = Z ++ T := ⟨_, rfl⟩
        have HX : Hid (padL p T = X) := by show _ = _; rw [HX0.out, hX]
        rw [← hX]
        have hb1 := HBB.out
        clear hX HX0 hgi HBB
        have hX1 : p + 1 ≤ X.length := by rw [← HX.out]; exact padL_length p T
        have hX2 : X.length ≤ 60000 := by rw [← HX.out]; exact Nat.le_trans (padL_le p T) (by omega)
        have r0 := (HK6.out.below hb1 HK6.out.lt).cell 0 rfl
        have HBw := Lib.hid (HW6b.out.trans (hb1.mono HW6b.out.size))
        have HD : Hid (decL t m p = (if t < 0 ∧ 0 < R then [45] else []) ++ pointL p X) := by show _ = _; unfold decL; rw [HRR.out, ← HTT.out, HX.out]
        clear hlt HK6 hb1 HW6b HC
        by_cases hp0 : p = 0
        · have HP : Hid (pointL p X = X) := by show _ = _; unfold pointL; rw [if_neg (by omega)]
          have hpz : ¬ (0 : Int) < p := by omega
          clear hp0
          cases b with
          | false =>
            have HS : Hid (decL t m p = pointL p X) := by show _ = _; rw [HD.out, if_neg (fun h => by have := HBT.out; simp at this; omega)]; rfl
            go_wp2_with fail
            go_ret
            refine ⟨?_, HBw.out⟩
            rw [HS.out, HP.out]
            rfl

          | true =>
            by_cases hR0 : R = 0
            · have HS : Hid (decL t m p = pointL p X) := by show _ = _; rw [HD.out, if_neg (fun h => by omega)]; rfl
              rw [show Lw R = 0 from by rw [hR0]; rfl]
              clear hR0
              go_wp2_with fail
              go_ret
              refine ⟨?_, HBw.out⟩
              rw [HS.out, HP.out]
              rfl

            · have hRi : (0 : Int) < Lw R := by have := Lw_pos (show 0 < R by omega); omega
              have HS : Hid (decL t m p = 45 :: pointL p X) := by show _ = _; rw [HD.out, if_pos ⟨by have := HBT.out; simpa using this, by omega⟩]; rfl
              clear hR0
              go_wp2_with fail
              go_ret
              refine ⟨?_, HBw.out⟩
              rw [HS.out, HP.out, cons_bytes]
              rfl

        · have HP : Hid (pointL p X = X.take (X.length - p) ++ (46 :: X.drop (X.length - p))) := by show _ = _; unfold pointL; rw [if_pos (by omega)]
          have hpz : (0 : Int) < p := by omega
          have hs1 : (0 : Int) ≤ X.length - p := by omega
          have hs2 : (X.length : Int) - p ≤ X.length := by omega
          clear hp0
          cases b with
          | false =>
            have HS : Hid (decL t m p = pointL p X) := by show _ = _; rw [HD.out, if_neg (fun h => by have := HBT.out; simp at this; omega)]; rfl
            go_wp2_with fail
            go_quiet (fail)
            go_wp2_with fail
            go_ret
            refine ⟨?_, below_drewN HBw.out _⟩
            rw [HS.out, HP.out, ext_mid _ _ (Nat.sub_le _ _)]
            rfl

          | true =>
            by_cases hR0 : R = 0
            · have HS : Hid (decL t m p = pointL p X) := by show _ = _; rw [HD.out, if_neg (fun h => by omega)]; rfl
              rw [show Lw R = 0 from by rw [hR0]; rfl]
              clear hR0
              go_wp2_with fail
              go_quiet (fail)
              go_wp2_with fail
              go_ret
              refine ⟨?_, below_drewN HBw.out _⟩
              rw [HS.out, HP.out, ext_mid _ _ (Nat.sub_le _ _)]
              rfl

            · have hRi : (0 : Int) < Lw R := by have := Lw_pos (show 0 < R by omega); omega
              have HS : Hid (decL t m p = 45 :: pointL p X) := by show _ = _; rw [HD.out, if_pos ⟨by have := HBT.out; simpa using this, by omega⟩]; rfl
              clear hR0
              go_wp2_with fail
              go_quiet (fail)
              go_wp2_with fail
              go_ret
              refine ⟨?_, below_drewN HBw.out _⟩
              rw [HS.out, HP.out, ext_mid _ _ (Nat.sub_le _ _), cons_bytes]
              rfl

theorem IsRat.sizes {l : List UInt8} {t : Int} {m : Nat} (h : IsRat l t m) : fits t ∧ fits (m : Int) ∧ 0 < m := by
  rcases h with ⟨_, h1, rfl⟩ | ⟨_, h1, h2, h3, _⟩
  · exact ⟨h1.2, by decide, by omega⟩
  · exact ⟨h1.2, h2.2, by omega⟩
/-- what Decimal returns -/
def DecR (l : List UInt8) (p : Int) (w : World) (e : Ending) (w' : World) : Prop :=
  (((∀ t m, ¬ IsRat l t m) ∨ p < 0 ∨ 100 < p) ∧ e = .returned (.tuple #[.string ⟨#[]⟩, .int .i64 1]) ∧ Below w.heap.size w w') ∨
  (∃ t m, IsRat l t m ∧ 0 ≤ p ∧ p ≤ 100 ∧ e = .returned (.tuple #[.string ⟨(decL t m p.toNat).toArray⟩, .int .i64 0]) ∧ Below w.heap.size w w')
set_option maxRecDepth 100000 in
set_option maxHeartbeats 2000000 in
theorem t43 (s : ByteArray) (p m0 : Int) (w : World) (hs : s.size < 4294967281) (hm : w.cell? ⟨0, 0, none⟩ = some (.int .i64 m0)) :
    Calls Tryz.prog 43 #[.string s, .int .i64 p] w (DecR s.data.toList p w) := by
  have C := Lib.hid (t106 s m0 w hs hm)
  clear hm hs
  go_enter Tryz.func43, Tryz.ntmps43
  go_wp2_with fail
  refine C.out.mono ?_
  rintro e w1 (⟨hv, rfl, hb1⟩ | ⟨t, m, v, u, hr, rfl, hn, hu, hb1⟩)
  · have HV := Lib.hid hv
    have HB := Lib.hid hb1
    clear hv hb1
    go_wp2_with fail
    go_ret2
    exact .inl ⟨.inl HV.out, rfl, HB.out.alloc HB.out.size _⟩
  · obtain ⟨p1, c1, rfl, -, -, -⟩ := hn.cells
    obtain ⟨p2, c2, rfl, -, -, -⟩ := hu.cells
    have hz := hr.sizes
    have HR := Lib.hid hr
    obtain ⟨b, hb⟩ : ∃ b : Bool, b = decide (t < 0) := ⟨_, rfl⟩
    rw [← hb]
    have HB1 := Lib.hid (hb1.alloc hb1.size (.cells #[.bool b, .slice p1 (Lw t.natAbs) c1, .bool false, .slice p2 (Lw m) c2] 98))
    by_cases h0 : p < 0
    · clear hr hn hu hb1 hz hb
      go_wp2_with fail
      go_ret2
      exact .inl ⟨.inr (.inl h0), rfl, HB1.out⟩
    · by_cases h1 : 100 < p
      · clear hr hn hu hb1 hz hb
        go_wp2_with fail
        go_ret2
        exact .inl ⟨.inr (.inr h1), rfl, HB1.out⟩
      · obtain ⟨k, rfl⟩ := Int.eq_ofNat_of_zero_le (show 0 ≤ p by omega)
        have hki : (k : Int) ≤ 100 := by omega
        have c := t114 t b false _ _ m k (w1.alloc (.cells #[.bool b, .slice p1 (Lw t.natAbs) c1, .bool false, .slice p2 (Lw m) c2] 98)) hb (hn.below (bSelf _ _)) (hu.below (bSelf _ _)) hz.2.2 (Nat.le_trans (fits_Lw hz.1) (by omega)) (Nat.le_trans (fits_Lw hz.2.1) (by omega)) (by omega)
        have C2 := Lib.hid c
        clear hr hn hu hb1 hz hb c h1
        go_wp2_with fail
        refine C2.out.mono ?_
        rintro e w2 ⟨rfl, hb2⟩
        go_wp2_with fail
        go_ret2
        exact .inr ⟨t, m, HR.out, by omega, by omega, rfl, bThen HB1.out hb2⟩
end Go.Proofs.YtifhiefdhhmdeaaGreatDoor
