/- Contract of the reference's One. -/
import Derived.Test.YtmbnckmhngijdaaGreatDoorOB
namespace Go.Proofs.YtmbnckmhngijdaaGreatDoor.One1
open Go Go.RowKit Go.Shelf

def contR (s : ByteArray) (long : Nat) : Nat → Nat → Nat → Nat × Nat
  | 0, n, bits => (n, bits)
  | f + 1, n, bits => if n < long ∧ n < s.size ∧ 128 ≤ (s.get! n).toNat ∧ (s.get! n).toNat < 192 ∧ beginsN (bits * 64 + (s.get! n).toNat - 128) (n + 1) long = true then contR s long f (n + 1) (bits * 64 + (s.get! n).toNat - 128) else (n, bits)
def endR (long : Nat) (r : Nat × Nat) : Nat × Int := if r.1 < long then (r.1, -1) else (r.1, (r.2 : Int))
/-- The reference's way through one character. -/
def oneRef (s : ByteArray) : Nat × Int :=
  if (s.get! 0).toNat < 128 then (1, ((s.get! 0).toNat : Int))
  else if (s.get! 0).toNat < 192 ∨ 248 ≤ (s.get! 0).toNat then (1, -1)
  else if (s.get! 0).toNat < 224 then (if beginsN ((s.get! 0).toNat - 192) 1 2 = false then (1, -1) else endR 2 (contR s 2 1 1 ((s.get! 0).toNat - 192)))
  else if (s.get! 0).toNat < 240 then (if beginsN ((s.get! 0).toNat - 224) 1 3 = false then (1, -1) else endR 3 (contR s 3 2 1 ((s.get! 0).toNat - 224)))
  else (if beginsN ((s.get! 0).toNat - 240) 1 4 = false then (1, -1) else endR 4 (contR s 4 3 1 ((s.get! 0).toNat - 240)))
theorem bnd_step (k bits x : Nat) (h1 : 1 ≤ k) (h2 : k < 4) (hb : bits < bndN k) (h3 : 128 ≤ x) (h4 : x < 192) : bits * 64 + x - 128 < bndN (k + 1) := by
  unfold bndN at *
  rcases (by omega : k = 1 ∨ k = 2 ∨ k = 3) with rfl | rfl | rfl <;> simp at * <;> omega
theorem bnd_max (k bits : Nat) (hb : bits < bndN k) : bits < 8388608 := by
  unfold bndN at hb
  repeat' split at hb
  all_goals omega
theorem contR_stop (s : ByteArray) (long f n bits : Nat) (h : ¬ (n < long ∧ n < s.size ∧ 128 ≤ (s.get! n).toNat ∧ (s.get! n).toNat < 192 ∧ beginsN (bits * 64 + (s.get! n).toNat - 128) (n + 1) long = true)) : contR s long f n bits = (n, bits) := by
  cases f with
  | zero => rfl
  | succ f => rw [contR, if_neg h]
theorem contR_go (s : ByteArray) (long f n bits : Nat) (h : n < long ∧ n < s.size ∧ 128 ≤ (s.get! n).toNat ∧ (s.get! n).toNat < 192 ∧ beginsN (bits * 64 + (s.get! n).toNat - 128) (n + 1) long = true) : contR s long (f + 1) n bits = contR s long f (n + 1) (bits * 64 + (s.get! n).toNat - 128) := by
  rw [contR, if_pos h]

set_option maxRecDepth 100000 in
set_option maxHeartbeats 2000000 in
theorem c73_2 (s : ByteArray) (w : World) (h0 : 0 < s.size) (_hs : s.size ≤ 9223372036854775807) (hlo : 192 ≤ (s.get! 0).toNat) (hhi : (s.get! 0).toNat < 224) (hbg : beginsN ((s.get! 0).toNat - 192) 1 2 = true) :
    Calls Tryz.prog 49 #[.string s] w fun e w' => e = .returned (.tuple #[.int .i64 (endR 2 (contR s 2 1 1 ((s.get! 0).toNat - 192))).1, .int .i64 (endR 2 (contR s 2 1 1 ((s.get! 0).toNat - 192))).2]) ∧ Below w.heap.size w w' := by
  obtain ⟨x0, hx0⟩ : ∃ x0, s.get! 0 = x0 := ⟨_, rfl⟩
  have hs0 : s[0]'(by omega) = x0 := by rw [← hx0]; exact (Utf8W.get!_of_lt s 0 (by omega)).symm
  rw [hx0] at hlo hhi hbg
  rw [hx0]
  have HX := Lib.hid hx0
  clear hx0
  obtain ⟨R, hR⟩ : ∃ R, contR s 2 1 1 (x0.toNat - 192) = R := ⟨_, rfl⟩
  rw [hR]
  have HR := Lib.hid hR
  clear hR
  have c8 := c88 (x0.toNat - 192) 1 2 (by omega) (by omega) (by omega) (by omega) (by simp [bndN]; omega) w
  rw [hbg] at c8
  have hsub : ((x0.toNat - 192 : Nat) : Int) = (x0.toNat : Int) - 192 := by omega
  rw [hsub] at c8
  have g1 : (192 : Int) ≤ x0.toNat := by omega
  have g2 : (x0.toNat : Int) < 224 := by omega
  have g3 : (128 : Int) ≤ x0.toNat := by omega
  have d1 : decide ((x0.toNat : Int) < 128) = false := by simp; omega
  have d2 : decide ((192 : Int) ≤ x0.toNat) = true := by simp; omega
  have e1 : decide ((x0.toNat : Int) < 224) = true := by simp; omega
  have e1' : (x0.toNat : Int) < 224 := by omega
  have e3 : decide ((x0.toNat : Int) < 240) = true := by simp; omega
  have e3' : (x0.toNat : Int) < 240 := by omega
  have e5 : decide ((x0.toNat : Int) < 248) = true := by simp; omega
  have e5' : (x0.toNat : Int) < 248 := by omega
  have e2 : decide ((224 : Int) ≤ x0.toNat) = false := by simp; omega
  have e4 : decide ((240 : Int) ≤ x0.toNat) = false := by simp; omega
  have hw0 := wb x0
  have Hbg := Lib.hid hbg
  clear hbg
  go_enter Tryz.func49, Tryz.ntmps49
  go_wp2_with fail
  refine c8.mono ?_
  rintro e0 w1 ⟨rfl, hb1⟩
  have HSUB := Lib.hid hsub
  clear hsub
  go_wp2
  go_loopw [6, 7] (fun b n wr => ∃ k bits : Nat, 1 ≤ k ∧ k ≤ 2 ∧ bits < bndN k ∧ n = .int .i64 k ∧ b = .int .i64 bits ∧ Go.RowKit.Hid (contR s 2 (2 - k) k bits = R) ∧ Below w.heap.size w wr) (fun _ n _ => 2 - (Go.RowKit.intOf n).toNat)
  case atStart => exact ⟨1, x0.toNat - 192, by omega, by omega, by simp [bndN]; omega, rfl, by rw [HSUB.out], HR, hb1⟩
  case round =>
    obtain ⟨k, bits, hk1, hk2, hbb, rfl, rfl, hRk, hB⟩ := hrel
    have hbm := bnd_max k bits hbb
    by_cases c1 : k < 2
    · have c1' : (k : Int) < 2 := by omega
      by_cases c2 : k < s.size
      · have c2' : (k : Int) < s.size := by omega
        obtain ⟨x, hx⟩ : ∃ x, s.get! k = x := ⟨_, rfl⟩
        have hsk : s[k]'c2 = x := by rw [← hx]; exact (Utf8W.get!_of_lt s k c2).symm
        have hw := wb x
        have lx := x.toNat_lt
        by_cases c3 : 128 ≤ x.toNat
        · have c3' : (128 : Int) ≤ x.toNat := by omega
          by_cases c4 : x.toNat < 192
          · have c4' : (x.toNat : Int) < 192 := by omega
            have hst := bnd_step k bits x.toNat hk1 (by omega) hbb c3 c4
            have c9 := c88 (bits * 64 + x.toNat - 128) (k + 1) 2 (by omega) (by omega) (by omega) (by omega) hst wr
            have hsub2 : ((bits * 64 + x.toNat - 128 : Nat) : Int) = (bits : Int) * 64 + (x.toNat : Int) - 128 := by omega
            rw [hsub2] at c9
            have HS2 := Lib.hid hsub2
            clear hsub2
            cases c5 : beginsN (bits * 64 + x.toNat - 128) (k + 1) 2 with
            | true =>
              rw [c5] at c9
              have hRn : Go.RowKit.Hid (contR s 2 (2 - (k + 1)) (k + 1) (bits * 64 + x.toNat - 128) = R) := by
                have h1 := hRk.out
                rw [show 2 - k = (2 - (k + 1)) + 1 by omega, contR_go s 2 _ k bits ⟨c1, c2, by rw [hx]; exact c3, by rw [hx]; exact c4, by rw [hx]; exact c5⟩, hx] at h1
                exact h1
              have HX' := Lib.hid hx
              clear c5 hx
              have d1' : decide ((k : Int) < 2) = true := by simp; omega
              have d2' : decide ((k : Int) < s.size) = true := by simp; omega
              have d3' : decide ((128 : Int) ≤ x.toNat) = true := by simp; omega
              have d4' : decide ((x.toNat : Int) < 192) = true := by simp; omega
              go_wp2_with fail
              refine c9.mono ?_
              rintro e1 w2 ⟨rfl, hb2⟩
              go_wp2
              go_roundw
              case rel => exact ⟨k + 1, bits * 64 + x.toNat - 128, by omega, by omega, hst, by go_num, by rw [HS2.out], hRn, hB.trans (hb2.mono hB.size)⟩
              case measure => simp [Go.RowKit.intOf]; omega
            | false =>
              rw [c5] at c9
              have hRn : Go.RowKit.Hid (R = (k, bits)) := by
                have h1 := hRk.out
                rw [contR_stop s 2 _ k bits (by rw [hx]; intro h; rw [c5] at h; cases h.2.2.2.2)] at h1
                exact h1.symm
              have HX' := Lib.hid hx
              clear c5 hx
              have d1' : decide ((k : Int) < 2) = true := by simp; omega
              have d2' : decide ((k : Int) < s.size) = true := by simp; omega
              have d3' : decide ((128 : Int) ≤ x.toNat) = true := by simp; omega
              have d4' : decide ((x.toNat : Int) < 192) = true := by simp; omega
              go_wp2_with fail
              refine c9.mono ?_
              rintro e1 w2 ⟨rfl, hb2⟩
              go_wp2
              go_ret2
              exact ⟨by rw [hRn.out]; simp [endR, c1], hB.trans (hb2.mono hB.size)⟩
          · have c4' : (192 : Int) ≤ x.toNat := by omega
            have hRn : Go.RowKit.Hid (R = (k, bits)) := by
              have h1 := hRk.out
              rw [contR_stop s 2 _ k bits (by rw [hx]; omega)] at h1
              exact h1.symm
            have HX' := Lib.hid hx
            clear hx
            have d1' : decide ((k : Int) < 2) = true := by simp; omega
            have d2' : decide ((k : Int) < s.size) = true := by simp; omega
            have d3' : decide ((128 : Int) ≤ x.toNat) = true := by simp; omega
            have d4' : decide ((x.toNat : Int) < 192) = false := by simp; omega
            go_wp2
            go_ret2
            exact ⟨by rw [hRn.out]; simp [endR, c1], hB⟩
        · have c3' : (x.toNat : Int) < 128 := by omega
          have hRn : Go.RowKit.Hid (R = (k, bits)) := by
            have h1 := hRk.out
            rw [contR_stop s 2 _ k bits (by rw [hx]; omega)] at h1
            exact h1.symm
          have HX' := Lib.hid hx
          clear hx
          have d1' : decide ((k : Int) < 2) = true := by simp; omega
          have d2' : decide ((k : Int) < s.size) = true := by simp; omega
          have d3' : decide ((128 : Int) ≤ x.toNat) = false := by simp; omega
          go_wp2
          go_ret2
          exact ⟨by rw [hRn.out]; simp [endR, c1], hB⟩
      · have c2' : (s.size : Int) ≤ k := by omega
        have hRn : Go.RowKit.Hid (R = (k, bits)) := by
          have h1 := hRk.out
          rw [contR_stop s 2 _ k bits (by omega)] at h1
          exact h1.symm
        have d1' : decide ((k : Int) < 2) = true := by simp; omega
        have d2' : decide ((k : Int) < s.size) = false := by simp; omega
        go_wp2
        go_ret2
        exact ⟨by rw [hRn.out]; simp [endR, c1], hB⟩
    · have c1' : (2 : Int) ≤ k := by omega
      have hRn : Go.RowKit.Hid (R = (k, bits)) := by
        have h1 := hRk.out
        rw [contR_stop s 2 _ k bits (by omega)] at h1
        exact h1.symm
      have d1' : decide ((k : Int) < 2) = false := by simp; omega
      go_wp2
      go_ret2
      exact ⟨by rw [hRn.out]; simp [endR, c1], hB⟩

set_option maxRecDepth 100000 in
set_option maxHeartbeats 2000000 in
theorem c73_3 (s : ByteArray) (w : World) (h0 : 0 < s.size) (_hs : s.size ≤ 9223372036854775807) (hlo : 224 ≤ (s.get! 0).toNat) (hhi : (s.get! 0).toNat < 240) (hbg : beginsN ((s.get! 0).toNat - 224) 1 3 = true) :
    Calls Tryz.prog 49 #[.string s] w fun e w' => e = .returned (.tuple #[.int .i64 (endR 3 (contR s 3 2 1 ((s.get! 0).toNat - 224))).1, .int .i64 (endR 3 (contR s 3 2 1 ((s.get! 0).toNat - 224))).2]) ∧ Below w.heap.size w w' := by
  obtain ⟨x0, hx0⟩ : ∃ x0, s.get! 0 = x0 := ⟨_, rfl⟩
  have hs0 : s[0]'(by omega) = x0 := by rw [← hx0]; exact (Utf8W.get!_of_lt s 0 (by omega)).symm
  rw [hx0] at hlo hhi hbg
  rw [hx0]
  have HX := Lib.hid hx0
  clear hx0
  obtain ⟨R, hR⟩ : ∃ R, contR s 3 2 1 (x0.toNat - 224) = R := ⟨_, rfl⟩
  rw [hR]
  have HR := Lib.hid hR
  clear hR
  have c8 := c88 (x0.toNat - 224) 1 3 (by omega) (by omega) (by omega) (by omega) (by simp [bndN]; omega) w
  rw [hbg] at c8
  have hsub : ((x0.toNat - 224 : Nat) : Int) = (x0.toNat : Int) - 224 := by omega
  rw [hsub] at c8
  have g1 : (224 : Int) ≤ x0.toNat := by omega
  have g2 : (x0.toNat : Int) < 240 := by omega
  have g3 : (128 : Int) ≤ x0.toNat := by omega
  have d1 : decide ((x0.toNat : Int) < 128) = false := by simp; omega
  have d2 : decide ((192 : Int) ≤ x0.toNat) = true := by simp; omega
  have e1 : decide ((x0.toNat : Int) < 224) = false := by simp; omega
  have e1' : (224 : Int) ≤ x0.toNat := by omega
  have e3 : decide ((x0.toNat : Int) < 240) = true := by simp; omega
  have e3' : (x0.toNat : Int) < 240 := by omega
  have e5 : decide ((x0.toNat : Int) < 248) = true := by simp; omega
  have e5' : (x0.toNat : Int) < 248 := by omega
  have e2 : decide ((224 : Int) ≤ x0.toNat) = true := by simp; omega
  have e4 : decide ((240 : Int) ≤ x0.toNat) = false := by simp; omega
  have hw0 := wb x0
  have Hbg := Lib.hid hbg
  clear hbg
  go_enter Tryz.func49, Tryz.ntmps49
  go_wp2_with fail
  refine c8.mono ?_
  rintro e0 w1 ⟨rfl, hb1⟩
  have HSUB := Lib.hid hsub
  clear hsub
  go_wp2
  go_loopw [6, 7] (fun b n wr => ∃ k bits : Nat, 1 ≤ k ∧ k ≤ 3 ∧ bits < bndN k ∧ n = .int .i64 k ∧ b = .int .i64 bits ∧ Go.RowKit.Hid (contR s 3 (3 - k) k bits = R) ∧ Below w.heap.size w wr) (fun _ n _ => 3 - (Go.RowKit.intOf n).toNat)
  case atStart => exact ⟨1, x0.toNat - 224, by omega, by omega, by simp [bndN]; omega, rfl, by rw [HSUB.out], HR, hb1⟩
  case round =>
    obtain ⟨k, bits, hk1, hk2, hbb, rfl, rfl, hRk, hB⟩ := hrel
    have hbm := bnd_max k bits hbb
    by_cases c1 : k < 3
    · have c1' : (k : Int) < 3 := by omega
      by_cases c2 : k < s.size
      · have c2' : (k : Int) < s.size := by omega
        obtain ⟨x, hx⟩ : ∃ x, s.get! k = x := ⟨_, rfl⟩
        have hsk : s[k]'c2 = x := by rw [← hx]; exact (Utf8W.get!_of_lt s k c2).symm
        have hw := wb x
        have lx := x.toNat_lt
        by_cases c3 : 128 ≤ x.toNat
        · have c3' : (128 : Int) ≤ x.toNat := by omega
          by_cases c4 : x.toNat < 192
          · have c4' : (x.toNat : Int) < 192 := by omega
            have hst := bnd_step k bits x.toNat hk1 (by omega) hbb c3 c4
            have c9 := c88 (bits * 64 + x.toNat - 128) (k + 1) 3 (by omega) (by omega) (by omega) (by omega) hst wr
            have hsub2 : ((bits * 64 + x.toNat - 128 : Nat) : Int) = (bits : Int) * 64 + (x.toNat : Int) - 128 := by omega
            rw [hsub2] at c9
            have HS2 := Lib.hid hsub2
            clear hsub2
            cases c5 : beginsN (bits * 64 + x.toNat - 128) (k + 1) 3 with
            | true =>
              rw [c5] at c9
              have hRn : Go.RowKit.Hid (contR s 3 (3 - (k + 1)) (k + 1) (bits * 64 + x.toNat - 128) = R) := by
                have h1 := hRk.out
                rw [show 3 - k = (3 - (k + 1)) + 1 by omega, contR_go s 3 _ k bits ⟨c1, c2, by rw [hx]; exact c3, by rw [hx]; exact c4, by rw [hx]; exact c5⟩, hx] at h1
                exact h1
              have HX' := Lib.hid hx
              clear c5 hx
              have d1' : decide ((k : Int) < 3) = true := by simp; omega
              have d2' : decide ((k : Int) < s.size) = true := by simp; omega
              have d3' : decide ((128 : Int) ≤ x.toNat) = true := by simp; omega
              have d4' : decide ((x.toNat : Int) < 192) = true := by simp; omega
              go_wp2_with fail
              refine c9.mono ?_
              rintro e1 w2 ⟨rfl, hb2⟩
              go_wp2
              go_roundw
              case rel => exact ⟨k + 1, bits * 64 + x.toNat - 128, by omega, by omega, hst, by go_num, by rw [HS2.out], hRn, hB.trans (hb2.mono hB.size)⟩
              case measure => simp [Go.RowKit.intOf]; omega
            | false =>
              rw [c5] at c9
              have hRn : Go.RowKit.Hid (R = (k, bits)) := by
                have h1 := hRk.out
                rw [contR_stop s 3 _ k bits (by rw [hx]; intro h; rw [c5] at h; cases h.2.2.2.2)] at h1
                exact h1.symm
              have HX' := Lib.hid hx
              clear c5 hx
              have d1' : decide ((k : Int) < 3) = true := by simp; omega
              have d2' : decide ((k : Int) < s.size) = true := by simp; omega
              have d3' : decide ((128 : Int) ≤ x.toNat) = true := by simp; omega
              have d4' : decide ((x.toNat : Int) < 192) = true := by simp; omega
              go_wp2_with fail
              refine c9.mono ?_
              rintro e1 w2 ⟨rfl, hb2⟩
              go_wp2
              go_ret2
              exact ⟨by rw [hRn.out]; simp [endR, c1], hB.trans (hb2.mono hB.size)⟩
          · have c4' : (192 : Int) ≤ x.toNat := by omega
            have hRn : Go.RowKit.Hid (R = (k, bits)) := by
              have h1 := hRk.out
              rw [contR_stop s 3 _ k bits (by rw [hx]; omega)] at h1
              exact h1.symm
            have HX' := Lib.hid hx
            clear hx
            have d1' : decide ((k : Int) < 3) = true := by simp; omega
            have d2' : decide ((k : Int) < s.size) = true := by simp; omega
            have d3' : decide ((128 : Int) ≤ x.toNat) = true := by simp; omega
            have d4' : decide ((x.toNat : Int) < 192) = false := by simp; omega
            go_wp2
            go_ret2
            exact ⟨by rw [hRn.out]; simp [endR, c1], hB⟩
        · have c3' : (x.toNat : Int) < 128 := by omega
          have hRn : Go.RowKit.Hid (R = (k, bits)) := by
            have h1 := hRk.out
            rw [contR_stop s 3 _ k bits (by rw [hx]; omega)] at h1
            exact h1.symm
          have HX' := Lib.hid hx
          clear hx
          have d1' : decide ((k : Int) < 3) = true := by simp; omega
          have d2' : decide ((k : Int) < s.size) = true := by simp; omega
          have d3' : decide ((128 : Int) ≤ x.toNat) = false := by simp; omega
          go_wp2
          go_ret2
          exact ⟨by rw [hRn.out]; simp [endR, c1], hB⟩
      · have c2' : (s.size : Int) ≤ k := by omega
        have hRn : Go.RowKit.Hid (R = (k, bits)) := by
          have h1 := hRk.out
          rw [contR_stop s 3 _ k bits (by omega)] at h1
          exact h1.symm
        have d1' : decide ((k : Int) < 3) = true := by simp; omega
        have d2' : decide ((k : Int) < s.size) = false := by simp; omega
        go_wp2
        go_ret2
        exact ⟨by rw [hRn.out]; simp [endR, c1], hB⟩
    · have c1' : (3 : Int) ≤ k := by omega
      have hRn : Go.RowKit.Hid (R = (k, bits)) := by
        have h1 := hRk.out
        rw [contR_stop s 3 _ k bits (by omega)] at h1
        exact h1.symm
      have d1' : decide ((k : Int) < 3) = false := by simp; omega
      go_wp2
      go_ret2
      exact ⟨by rw [hRn.out]; simp [endR, c1], hB⟩

set_option maxRecDepth 100000 in
set_option maxHeartbeats 2000000 in
theorem c73_4 (s : ByteArray) (w : World) (h0 : 0 < s.size) (_hs : s.size ≤ 9223372036854775807) (hlo : 240 ≤ (s.get! 0).toNat) (hhi : (s.get! 0).toNat < 248) (hbg : beginsN ((s.get! 0).toNat - 240) 1 4 = true) :
    Calls Tryz.prog 49 #[.string s] w fun e w' => e = .returned (.tuple #[.int .i64 (endR 4 (contR s 4 3 1 ((s.get! 0).toNat - 240))).1, .int .i64 (endR 4 (contR s 4 3 1 ((s.get! 0).toNat - 240))).2]) ∧ Below w.heap.size w w' := by
  obtain ⟨x0, hx0⟩ : ∃ x0, s.get! 0 = x0 := ⟨_, rfl⟩
  have hs0 : s[0]'(by omega) = x0 := by rw [← hx0]; exact (Utf8W.get!_of_lt s 0 (by omega)).symm
  rw [hx0] at hlo hhi hbg
  rw [hx0]
  have HX := Lib.hid hx0
  clear hx0
  obtain ⟨R, hR⟩ : ∃ R, contR s 4 3 1 (x0.toNat - 240) = R := ⟨_, rfl⟩
  rw [hR]
  have HR := Lib.hid hR
  clear hR
  have c8 := c88 (x0.toNat - 240) 1 4 (by omega) (by omega) (by omega) (by omega) (by simp [bndN]; omega) w
  rw [hbg] at c8
  have hsub : ((x0.toNat - 240 : Nat) : Int) = (x0.toNat : Int) - 240 := by omega
  rw [hsub] at c8
  have g1 : (240 : Int) ≤ x0.toNat := by omega
  have g2 : (x0.toNat : Int) < 248 := by omega
  have g3 : (128 : Int) ≤ x0.toNat := by omega
  have d1 : decide ((x0.toNat : Int) < 128) = false := by simp; omega
  have d2 : decide ((192 : Int) ≤ x0.toNat) = true := by simp; omega
  have e1 : decide ((x0.toNat : Int) < 224) = false := by simp; omega
  have e1' : (224 : Int) ≤ x0.toNat := by omega
  have e3 : decide ((x0.toNat : Int) < 240) = false := by simp; omega
  have e3' : (240 : Int) ≤ x0.toNat := by omega
  have e5 : decide ((x0.toNat : Int) < 248) = true := by simp; omega
  have e5' : (x0.toNat : Int) < 248 := by omega
  have e2 : decide ((224 : Int) ≤ x0.toNat) = true := by simp; omega
  have e4 : decide ((240 : Int) ≤ x0.toNat) = true := by simp; omega
  have hw0 := wb x0
  have Hbg := Lib.hid hbg
  clear hbg
  go_enter Tryz.func49, Tryz.ntmps49
  go_wp2_with fail
  refine c8.mono ?_
  rintro e0 w1 ⟨rfl, hb1⟩
  have HSUB := Lib.hid hsub
  clear hsub
  go_wp2
  go_loopw [6, 7] (fun b n wr => ∃ k bits : Nat, 1 ≤ k ∧ k ≤ 4 ∧ bits < bndN k ∧ n = .int .i64 k ∧ b = .int .i64 bits ∧ Go.RowKit.Hid (contR s 4 (4 - k) k bits = R) ∧ Below w.heap.size w wr) (fun _ n _ => 4 - (Go.RowKit.intOf n).toNat)
  case atStart => exact ⟨1, x0.toNat - 240, by omega, by omega, by simp [bndN]; omega, rfl, by rw [HSUB.out], HR, hb1⟩
  case round =>
    obtain ⟨k, bits, hk1, hk2, hbb, rfl, rfl, hRk, hB⟩ := hrel
    have hbm := bnd_max k bits hbb
    by_cases c1 : k < 4
    · have c1' : (k : Int) < 4 := by omega
      by_cases c2 : k < s.size
      · have c2' : (k : Int) < s.size := by omega
        obtain ⟨x, hx⟩ : ∃ x, s.get! k = x := ⟨_, rfl⟩
        have hsk : s[k]'c2 = x := by rw [← hx]; exact (Utf8W.get!_of_lt s k c2).symm
        have hw := wb x
        have lx := x.toNat_lt
        by_cases c3 : 128 ≤ x.toNat
        · have c3' : (128 : Int) ≤ x.toNat := by omega
          by_cases c4 : x.toNat < 192
          · have c4' : (x.toNat : Int) < 192 := by omega
            have hst := bnd_step k bits x.toNat hk1 (by omega) hbb c3 c4
            have c9 := c88 (bits * 64 + x.toNat - 128) (k + 1) 4 (by omega) (by omega) (by omega) (by omega) hst wr
            have hsub2 : ((bits * 64 + x.toNat - 128 : Nat) : Int) = (bits : Int) * 64 + (x.toNat : Int) - 128 := by omega
            rw [hsub2] at c9
            have HS2 := Lib.hid hsub2
            clear hsub2
            cases c5 : beginsN (bits * 64 + x.toNat - 128) (k + 1) 4 with
            | true =>
              rw [c5] at c9
              have hRn : Go.RowKit.Hid (contR s 4 (4 - (k + 1)) (k + 1) (bits * 64 + x.toNat - 128) = R) := by
                have h1 := hRk.out
                rw [show 4 - k = (4 - (k + 1)) + 1 by omega, contR_go s 4 _ k bits ⟨c1, c2, by rw [hx]; exact c3, by rw [hx]; exact c4, by rw [hx]; exact c5⟩, hx] at h1
                exact h1
              have HX' := Lib.hid hx
              clear c5 hx
              have d1' : decide ((k : Int) < 4) = true := by simp; omega
              have d2' : decide ((k : Int) < s.size) = true := by simp; omega
              have d3' : decide ((128 : Int) ≤ x.toNat) = true := by simp; omega
              have d4' : decide ((x.toNat : Int) < 192) = true := by simp; omega
              go_wp2_with fail
              refine c9.mono ?_
              rintro e1 w2 ⟨rfl, hb2⟩
              go_wp2
              go_roundw
              case rel => exact ⟨k + 1, bits * 64 + x.toNat - 128, by omega, by omega, hst, by go_num, by rw [HS2.out], hRn, hB.trans (hb2.mono hB.size)⟩
              case measure => simp [Go.RowKit.intOf]; omega
            | false =>
              rw [c5] at c9
              have hRn : Go.RowKit.Hid (R = (k, bits)) := by
                have h1 := hRk.out
                rw [contR_stop s 4 _ k bits (by rw [hx]; intro h; rw [c5] at h; cases h.2.2.2.2)] at h1
                exact h1.symm
              have HX' := Lib.hid hx
              clear c5 hx
              have d1' : decide ((k : Int) < 4) = true := by simp; omega
              have d2' : decide ((k : Int) < s.size) = true := by simp; omega
              have d3' : decide ((128 : Int) ≤ x.toNat) = true := by simp; omega
              have d4' : decide ((x.toNat : Int) < 192) = true := by simp; omega
              go_wp2_with fail
              refine c9.mono ?_
              rintro e1 w2 ⟨rfl, hb2⟩
              go_wp2
              go_ret2
              exact ⟨by rw [hRn.out]; simp [endR, c1], hB.trans (hb2.mono hB.size)⟩
          · have c4' : (192 : Int) ≤ x.toNat := by omega
            have hRn : Go.RowKit.Hid (R = (k, bits)) := by
              have h1 := hRk.out
              rw [contR_stop s 4 _ k bits (by rw [hx]; omega)] at h1
              exact h1.symm
            have HX' := Lib.hid hx
            clear hx
            have d1' : decide ((k : Int) < 4) = true := by simp; omega
            have d2' : decide ((k : Int) < s.size) = true := by simp; omega
            have d3' : decide ((128 : Int) ≤ x.toNat) = true := by simp; omega
            have d4' : decide ((x.toNat : Int) < 192) = false := by simp; omega
            go_wp2
            go_ret2
            exact ⟨by rw [hRn.out]; simp [endR, c1], hB⟩
        · have c3' : (x.toNat : Int) < 128 := by omega
          have hRn : Go.RowKit.Hid (R = (k, bits)) := by
            have h1 := hRk.out
            rw [contR_stop s 4 _ k bits (by rw [hx]; omega)] at h1
            exact h1.symm
          have HX' := Lib.hid hx
          clear hx
          have d1' : decide ((k : Int) < 4) = true := by simp; omega
          have d2' : decide ((k : Int) < s.size) = true := by simp; omega
          have d3' : decide ((128 : Int) ≤ x.toNat) = false := by simp; omega
          go_wp2
          go_ret2
          exact ⟨by rw [hRn.out]; simp [endR, c1], hB⟩
      · have c2' : (s.size : Int) ≤ k := by omega
        have hRn : Go.RowKit.Hid (R = (k, bits)) := by
          have h1 := hRk.out
          rw [contR_stop s 4 _ k bits (by omega)] at h1
          exact h1.symm
        have d1' : decide ((k : Int) < 4) = true := by simp; omega
        have d2' : decide ((k : Int) < s.size) = false := by simp; omega
        go_wp2
        go_ret2
        exact ⟨by rw [hRn.out]; simp [endR, c1], hB⟩
    · have c1' : (4 : Int) ≤ k := by omega
      have hRn : Go.RowKit.Hid (R = (k, bits)) := by
        have h1 := hRk.out
        rw [contR_stop s 4 _ k bits (by omega)] at h1
        exact h1.symm
      have d1' : decide ((k : Int) < 4) = false := by simp; omega
      go_wp2
      go_ret2
      exact ⟨by rw [hRn.out]; simp [endR, c1], hB⟩

set_option maxRecDepth 100000 in
set_option maxHeartbeats 1000000 in
theorem c73_a (s : ByteArray) (w : World) (h0 : 0 < s.size) (_hlo : 0 ≤ (s.get! 0).toNat) (hhi : (s.get! 0).toNat < 128) :
    Calls Tryz.prog 49 #[.string s] w fun e w' => e = .returned (.tuple #[.int .i64 1, .int .i64 (((s.get! 0).toNat : Int))]) ∧ Below w.heap.size w w' := by
  obtain ⟨x0, hx0⟩ : ∃ x0, s.get! 0 = x0 := ⟨_, rfl⟩
  have hs0 : s[0]'(by omega) = x0 := by rw [← hx0]; exact (Utf8W.get!_of_lt s 0 (by omega)).symm
  rw [hx0] at _hlo hhi
  rw [hx0]
  clear hx0
  have lx0 := x0.toNat_lt
  have hw0 := wb x0
  have a0 : decide ((x0.toNat : Int) < 128) = true := by simp; omega
  have a0' : (x0.toNat : Int) < 128 := by omega
  have a1 : decide ((x0.toNat : Int) < 224) = true := by simp; omega
  have a1' : (x0.toNat : Int) < 224 := by omega
  have a2 : decide ((x0.toNat : Int) < 240) = true := by simp; omega
  have a2' : (x0.toNat : Int) < 240 := by omega
  have a3 : decide ((x0.toNat : Int) < 248) = true := by simp; omega
  have a3' : (x0.toNat : Int) < 248 := by omega
  have b0 : decide ((192 : Int) ≤ x0.toNat) = false := by simp; omega
  have b0' : (x0.toNat : Int) < 192 := by omega
  have b1 : decide ((224 : Int) ≤ x0.toNat) = false := by simp; omega
  have b1' : (x0.toNat : Int) < 224 := by omega
  have b2 : decide ((240 : Int) ≤ x0.toNat) = false := by simp; omega
  have b2' : (x0.toNat : Int) < 240 := by omega
  go_enter Tryz.func49, Tryz.ntmps49
  go_wp2
  go_ret2
  exact ⟨rfl, Below.refl _ _⟩

set_option maxRecDepth 100000 in
set_option maxHeartbeats 1000000 in
theorem c73_b (s : ByteArray) (w : World) (h0 : 0 < s.size) (hlo : 128 ≤ (s.get! 0).toNat) (hhi : (s.get! 0).toNat < 192) :
    Calls Tryz.prog 49 #[.string s] w fun e w' => e = .returned (.tuple #[.int .i64 1, .int .i64 (-1)]) ∧ Below w.heap.size w w' := by
  obtain ⟨x0, hx0⟩ : ∃ x0, s.get! 0 = x0 := ⟨_, rfl⟩
  have hs0 : s[0]'(by omega) = x0 := by rw [← hx0]; exact (Utf8W.get!_of_lt s 0 (by omega)).symm
  rw [hx0] at hlo hhi
  skip
  clear hx0
  have lx0 := x0.toNat_lt
  have hw0 := wb x0
  have a0 : decide ((x0.toNat : Int) < 128) = false := by simp; omega
  have a0' : (128 : Int) ≤ x0.toNat := by omega
  have a1 : decide ((x0.toNat : Int) < 224) = true := by simp; omega
  have a1' : (x0.toNat : Int) < 224 := by omega
  have a2 : decide ((x0.toNat : Int) < 240) = true := by simp; omega
  have a2' : (x0.toNat : Int) < 240 := by omega
  have a3 : decide ((x0.toNat : Int) < 248) = true := by simp; omega
  have a3' : (x0.toNat : Int) < 248 := by omega
  have b0 : decide ((192 : Int) ≤ x0.toNat) = false := by simp; omega
  have b0' : (x0.toNat : Int) < 192 := by omega
  have b1 : decide ((224 : Int) ≤ x0.toNat) = false := by simp; omega
  have b1' : (x0.toNat : Int) < 224 := by omega
  have b2 : decide ((240 : Int) ≤ x0.toNat) = false := by simp; omega
  have b2' : (x0.toNat : Int) < 240 := by omega
  go_enter Tryz.func49, Tryz.ntmps49
  go_wp2
  go_ret2
  exact ⟨rfl, Below.refl _ _⟩

set_option maxRecDepth 100000 in
set_option maxHeartbeats 1000000 in
theorem c73_c (s : ByteArray) (w : World) (h0 : 0 < s.size) (hlo : 248 ≤ (s.get! 0).toNat) (hhi : (s.get! 0).toNat < 256) :
    Calls Tryz.prog 49 #[.string s] w fun e w' => e = .returned (.tuple #[.int .i64 1, .int .i64 (-1)]) ∧ Below w.heap.size w w' := by
  obtain ⟨x0, hx0⟩ : ∃ x0, s.get! 0 = x0 := ⟨_, rfl⟩
  have hs0 : s[0]'(by omega) = x0 := by rw [← hx0]; exact (Utf8W.get!_of_lt s 0 (by omega)).symm
  rw [hx0] at hlo hhi
  skip
  clear hx0
  have lx0 := x0.toNat_lt
  have hw0 := wb x0
  have a0 : decide ((x0.toNat : Int) < 128) = false := by simp; omega
  have a0' : (128 : Int) ≤ x0.toNat := by omega
  have a1 : decide ((x0.toNat : Int) < 224) = false := by simp; omega
  have a1' : (224 : Int) ≤ x0.toNat := by omega
  have a2 : decide ((x0.toNat : Int) < 240) = false := by simp; omega
  have a2' : (240 : Int) ≤ x0.toNat := by omega
  have a3 : decide ((x0.toNat : Int) < 248) = false := by simp; omega
  have a3' : (248 : Int) ≤ x0.toNat := by omega
  have b0 : decide ((192 : Int) ≤ x0.toNat) = true := by simp; omega
  have b0' : (192 : Int) ≤ x0.toNat := by omega
  have b1 : decide ((224 : Int) ≤ x0.toNat) = true := by simp; omega
  have b1' : (224 : Int) ≤ x0.toNat := by omega
  have b2 : decide ((240 : Int) ≤ x0.toNat) = true := by simp; omega
  have b2' : (240 : Int) ≤ x0.toNat := by omega
  go_enter Tryz.func49, Tryz.ntmps49
  go_wp2
  go_ret2
  exact ⟨rfl, Below.refl _ _⟩

set_option maxRecDepth 100000 in
set_option maxHeartbeats 1000000 in
theorem c73_2b (s : ByteArray) (w : World) (h0 : 0 < s.size) (hlo : 192 ≤ (s.get! 0).toNat) (hhi : (s.get! 0).toNat < 224) (hbg : beginsN ((s.get! 0).toNat - 192) 1 2 = false) :
    Calls Tryz.prog 49 #[.string s] w fun e w' => e = .returned (.tuple #[.int .i64 1, .int .i64 (-1)]) ∧ Below w.heap.size w w' := by
  obtain ⟨x0, hx0⟩ : ∃ x0, s.get! 0 = x0 := ⟨_, rfl⟩
  have hs0 : s[0]'(by omega) = x0 := by rw [← hx0]; exact (Utf8W.get!_of_lt s 0 (by omega)).symm
  rw [hx0] at hlo hhi hbg
  clear hx0
  have c8 := c88 (x0.toNat - 192) 1 2 (by omega) (by omega) (by omega) (by omega) (by simp [bndN]; omega) w
  rw [hbg] at c8
  have hsub : ((x0.toNat - 192 : Nat) : Int) = (x0.toNat : Int) - 192 := by omega
  rw [hsub] at c8
  clear hsub hbg
  have hw0 := wb x0
  have a0 : decide ((x0.toNat : Int) < 128) = false := by simp; omega
  have a0' : (128 : Int) ≤ x0.toNat := by omega
  have a1 : decide ((x0.toNat : Int) < 224) = true := by simp; omega
  have a1' : (x0.toNat : Int) < 224 := by omega
  have a2 : decide ((x0.toNat : Int) < 240) = true := by simp; omega
  have a2' : (x0.toNat : Int) < 240 := by omega
  have a3 : decide ((x0.toNat : Int) < 248) = true := by simp; omega
  have a3' : (x0.toNat : Int) < 248 := by omega
  have b0 : decide ((192 : Int) ≤ x0.toNat) = true := by simp; omega
  have b0' : (192 : Int) ≤ x0.toNat := by omega
  have b1 : decide ((224 : Int) ≤ x0.toNat) = false := by simp; omega
  have b1' : (x0.toNat : Int) < 224 := by omega
  have b2 : decide ((240 : Int) ≤ x0.toNat) = false := by simp; omega
  have b2' : (x0.toNat : Int) < 240 := by omega
  go_enter Tryz.func49, Tryz.ntmps49
  go_wp2_with (go_at_call 74; refine c8.mono ?_; rintro e0 w1 ⟨rfl, hb1⟩)
  go_ret2
  exact ⟨rfl, hb1⟩

set_option maxRecDepth 100000 in
set_option maxHeartbeats 1000000 in
theorem c73_3b (s : ByteArray) (w : World) (h0 : 0 < s.size) (hlo : 224 ≤ (s.get! 0).toNat) (hhi : (s.get! 0).toNat < 240) (hbg : beginsN ((s.get! 0).toNat - 224) 1 3 = false) :
    Calls Tryz.prog 49 #[.string s] w fun e w' => e = .returned (.tuple #[.int .i64 1, .int .i64 (-1)]) ∧ Below w.heap.size w w' := by
  obtain ⟨x0, hx0⟩ : ∃ x0, s.get! 0 = x0 := ⟨_, rfl⟩
  have hs0 : s[0]'(by omega) = x0 := by rw [← hx0]; exact (Utf8W.get!_of_lt s 0 (by omega)).symm
  rw [hx0] at hlo hhi hbg
  clear hx0
  have c8 := c88 (x0.toNat - 224) 1 3 (by omega) (by omega) (by omega) (by omega) (by simp [bndN]; omega) w
  rw [hbg] at c8
  have hsub : ((x0.toNat - 224 : Nat) : Int) = (x0.toNat : Int) - 224 := by omega
  rw [hsub] at c8
  clear hsub hbg
  have hw0 := wb x0
  have a0 : decide ((x0.toNat : Int) < 128) = false := by simp; omega
  have a0' : (128 : Int) ≤ x0.toNat := by omega
  have a1 : decide ((x0.toNat : Int) < 224) = false := by simp; omega
  have a1' : (224 : Int) ≤ x0.toNat := by omega
  have a2 : decide ((x0.toNat : Int) < 240) = true := by simp; omega
  have a2' : (x0.toNat : Int) < 240 := by omega
  have a3 : decide ((x0.toNat : Int) < 248) = true := by simp; omega
  have a3' : (x0.toNat : Int) < 248 := by omega
  have b0 : decide ((192 : Int) ≤ x0.toNat) = true := by simp; omega
  have b0' : (192 : Int) ≤ x0.toNat := by omega
  have b1 : decide ((224 : Int) ≤ x0.toNat) = true := by simp; omega
  have b1' : (224 : Int) ≤ x0.toNat := by omega
  have b2 : decide ((240 : Int) ≤ x0.toNat) = false := by simp; omega
  have b2' : (x0.toNat : Int) < 240 := by omega
  go_enter Tryz.func49, Tryz.ntmps49
  go_wp2_with (go_at_call 74; refine c8.mono ?_; rintro e0 w1 ⟨rfl, hb1⟩)
  go_ret2
  exact ⟨rfl, hb1⟩

set_option maxRecDepth 100000 in
set_option maxHeartbeats 1000000 in
theorem c73_4b (s : ByteArray) (w : World) (h0 : 0 < s.size) (hlo : 240 ≤ (s.get! 0).toNat) (hhi : (s.get! 0).toNat < 248) (hbg : beginsN ((s.get! 0).toNat - 240) 1 4 = false) :
    Calls Tryz.prog 49 #[.string s] w fun e w' => e = .returned (.tuple #[.int .i64 1, .int .i64 (-1)]) ∧ Below w.heap.size w w' := by
  obtain ⟨x0, hx0⟩ : ∃ x0, s.get! 0 = x0 := ⟨_, rfl⟩
  have hs0 : s[0]'(by omega) = x0 := by rw [← hx0]; exact (Utf8W.get!_of_lt s 0 (by omega)).symm
  rw [hx0] at hlo hhi hbg
  clear hx0
  have c8 := c88 (x0.toNat - 240) 1 4 (by omega) (by omega) (by omega) (by omega) (by simp [bndN]; omega) w
  rw [hbg] at c8
  have hsub : ((x0.toNat - 240 : Nat) : Int) = (x0.toNat : Int) - 240 := by omega
  rw [hsub] at c8
  clear hsub hbg
  have hw0 := wb x0
  have a0 : decide ((x0.toNat : Int) < 128) = false := by simp; omega
  have a0' : (128 : Int) ≤ x0.toNat := by omega
  have a1 : decide ((x0.toNat : Int) < 224) = false := by simp; omega
  have a1' : (224 : Int) ≤ x0.toNat := by omega
  have a2 : decide ((x0.toNat : Int) < 240) = false := by simp; omega
  have a2' : (240 : Int) ≤ x0.toNat := by omega
  have a3 : decide ((x0.toNat : Int) < 248) = true := by simp; omega
  have a3' : (x0.toNat : Int) < 248 := by omega
  have b0 : decide ((192 : Int) ≤ x0.toNat) = true := by simp; omega
  have b0' : (192 : Int) ≤ x0.toNat := by omega
  have b1 : decide ((224 : Int) ≤ x0.toNat) = true := by simp; omega
  have b1' : (224 : Int) ≤ x0.toNat := by omega
  have b2 : decide ((240 : Int) ≤ x0.toNat) = true := by simp; omega
  have b2' : (240 : Int) ≤ x0.toNat := by omega
  go_enter Tryz.func49, Tryz.ntmps49
  go_wp2_with (go_at_call 74; refine c8.mono ?_; rintro e0 w1 ⟨rfl, hb1⟩)
  go_ret2
  exact ⟨rfl, hb1⟩

theorem c73 (s : ByteArray) (w : World) (h0 : 0 < s.size) (hs : s.size ≤ 9223372036854775807) :
    Calls Tryz.prog 49 #[.string s] w fun e w' => e = .returned (.tuple #[.int .i64 (oneRef s).1, .int .i64 (oneRef s).2]) ∧ Below w.heap.size w w' := by
  have l0 := (s.get! 0).toNat_lt
  unfold oneRef
  by_cases h1 : (s.get! 0).toNat < 128
  · rw [if_pos h1]; exact c73_a s w h0 (by omega) h1
  rw [if_neg h1]
  by_cases h2 : (s.get! 0).toNat < 192 ∨ 248 ≤ (s.get! 0).toNat
  · rw [if_pos h2]
    rcases h2 with h2 | h2
    · exact c73_b s w h0 (by omega) h2
    · exact c73_c s w h0 h2 (by omega)
  rw [if_neg h2]
  by_cases h3 : (s.get! 0).toNat < 224
  · rw [if_pos h3]
    cases h4 : beginsN ((s.get! 0).toNat - 192) 1 2 with
    | false => exact c73_2b s w h0 (by omega) h3 h4
    | true => exact c73_2 s w h0 hs (by omega) h3 h4
  rw [if_neg h3]
  by_cases h5 : (s.get! 0).toNat < 240
  · rw [if_pos h5]
    cases h4 : beginsN ((s.get! 0).toNat - 224) 1 3 with
    | false => exact c73_3b s w h0 (by omega) h5 h4
    | true => exact c73_3 s w h0 hs (by omega) h5 h4
  rw [if_neg h5]
  cases h4 : beginsN ((s.get! 0).toNat - 240) 1 4 with
  | false => exact c73_4b s w h0 (by omega) (by omega) h4
  | true => exact c73_4 s w h0 hs (by omega) (by omega) h4
end Go.Proofs.YtmbnckmhngijdaaGreatDoor.One1
