/- The reference's Lossy, and the law TextConverts. -/
import Derived.Test.YtjdnpgknamhnlaaDoorZL
import Derived.Test.YtjdnpgknamhnlaaDoorZC
namespace Go.Proofs.YtjdnpgknamhnlaaDoor
open Go Go.RowKit Go.Shelf

/-- The cells of the characters, the first k texts turned by G. -/
def RowsG (G : ByteArray × Int → ByteArray) (cs : Array Value) (ps : List (ByteArray × Int)) (k : Nat) : Prop :=
  ∀ j (h : j < ps.length), cs[j * 2]? = some (.string (if j < k then G ps[j] else ps[j].1)) ∧ cs[j * 2 + 1]? = some (.int .i64 ps[j].2)
theorem rowsG_set {G : ByteArray × Int → ByteArray} {cs : Array Value} {ps : List (ByteArray × Int)} {k : Nat} (h : RowsG G cs ps k) (hk : k < ps.length) {y : ByteArray} (hy : G ps[k] = y) : RowsG G (cs.setIfInBounds (k * 2) (.string y)) ps (k + 1) := fun j hj => by
  obtain ⟨h1, h2⟩ := h j hj
  have hz : k * 2 < cs.size := by
    have := (h k hk).1
    rcases Nat.lt_or_ge (k * 2) cs.size with h' | h'
    · exact h'
    · rw [Array.getElem?_eq_none h'] at this; cases this
  refine ⟨?_, by rw [Array.getElem?_setIfInBounds, if_neg (by omega)]; exact h2⟩
  rw [Array.getElem?_setIfInBounds]
  by_cases e : j = k
  · subst e
    rw [if_pos rfl, if_pos hz, if_pos (by omega), hy]
  · rw [if_neg (by omega), h1]
    by_cases l : j < k
    · rw [if_pos l, if_pos (by omega)]
    · rw [if_neg l, if_neg (by omega)]
theorem rowsG_keep {G : ByteArray × Int → ByteArray} {cs : Array Value} {ps : List (ByteArray × Int)} {k : Nat} (h : RowsG G cs ps k) (hk : k < ps.length) (hy : G ps[k] = ps[k].1) : RowsG G cs ps (k + 1) := fun j hj => by
  obtain ⟨h1, h2⟩ := h j hj
  refine ⟨?_, h2⟩
  rw [h1]
  by_cases e : j = k
  · subst e
    rw [if_neg (by omega), if_pos (by omega), hy]
  · by_cases l : j < k
    · rw [if_pos l, if_pos (by omega)]
    · rw [if_neg l, if_neg (by omega)]
theorem rowsG_start {w : World} {B g cap : Nat} {cs : Array Value} {ps : List (ByteArray × Int)} (G : ByteArray × Int → ByteArray) (h : w.ownsRow B 72 2 (.slice (some ⟨g, 0, none⟩) ps.length cap) ps.length (cellsP ps)) (hg : w.heap[g]? = some (.cells cs 72 (0, 0))) : RowsG G cs ps 0 := fun j hj => by
  have h1 := h.cellAt (j * 2) (by omega)
  have h2 := h.cellAt (j * 2 + 1) (by omega)
  rw [(cellsP_get ps j hj).1] at h1
  rw [(cellsP_get ps j hj).2] at h2
  simp [World.cell?, hg] at h1 h2
  exact ⟨by rw [h1]; simp, h2⟩
def turnP (G : ByteArray × Int → ByteArray) (ps : List (ByteArray × Int)) : List (ByteArray × Int) := ps.map fun p => (G p, p.2)
theorem turnP_texts (G : ByteArray × Int → ByteArray) (ps : List (ByteArray × Int)) : textsP (turnP G ps) = ps.map G := by simp [textsP, turnP]
theorem turnP_length (G : ByteArray × Int → ByteArray) (ps : List (ByteArray × Int)) : (turnP G ps).length = ps.length := by simp [turnP]
theorem rowsG_end {W : World} {g cap : Nat} {G : ByteArray × Int → ByteArray} {cs : Array Value} {ps : List (ByteArray × Int)} {k : Nat} (h : RowsG G cs ps k) (hk : ps.length ≤ k) (hg : W.heap[g]? = some (.cells cs 72 (0, 0))) : PartsRead W (.slice (some ⟨g, 0, none⟩) ps.length cap) (turnP G ps) :=
  ⟨_, cap, by rw [turnP_length], fun j hj => by
    rw [turnP_length] at hj
    obtain ⟨q1, q2⟩ := h j hj
    rw [if_pos (by omega)] at q1
    exact ⟨g, 0, rfl, (Array.getElem?_eq_some_iff.1 hg).1, by simp [World.cell?, hg, q1, turnP], by simp [World.cell?, hg, q2, turnP]⟩⟩

def lossyG (t : Int) (by' : ByteArray) (p : ByteArray × Int) : ByteArray := (chrOf t p.2).getD by'
theorem lossyG_pcs (t : Int) (by' : ByteArray) (ps : List (ByteArray × Int)) : ps.map (lossyG t by') = pcs t by' ps := rfl

set_option maxRecDepth 100000 in
set_option maxHeartbeats 1000000 in
theorem r34_arg (s by' : ByteArray) (f t : Int) (w : World) (hs : s.size ≤ 100000) (hby : by'.size ≤ 100000) (hbad : isEnc f = false ∨ isEnc t = false) :
    Calls Tryd.prog 34 #[.string s, .int .i64 f, .int .i64 t, .string by'] w fun e' w' => e' = .returned (.tuple #[.string ⟨#[]⟩, .int .i64 1]) ∧ Below w.heap.size w w' := by
  cases hf : isEnc f with
  | false =>
    have hb : Go.RowKit.Hid ((!isEnc f || (decide (100000 < s.size) || decide (100000 < by'.size))) = true) := by show _ = _; rw [hf]; rfl
    clear hf hbad
    go_enter Tryd.func34, Tryd.ntmps34
    go_wp2_with fail
    refine (c49_2 f s by' true hb.out _ _ (by omega) (by omega) (by simp) (by simp) (by simp)).mono ?_
    rintro e' w2 ⟨rfl, rfl⟩
    go_wp2
    go_ret2
    exact ⟨rfl, (Below.refl _ _).alloc (Nat.le_refl _) _⟩
  | true =>
    have ht : isEnc t = false := hbad.resolve_left (by simp [hf])
    have hb := enc_good hf hs hby
    have c0 := fun W => c49_0 t W
    rw [ht] at c0
    clear hf hbad ht
    go_enter Tryd.func34, Tryd.ntmps34
    go_wp2_with fail
    refine (c49_2 f s by' false hb.out _ _ (by omega) (by omega) (by simp) (by simp) (by simp)).mono ?_
    rintro e' w2 ⟨rfl, rfl⟩
    go_wp2_with fail
    refine (c0 _).mono ?_
    rintro e' w3 ⟨rfl, rfl⟩
    go_wp2
    go_ret2
    exact ⟨rfl, (Below.refl _ _).alloc (Nat.le_refl _) _⟩

set_option maxRecDepth 100000 in
set_option maxHeartbeats 4000000 in
theorem r34 (s by' : ByteArray) (f t : Int) (w : World) (hs : s.size ≤ 100000) (hby : by'.size ≤ 100000) (hf : isEnc f = true) (ht : isEnc t = true) :
    Calls Tryd.prog 34 #[.string s, .int .i64 f, .int .i64 t, .string by'] w fun e' w' => e' = .returned (.tuple #[.string (glue (pcs t by' (parts (nxOf f) s))), .int .i64 0]) ∧ Below w.heap.size w w' := by
  have hb := enc_good hf hs hby
  have c0 := fun W => c49_0 t W
  rw [ht] at c0
  have hB1 : Below w.heap.size w (w.alloc (.cells #[.string s, .string by'] 9)) := (Below.refl _ _).alloc (Nat.le_refl _) _
  have cP := c50 f hf s hs (w.alloc (.cells #[.string s, .string by'] 9))
  have hpl := parts_length (nxOf_ok f) s.size s rfl
  have hsum := pcs_sum t by' hby (parts (nxOf f) s) (by omega)
  have H55 := Lib.hid (fun c W => r55 t c W ht)
  have H56 := Lib.hid (fun c y W h => r56 t c y W ht h)
  clear hf ht
  go_enter Tryd.func34, Tryd.ntmps34
  go_wp2_with fail
  refine (c49_2 f s by' false hb.out _ _ (by omega) (by omega) (by simp) (by simp) (by simp)).mono ?_
  rintro e' w2 ⟨rfl, rfl⟩
  go_wp2_with fail
  refine (c0 _).mono ?_
  rintro e' w3 ⟨rfl, rfl⟩
  go_wp2_with fail
  refine cP.mono ?_
  rintro e' w3 ⟨v, rfl, hrow, hb3⟩
  have hB3 := hB1.trans (hb3.mono hB1.size)
  obtain ⟨ps, hps⟩ : ∃ ps, parts (nxOf f) s = ps := ⟨_, rfl⟩
  rw [hps] at hpl hsum hrow
  have HP := Lib.hid hps
  have HSum := Lib.hid hsum
  clear hps hsum cP
  rcases hrow.2 with ⟨hv, h0⟩ | ⟨g, cap, cs, hv, hgB, hg, hrest⟩
  · subst hv
    have hpe : ps = [] := List.eq_nil_of_length_eq_zero h0
    subst hpe
    have hpr : PartsRead w3 (.slice none 0 0) ([] : List (ByteArray × Int)) := ⟨none, 0, rfl, fun k hk => by simp at hk⟩
    have cJ := c59 [] _ w3 hpr (by decide) (by decide)
    clear hrow hpr
    go_wp2
    go_loop [11] (fun i => i = .int .i64 0) (fun _ => 0)
    case atStart => rfl
    case round =>
      subst hrel
      go_wp2_with fail
      refine cJ.mono ?_
      rintro e1 w4 ⟨rfl, hb4⟩
      go_wp2
      go_ret2
      exact ⟨by rw [HP.out]; rfl, hB3.trans (hb4.mono hB3.size)⟩
  · subst hv
    have hgB' : w.heap.size ≤ g := by have h := hgB; simp at h; omega
    have HR := Lib.hid (rowsG_start (lossyG t by') hrow hg)
    clear hrow hrest
    go_wp2
    go_loopw [11] (fun i wr => ∃ (k : Nat) (cs : Array Value), k ≤ ps.length ∧ i = .int .i64 k ∧ wr.heap[g]? = some (.cells cs 72 (0, 0)) ∧ Go.RowKit.Hid (RowsG (lossyG t by') cs ps k) ∧ Below w.heap.size w wr) (fun i _ => ps.length - (Go.RowKit.intOf i).toNat)
    case atStart => exact ⟨0, cs, Nat.zero_le _, rfl, hg, HR, hB3⟩
    case round =>
      obtain ⟨k, cs', hk, rfl, hblk, hro, hB⟩ := hrel
      by_cases hlt : k < ps.length
      · have hkl : (k : Int) < ps.length := by omega
        obtain ⟨q1, q2⟩ := hro.out k hlt
        rw [if_neg (by omega)] at q1
        have k1 : wr.cell? ⟨g, k * 2, none⟩ = some (.string ps[k].1) := by simp [World.cell?, hblk, q1]
        have k2 : wr.cell? ⟨g, k * 2 + 1, none⟩ = some (.int .i64 ps[k].2) := by simp [World.cell?, hblk, q2]
        have k3 : wr.frozen? ⟨g, k * 2, none⟩ = false := by simp [World.frozen?, hblk]
        have hgl : g < wr.heap.size := (Array.getElem?_eq_some_iff.1 hblk).1
        have q55 := H55.out ps[k].2
        by_cases hc : ps[k].2 < 0
        · have hnew := Lib.hid (rowsG_set hro.out hlt (y := by') (by unfold lossyG; rw [chr_none_neg t _ hc]; rfl))
          have hblk2 := Lib.hid (Lib.heap_setCell_same (i := k * 2) hblk (.string by'))
          have hd : decide (ps[k].2 < 0) = true := by simp; omega
          clear hblk q1 q2 q55
          generalize ps[k] = p at *
          go_wp2
          go_roundw
          case rel => exact ⟨k + 1, _, by omega, by go_num, hblk2.out, hnew, hB.setCell hgB' _⟩
          case measure => simp [Go.RowKit.intOf]; omega
        · have hd : decide (ps[k].2 < 0) = false := by simp; omega
          have hd2 : 0 ≤ ps[k].2 := by omega
          cases ho : chrOf t ps[k].2 with
          | none =>
            have hnew := Lib.hid (rowsG_set hro.out hlt (y := by') (by unfold lossyG; rw [ho]; rfl))
            have hblk2 := Lib.hid (Lib.heap_setCell_same (i := k * 2) hblk (.string by'))
            rw [ho] at q55
            have Q55 := Lib.hid q55
            clear hblk q1 q2 q55 hc ho
            generalize ps[k] = p at *
            go_wp2_with fail
            refine (Q55.out _).mono ?_
            rintro r1 w5 ⟨rfl, rfl⟩
            go_wp2
            go_roundw
            case rel => exact ⟨k + 1, _, by omega, by go_num, hblk2.out, hnew, hB.setCell hgB' _⟩
            case measure => simp [Go.RowKit.intOf]; omega
          | some y =>
            have hnew := Lib.hid (rowsG_set hro.out hlt (y := y) (by unfold lossyG; rw [ho]; rfl))
            rw [ho] at q55
            have Q55 := Lib.hid q55
            have Q56 := Lib.hid (fun W => H56.out _ y W ho)
            have Hblk := Lib.hid hblk
            clear hblk q1 q2 q55 hc ho k3 k1
            generalize ps[k] = p at *
            go_wp2_with fail
            refine (Q55.out _).mono ?_
            rintro r1 w5 ⟨rfl, rfl⟩
            go_wp2_with fail
            refine (Q56.out _).mono ?_
            rintro r1 w5 ⟨rfl, hb5⟩
            have hblk5 := (hb5.block g hgl).trans Hblk.out
            have hB5 := hB.trans (hb5.mono hB.size)
            obtain ⟨z1, hz1⟩ : ∃ z, w5.cell? ⟨g, k * 2, none⟩ = some z := ⟨_, (hb5.cell (p := ⟨g, k * 2, none⟩) hgl).trans (by
              have := (hro.out k hlt).1
              simp only [World.cell?, Hblk.out]
              exact this)⟩
            have k3 : w5.frozen? ⟨g, k * 2, none⟩ = false := by simp [World.frozen?, hblk5]
            have hblk2 := Lib.hid (Lib.heap_setCell_same (i := k * 2) hblk5 (.string y))
            clear hblk5
            go_wp2
            go_roundw
            case rel => exact ⟨k + 1, _, by omega, by go_num, hblk2.out, hnew, hB5.setCell hgB' _⟩
            case measure => simp [Go.RowKit.intOf]; omega
      · have hkl : (ps.length : Int) ≤ k := by omega
        have cJ := c59 (turnP (lossyG t by') ps) _ wr (rowsG_end (cap := cap) hro.out (by omega) hblk) (by rw [turnP_texts]; exact HSum.out) (by rw [turnP_length]; omega)
        clear hblk
        go_wp2_with fail
        refine cJ.mono ?_
        rintro e1 w4 ⟨rfl, hb4⟩
        go_wp2
        go_ret2
        exact ⟨by rw [HP.out, turnP_texts]; rfl, hB.trans (hb4.mono hB.size)⟩

set_option maxRecDepth 100000 in
set_option maxHeartbeats 4000000 in
theorem c8_no (s by' a b : ByteArray) (f t r q : Int) (w : World) (hr : (r == 0) = false) (g1 : (s.size : Int) ≤ 3000) (g2 : (by'.size : Int) ≤ 100)
    (HA : Go.RowKit.Hid (∀ W, Below w.heap.size w W → Calls Tryd.prog 31 #[.string s, .int .i64 f, .int .i64 t] W fun e' w' => e' = .returned (.tuple #[.string a, .int .i64 r]) ∧ Below W.heap.size W w'))
    (HB : Go.RowKit.Hid (∀ W, Calls Tryd.prog 32 #[.string s, .int .i64 f, .int .i64 t] W fun e' w' => e' = .returned (.tuple #[.string a, .int .i64 r]) ∧ Below W.heap.size W w'))
    (HC : Go.RowKit.Hid (∀ W, Below w.heap.size w W → Calls Tryd.prog 33 #[.string s, .int .i64 f, .int .i64 t, .string by'] W fun e' w' => e' = .returned (.tuple #[.string b, .int .i64 q]) ∧ Below W.heap.size W w'))
    (HD : Go.RowKit.Hid (∀ W, Calls Tryd.prog 34 #[.string s, .int .i64 f, .int .i64 t, .string by'] W fun e' w' => e' = .returned (.tuple #[.string b, .int .i64 q]) ∧ Below W.heap.size W w'))
    (HE : Go.RowKit.Hid (∀ W, Below w.heap.size w W → Calls Tryd.prog 15 #[] W fun e' w' => e' = .returned (.bool true) ∧ Below W.heap.size W w')) :
    Calls Tryd.prog 8 #[.agg #[.string s, .int .i64 f, .int .i64 t, .string by']] w fun e' w' => e' = .returned (.bool true) ∧ Below w.heap.size w w' := by
  have d1 : decide ((3000 : Int) < s.size) = false := by simp; omega
  have d2 : decide ((100 : Int) < by'.size) = false := by simp; omega
  have hB0 : Below w.heap.size w (w.alloc (.cells #[.string s, .int .i64 f, .int .i64 t, .string by'] 46)) := (Below.refl _ _).alloc (Nat.le_refl _) _
  obtain ⟨W1, hW1⟩ : ∃ W1, w.alloc (.cells #[.string s, .int .i64 f, .int .i64 t, .string by'] 46) = W1 := ⟨_, rfl⟩
  have hz1 : W1.heap.size = w.heap.size + 1 := by rw [← hW1]; simp
  have k0 : W1.cell? ⟨w.heap.size, 0, none⟩ = some (.string s) := by rw [← hW1]; simp
  have k1 : W1.cell? ⟨w.heap.size, 1, none⟩ = some (.int .i64 f) := by rw [← hW1]; simp
  have k2 : W1.cell? ⟨w.heap.size, 2, none⟩ = some (.int .i64 t) := by rw [← hW1]; simp
  have k3 : W1.cell? ⟨w.heap.size, 3, none⟩ = some (.string by') := by rw [← hW1]; simp
  have hk : ∀ W, Below W1.heap.size W1 W → W.cell? ⟨w.heap.size, 0, none⟩ = some (.string s) ∧ W.cell? ⟨w.heap.size, 1, none⟩ = some (.int .i64 f) ∧ W.cell? ⟨w.heap.size, 2, none⟩ = some (.int .i64 t) ∧ W.cell? ⟨w.heap.size, 3, none⟩ = some (.string by') := fun W hb =>
    ⟨(hb.cell (p := ⟨w.heap.size, 0, none⟩) (by show w.heap.size < _; omega)).trans k0, (hb.cell (p := ⟨w.heap.size, 1, none⟩) (by show w.heap.size < _; omega)).trans k1, (hb.cell (p := ⟨w.heap.size, 2, none⟩) (by show w.heap.size < _; omega)).trans k2, (hb.cell (p := ⟨w.heap.size, 3, none⟩) (by show w.heap.size < _; omega)).trans k3⟩
  have HK := Lib.hid hk
  clear hk
  rw [hW1] at hB0
  go_enter Tryd.func8, Tryd.ntmps8
  go_wp2_with fail
  clear k0 k1 k2 k3
  refine (HA.out _ hB0).mono ?_
  rintro e1 w2 ⟨rfl, hb2⟩
  have hB2 := hB0.trans (hb2.mono hB0.size)
  have q2 := hb2
  obtain ⟨k0, k1, k2, k3⟩ := HK.out _ q2
  go_wp2_with fail
  clear k0 k1 k2 k3
  refine (HB.out _).mono ?_
  rintro e1 w3 ⟨rfl, hb3⟩
  have hB3 := hB2.trans (hb3.mono hB2.size)
  have q3 := q2.trans (hb3.mono q2.size)
  obtain ⟨k0, k1, k2, k3⟩ := HK.out _ q3
  go_wp2_with fail
  clear k0 k1 k2 k3
  refine (HC.out _ hB3).mono ?_
  rintro e1 w4 ⟨rfl, hb4⟩
  have hB4 := hB3.trans (hb4.mono hB3.size)
  have q4 := q3.trans (hb4.mono q3.size)
  obtain ⟨k0, k1, k2, k3⟩ := HK.out _ q4
  go_wp2_with fail
  clear k0 k1 k2 k3
  refine (HD.out _).mono ?_
  rintro e1 w5 ⟨rfl, hb5⟩
  have hB5 := hB4.trans (hb5.mono hB4.size)
  have q5 := q4.trans (hb5.mono q4.size)
  obtain ⟨k0, k1, k2, k3⟩ := HK.out _ q5
  go_wp2_with fail
  clear k0 k1 k2 k3
  refine (HE.out _ hB5).mono ?_
  rintro e1 w6 ⟨rfl, hb6⟩
  go_wp2
  go_ret
  exact ⟨rfl, hB5.trans (hb6.mono hB5.size)⟩

set_option maxRecDepth 100000 in
set_option maxHeartbeats 4000000 in
theorem c8_yes (s by' a : ByteArray) (f t : Int) (w : World) (g1 : (s.size : Int) ≤ 3000) (g2 : (by'.size : Int) ≤ 100)
    (HA : Go.RowKit.Hid (∀ W, Below w.heap.size w W → Calls Tryd.prog 31 #[.string s, .int .i64 f, .int .i64 t] W fun e' w' => e' = .returned (.tuple #[.string a, .int .i64 0]) ∧ Below W.heap.size W w'))
    (HB : Go.RowKit.Hid (∀ W, Calls Tryd.prog 32 #[.string s, .int .i64 f, .int .i64 t] W fun e' w' => e' = .returned (.tuple #[.string a, .int .i64 0]) ∧ Below W.heap.size W w'))
    (HC : Go.RowKit.Hid (∀ W, Below w.heap.size w W → Calls Tryd.prog 33 #[.string s, .int .i64 f, .int .i64 t, .string by'] W fun e' w' => e' = .returned (.tuple #[.string a, .int .i64 0]) ∧ Below W.heap.size W w'))
    (HD : Go.RowKit.Hid (∀ W, Calls Tryd.prog 34 #[.string s, .int .i64 f, .int .i64 t, .string by'] W fun e' w' => e' = .returned (.tuple #[.string a, .int .i64 0]) ∧ Below W.heap.size W w'))
    (HF : Go.RowKit.Hid (∀ W, Below w.heap.size w W → Calls Tryd.prog 31 #[.string a, .int .i64 t, .int .i64 f] W fun e' w' => e' = .returned (.tuple #[.string s, .int .i64 0]) ∧ Below W.heap.size W w'))
    (HE : Go.RowKit.Hid (∀ W, Below w.heap.size w W → Calls Tryd.prog 15 #[] W fun e' w' => e' = .returned (.bool true) ∧ Below W.heap.size W w')) :
    Calls Tryd.prog 8 #[.agg #[.string s, .int .i64 f, .int .i64 t, .string by']] w fun e' w' => e' = .returned (.bool true) ∧ Below w.heap.size w w' := by
  have d1 : decide ((3000 : Int) < s.size) = false := by simp; omega
  have d2 : decide ((100 : Int) < by'.size) = false := by simp; omega
  have hB0 : Below w.heap.size w (w.alloc (.cells #[.string s, .int .i64 f, .int .i64 t, .string by'] 46)) := (Below.refl _ _).alloc (Nat.le_refl _) _
  obtain ⟨W1, hW1⟩ : ∃ W1, w.alloc (.cells #[.string s, .int .i64 f, .int .i64 t, .string by'] 46) = W1 := ⟨_, rfl⟩
  have hz1 : W1.heap.size = w.heap.size + 1 := by rw [← hW1]; simp
  have k0 : W1.cell? ⟨w.heap.size, 0, none⟩ = some (.string s) := by rw [← hW1]; simp
  have k1 : W1.cell? ⟨w.heap.size, 1, none⟩ = some (.int .i64 f) := by rw [← hW1]; simp
  have k2 : W1.cell? ⟨w.heap.size, 2, none⟩ = some (.int .i64 t) := by rw [← hW1]; simp
  have k3 : W1.cell? ⟨w.heap.size, 3, none⟩ = some (.string by') := by rw [← hW1]; simp
  have hk : ∀ W, Below W1.heap.size W1 W → W.cell? ⟨w.heap.size, 0, none⟩ = some (.string s) ∧ W.cell? ⟨w.heap.size, 1, none⟩ = some (.int .i64 f) ∧ W.cell? ⟨w.heap.size, 2, none⟩ = some (.int .i64 t) ∧ W.cell? ⟨w.heap.size, 3, none⟩ = some (.string by') := fun W hb =>
    ⟨(hb.cell (p := ⟨w.heap.size, 0, none⟩) (by show w.heap.size < _; omega)).trans k0, (hb.cell (p := ⟨w.heap.size, 1, none⟩) (by show w.heap.size < _; omega)).trans k1, (hb.cell (p := ⟨w.heap.size, 2, none⟩) (by show w.heap.size < _; omega)).trans k2, (hb.cell (p := ⟨w.heap.size, 3, none⟩) (by show w.heap.size < _; omega)).trans k3⟩
  have HK := Lib.hid hk
  clear hk
  rw [hW1] at hB0
  go_enter Tryd.func8, Tryd.ntmps8
  go_wp2_with fail
  clear k0 k1 k2 k3
  refine (HA.out _ hB0).mono ?_
  rintro e1 w2 ⟨rfl, hb2⟩
  have hB2 := hB0.trans (hb2.mono hB0.size)
  have q2 := hb2
  obtain ⟨k0, k1, k2, k3⟩ := HK.out _ q2
  go_wp2_with fail
  clear k0 k1 k2 k3
  refine (HB.out _).mono ?_
  rintro e1 w3 ⟨rfl, hb3⟩
  have hB3 := hB2.trans (hb3.mono hB2.size)
  have q3 := q2.trans (hb3.mono q2.size)
  obtain ⟨k0, k1, k2, k3⟩ := HK.out _ q3
  go_wp2_with fail
  clear k0 k1 k2 k3
  refine (HC.out _ hB3).mono ?_
  rintro e1 w4 ⟨rfl, hb4⟩
  have hB4 := hB3.trans (hb4.mono hB3.size)
  have q4 := q3.trans (hb4.mono q3.size)
  obtain ⟨k0, k1, k2, k3⟩ := HK.out _ q4
  go_wp2_with fail
  clear k0 k1 k2 k3
  refine (HD.out _).mono ?_
  rintro e1 w5 ⟨rfl, hb5⟩
  have hB5 := hB4.trans (hb5.mono hB4.size)
  have q5 := q4.trans (hb5.mono q4.size)
  obtain ⟨k0, k1, k2, k3⟩ := HK.out _ q5
  go_wp2_with fail
  clear k0 k1 k2 k3
  refine (HF.out _ hB5).mono ?_
  rintro e1 w6 ⟨rfl, hb6⟩
  have hB6 := hB5.trans (hb6.mono hB5.size)
  have q6 := q5.trans (hb6.mono q5.size)
  obtain ⟨k0, k1, k2, k3⟩ := HK.out _ q6
  go_wp2_with fail
  clear k0 k1 k2 k3
  refine (HE.out _ hB6).mono ?_
  rintro e1 w7 ⟨rfl, hb7⟩
  go_wp2
  go_ret
  exact ⟨rfl, hB6.trans (hb7.mono hB6.size)⟩

set_option maxRecDepth 100000 in
set_option maxHeartbeats 4000000 in
theorem c8_big (s by' : ByteArray) (f t : Int) (w : World) (hb : 3000 < s.size ∨ 100 < by'.size) (HE : Go.RowKit.Hid (∀ W, Below w.heap.size w W → Calls Tryd.prog 15 #[] W fun e' w' => e' = .returned (.bool true) ∧ Below W.heap.size W w')) :
    Calls Tryd.prog 8 #[.agg #[.string s, .int .i64 f, .int .i64 t, .string by']] w fun e' w' => e' = .returned (.bool true) ∧ Below w.heap.size w w' := by
  have hB0 : Below w.heap.size w (w.alloc (.cells #[.string s, .int .i64 f, .int .i64 t, .string by'] 46)) := (Below.refl _ _).alloc (Nat.le_refl _) _
  obtain ⟨W1, hW1⟩ : ∃ W1, w.alloc (.cells #[.string s, .int .i64 f, .int .i64 t, .string by'] 46) = W1 := ⟨_, rfl⟩
  have hz1 : W1.heap.size = w.heap.size + 1 := by rw [← hW1]; simp
  have k0 : W1.cell? ⟨w.heap.size, 0, none⟩ = some (.string s) := by rw [← hW1]; simp
  have k1 : W1.cell? ⟨w.heap.size, 1, none⟩ = some (.int .i64 f) := by rw [← hW1]; simp
  have k2 : W1.cell? ⟨w.heap.size, 2, none⟩ = some (.int .i64 t) := by rw [← hW1]; simp
  have k3 : W1.cell? ⟨w.heap.size, 3, none⟩ = some (.string by') := by rw [← hW1]; simp
  have hk : ∀ W, Below W1.heap.size W1 W → W.cell? ⟨w.heap.size, 0, none⟩ = some (.string s) ∧ W.cell? ⟨w.heap.size, 1, none⟩ = some (.int .i64 f) ∧ W.cell? ⟨w.heap.size, 2, none⟩ = some (.int .i64 t) ∧ W.cell? ⟨w.heap.size, 3, none⟩ = some (.string by') := fun W hb =>
    ⟨(hb.cell (p := ⟨w.heap.size, 0, none⟩) (by show w.heap.size < _; omega)).trans k0, (hb.cell (p := ⟨w.heap.size, 1, none⟩) (by show w.heap.size < _; omega)).trans k1, (hb.cell (p := ⟨w.heap.size, 2, none⟩) (by show w.heap.size < _; omega)).trans k2, (hb.cell (p := ⟨w.heap.size, 3, none⟩) (by show w.heap.size < _; omega)).trans k3⟩
  have HK := Lib.hid hk
  clear hk
  rw [hW1] at hB0
  by_cases h1 : 3000 < s.size
  · have g1 : (3000 : Int) < s.size := by omega
    have d1 : decide ((3000 : Int) < s.size) = true := by simp; omega
    clear hb
    go_enter Tryd.func8, Tryd.ntmps8
    go_wp2_with fail
    refine (HE.out _ hB0).mono ?_
    rintro e1 w2 ⟨rfl, hb2⟩
    go_wp2
    go_ret
    exact ⟨rfl, hB0.trans (hb2.mono hB0.size)⟩
  · have g1 : (s.size : Int) ≤ 3000 := by omega
    have d1 : decide ((3000 : Int) < s.size) = false := by simp; omega
    have g2 : (100 : Int) < by'.size := by omega
    have d2 : decide ((100 : Int) < by'.size) = true := by simp; omega
    clear hb
    go_enter Tryd.func8, Tryd.ntmps8
    go_wp2_with fail
    refine (HE.out _ hB0).mono ?_
    rintro e1 w2 ⟨rfl, hb2⟩
    go_wp2
    go_ret
    exact ⟨rfl, hB0.trans (hb2.mono hB0.size)⟩

theorem c8 (s by' : ByteArray) (f t : Int) (w : World) (hT : Lib.Utf8Tabs 0 1 w) :
    Calls Tryd.prog 8 #[.agg #[.string s, .int .i64 f, .int .i64 t, .string by']] w fun e' w' => e' = .returned (.bool true) ∧ Below w.heap.size w w' := by
  have HE := Lib.hid (fun W (hb : Below w.heap.size w W) => c15 W (Utf8Tabs_below hT hb))
  by_cases hb : 3000 < s.size ∨ 100 < by'.size
  · exact c8_big s by' f t w hb HE
  · have hs : s.size ≤ 3000 := by omega
    have hby : by'.size ≤ 100 := by omega
    have g1 : (s.size : Int) ≤ 3000 := by omega
    have g2 : (by'.size : Int) ≤ 100 := by omega
    by_cases hen : isEnc f = true ∧ isEnc t = true
    · obtain ⟨hf, ht⟩ := hen
      obtain ⟨a, r, hone, hcase⟩ := convRes_one f t s
      have HA : Go.RowKit.Hid (∀ W, Below w.heap.size w W → Calls Tryd.prog 31 #[.string s, .int .i64 f, .int .i64 t] W fun e' w' => e' = .returned (.tuple #[.string a, .int .i64 r]) ∧ Below W.heap.size W w') := fun W hb => (t31 s f t W (Utf8Tabs_below hT hb) (by omega) ht hf).mono fun _ _ ⟨h1, h2⟩ => ⟨hone _ h1, h2⟩
      have HB : Go.RowKit.Hid (∀ W, Calls Tryd.prog 32 #[.string s, .int .i64 f, .int .i64 t] W fun e' w' => e' = .returned (.tuple #[.string a, .int .i64 r]) ∧ Below W.heap.size W w') := fun W => (r32 s f t W (by omega) ht hf).mono fun _ _ ⟨h1, h2⟩ => ⟨hone _ h1, h2⟩
      have HC := Lib.hid (fun W (hb : Below w.heap.size w W) => t33 s by' f t W (Utf8Tabs_below hT hb) (by omega) (by omega) hf ht)
      have HD := Lib.hid (fun W => r34 s by' f t W (by omega) (by omega) hf ht)
      rcases hcase with ⟨rfl, hok, hall, rfl⟩ | h45
      · have HF := Lib.hid (fun W (hb : Below w.heap.size w W) => conv_back f t s W (Utf8Tabs_below hT hb) hs ht hf hok hall)
        have hl := lossy_same f t s by' hall
        have HC' : Go.RowKit.Hid (∀ W, Below w.heap.size w W → Calls Tryd.prog 33 #[.string s, .int .i64 f, .int .i64 t, .string by'] W fun e' w' => e' = .returned (.tuple #[.string (ofT t (codesP (parts (nxOf f) s))), .int .i64 0]) ∧ Below W.heap.size W w') := fun W hb => by
          have := HC.out W hb
          rw [← hl]
          exact this
        rw [hl] at HD
        exact c8_yes s by' _ f t w g1 g2 HA HB HC' HD HF HE
      · exact c8_no s by' a _ f t r 0 w (by rcases h45 with rfl | rfl <;> rfl) g1 g2 HA HB HC HD HE
    · have hbad : isEnc f = false ∨ isEnc t = false := by
        cases hf : isEnc f with
        | false => exact .inl rfl
        | true =>
          cases ht : isEnc t with
          | false => exact .inr rfl
          | true => exact absurd ⟨hf, ht⟩ hen
      have HA : Go.RowKit.Hid (∀ W, Below w.heap.size w W → Calls Tryd.prog 31 #[.string s, .int .i64 f, .int .i64 t] W fun e' w' => e' = .returned (.tuple #[.string ⟨#[]⟩, .int .i64 1]) ∧ Below W.heap.size W w') := fun W hb => by
        cases ht : isEnc t with
        | false => exact t31_to s f t W ht
        | true => exact t31_from s f t W (Utf8Tabs_below hT hb) (by omega) ht (hbad.resolve_right (by simp [ht]))
      have HB := Lib.hid (fun W => r32_arg s f t W (by omega) hbad)
      have HC := Lib.hid (fun W (hb : Below w.heap.size w W) => t33_arg s by' f t W (Utf8Tabs_below hT hb) hbad)
      have HD := Lib.hid (fun W => r34_arg s by' f t W (by omega) (by omega) hbad)
      exact c8_no s by' _ _ f t 1 1 w rfl g1 g2 HA HB HC HD HE
end Go.Proofs.YtjdnpgknamhnlaaDoor
