/- Contracts of the directive's bytes. -/
import Derived.Test.YtmbnckmhngijdaaGreatDoorN
namespace Go.Proofs.YtmbnckmhngijdaaGreatDoor
open Go Go.RowKit

theorem sizeC_le (c : UInt8) : sizeC c ≤ 8 := by
  unfold sizeC
  repeat' split
  all_goals omega
def InInt (x : Int) : Prop := -9223372036854775808 ≤ x ∧ x ≤ 9223372036854775807
theorem t125 (d : Dir) (hc : numC d.c = true) (nb al : Bool) (k n : Int) (w : World) (hn : InInt n) (hf : fitsC d.c n = true) :
    Calls Tryz.prog 125 #[.agg #[.int .u8 d.c.toNat, .bool nb, .int .i64 (sizeC d.c), .bool d.great, .bool al, .int .i64 k], .int .i64 n] w (BtsR (numB d n) w) := by
  obtain ⟨c, gt, kk⟩ := d
  by_cases h85 : c = 85
  · subst h85
    rw [show fitsC 85 n = decide (0 ≤ n ∧ n ≤ 1114111 ∧ ¬ (55296 ≤ n ∧ n ≤ 57343)) from rfl, decide_eq_true_eq] at hf
    obtain ⟨m, rfl⟩ : ∃ m : Nat, n = m := ⟨n.toNat, by omega⟩
    exact t125_u nb _ al k m w (by omega) (by omega)
  · by_cases h119 : c = 119
    · subst h119
      rw [show fitsC 119 n = decide (0 ≤ n) from rfl, decide_eq_true_eq] at hf
      obtain ⟨m, rfl⟩ : ∃ m : Nat, n = m := ⟨n.toNat, by omega⟩
      have hn2 := hn.2
      exact t125_w nb _ al k m w (by omega)
    · have h := t125_n c nb (⟨c, gt, kk⟩ : Dir).great al (sizeC c) k n w h85 h119 (sizeC_le c) hn
      have e : numB ⟨c, gt, kk⟩ n = if (⟨c, gt, kk⟩ : Dir).great then (leL (sizeC c) (u64 n)).reverse else leL (sizeC c) (u64 n) := by
        unfold numB; rw [if_neg h85, if_neg h119]
      rw [e]
      exact h
theorem t123 (c : UInt8) (nb gr al : Bool) (sz : Int) (n : Nat) (s : ByteArray) (w : World) (hs : s.size ≤ 1200000) (hn : n ≤ 1000) (hn1 : al = false → 1 ≤ n) :
    Calls Tryz.prog 123 #[.agg #[.int .u8 c.toNat, .bool nb, .int .i64 sz, .bool gr, .bool al, .int .i64 n], .string s] w (BtsR (fillB c al n s.data.toList) w) := by
  cases al with
  | true =>
    by_cases h1 : c = 65
    · exact t123_all_A c nb gr sz n s w h1 hs hn
    · by_cases h2 : c = 90
      · exact t123_all_Z c nb gr sz n s w h2 hs hn
      · exact t123_all_o c nb gr sz n s w h2 h1 hs hn
  | false =>
    by_cases h1 : c = 65
    · exact t123_cnt_A c nb gr sz n s w h1 hs hn (hn1 rfl)
    · by_cases h2 : c = 90
      · exact t123_cnt_Z c nb gr sz n s w h2 hs hn (hn1 rfl)
      · exact t123_cnt_o c nb gr sz n s w h2 h1 hs hn (hn1 rfl)
theorem t42 (c : UInt8) (nb gr al : Bool) (sz : Int) (n : Nat) (s : ByteArray) (w : World) (hs : s.size ≤ 1200000) (hn : n ≤ 1000) :
    Calls Tryz.prog 42 #[.agg #[.int .u8 c.toNat, .bool nb, .int .i64 sz, .bool gr, .bool al, .int .i64 n], .string s] w (DigR (hexB al n s.data.toList) w) := by
  rw [hexB_N]
  cases al with
  | true => exact t42_all c nb gr sz n s w hs hn
  | false => exact t42_cnt c nb gr sz n s w hs hn
theorem fillB_eq (d : Dir) (s : List UInt8) : fillL d s = fillB d.c d.all d.n s := rfl
/-- what an item's bytes tell -/
def ItemR (r : Except Nat (List UInt8)) (w : World) (e : Ending) (w' : World) : Prop :=
  Below w.heap.size w w' ∧
  match r with
  | .error x => e = .returned (.tuple #[.slice none 0 0, .int .i64 x]) ∧ x ≠ 0
  | .ok l => ∃ g c, e = .returned (.tuple #[.slice (some ⟨g, 0, none⟩) l.length c, .int .i64 0]) ∧ Rd w' g l ∧ w.heap.size ≤ g
theorem ItemR.bad {r : Except Nat (List UInt8)} {w w' : World} {x : Nat} (h : Hid (r = .error x)) (hx : x ≠ 0) (hb : Below w.heap.size w w') : ItemR r w (.returned (.tuple #[.slice none 0 0, .int .i64 x])) w' := by
  unfold ItemR; rw [h.out]; exact ⟨hb, rfl, hx⟩
theorem ItemR.good {r : Except Nat (List UInt8)} {w w' : World} {l : List UInt8} {g c : Nat} (h : Hid (r = .ok l)) (hb : Below w.heap.size w w') (hr : Rd w' g l) (hg : w.heap.size ≤ g) : ItemR r w (.returned (.tuple #[.slice (some ⟨g, 0, none⟩) l.length c, .int .i64 0])) w' := by
  unfold ItemR; rw [h.out]; exact ⟨hb, g, c, rfl, hr, hg⟩
structure Dir.Fine (d : Dir) : Prop where
  n : d.n ≤ 1000
  pos : d.all = false → d.c ≠ 64 → 1 ≤ d.n
theorem Dir.Ok.fine {d : Dir} (h : d.Ok) : d.Fine := by
  obtain ⟨c, gt, k⟩ := d
  refine ⟨?_, fun h1 h2 => ?_⟩
  · show (if k = -1 then 0 else if k = -2 then (if c = 64 then 0 else 1) else k.toNat) ≤ 1000
    have := h.count
    dsimp only at this
    repeat' split
    all_goals omega
  · show 1 ≤ (if k = -1 then 0 else if k = -2 then (if c = 64 then 0 else 1) else k.toNat)
    have h3 := h.count
    have h4 := h.pos
    dsimp only at h3 h4 h2
    have h5 : k ≠ -1 := of_decide_eq_false h1
    rw [if_neg h5]
    by_cases h6 : k = -2
    · rw [if_pos h6, if_neg h2]; omega
    · rw [if_neg h6]
      have h7 : k ≠ 0 := fun e => h2 (h4 e)
      omega
set_option maxRecDepth 100000 in
set_option maxHeartbeats 2000000 in
theorem t103 (d : Dir) (t : Bool) (i : Int) (s : ByteArray) (w : World) (hd : d.Fine) (h64 : d.c ≠ 64) (hi : InInt i) (hs : s.size ≤ 1200000) :
    Calls Tryz.prog 103 #[.agg #[.int .u8 d.c.toNat, .bool (numC d.c), .int .i64 (sizeC d.c), .bool d.great, .bool d.all, .int .i64 d.n], .agg #[.bool t, .int .i64 i, .string s]] w (ItemR (itemL d ⟨t, i, s.data.toList⟩) w) := by
  have hn := hd.n
  have hpos := hd.pos
  have hb0 := bSelf w (.cells #[.int .u8 d.c.toNat, .bool (numC d.c), .int .i64 (sizeC d.c), .bool d.great, .bool d.all, .int .i64 d.n] 81)
  have hb1 := bThen hb0 (bSelf _ (.cells #[.bool t, .int .i64 i, .string s] 50))
  have c42 := fun W => t42 d.c (numC d.c) d.great d.all (sizeC d.c) d.n s W hs hn
  have c123 := fun W => t123 d.c (numC d.c) d.great d.all (sizeC d.c) d.n s W hs hn (fun e => hpos e h64)
  have HB1 := Lib.hid hb1
  clear hb0 hb1 hpos
  by_cases h72 : d.c = 72
  · have d1 := u8_eq (n := 72) (k := 72) rfl h72
    have hit0 : hexB d.all d.n s.data.toList = none → Hid (itemL d ⟨t, i, s.data.toList⟩ = .error 1) := fun e => by
      show _ = _; unfold itemL; rw [if_pos h72]; dsimp only; rw [e]
    have hit1 : ∀ l, hexB d.all d.n s.data.toList = some l → Hid (itemL d ⟨t, i, s.data.toList⟩ = .ok l) := fun l e => by
      show _ = _; unfold itemL; rw [if_pos h72]; dsimp only; rw [e]
    have HIT0 := Lib.hid hit0
    have HIT1 := Lib.hid hit1
    clear hit0 hit1
    generalize hexB d.all d.n s.data.toList = H at *
    clear c123
    generalize d.great = gr at *
    generalize d.all = al at *
    generalize numC d.c = nb at *
    generalize sizeC d.c = sz at *
    generalize d.n = n at *
    generalize d.c.toNat = cn at *
    clear h72 h64
    cases H with
    | none =>
      have HIT := HIT0.out rfl
      clear HIT0 HIT1
      go_enter Tryz.func103, Tryz.ntmps103
      go_wp2_with fail
      refine (c42 _).mono ?_
      rintro e w2 ⟨hb2, v, rfl⟩
      have HB2 := Lib.hid (bThen HB1.out hb2)
      clear hb2
      go_wp2
      go_ret2
      exact ItemR.bad HIT (by decide) HB2.out
    | some l =>
      have HIT := HIT1.out l rfl
      clear HIT0 HIT1
      go_enter Tryz.func103, Tryz.ntmps103
      go_wp2_with fail
      refine (c42 _).mono ?_
      rintro e w2 ⟨hb2, g, c, rfl, hr, hg⟩
      have HB2 := Lib.hid (bThen HB1.out hb2)
      have HR := Lib.hid hr
      have HG := Lib.hid (Nat.le_trans HB1.out.size hg)
      clear hb2 hr hg
      go_wp2
      go_ret2
      exact ItemR.good HIT HB2.out HR.out HG.out
  · have d1 := u8_ne (n := 72) (k := 72) rfl h72
    cases hnb : numC d.c with
    | false =>
      have HIT : Hid (itemL d ⟨t, i, s.data.toList⟩ = .ok (fillB d.c d.all d.n s.data.toList)) := by
        show _ = _; unfold itemL; rw [if_neg h72, hnb]; rfl
      rw [hnb] at c123 HB1
      clear c42 hnb h72 h64
      generalize fillB d.c d.all d.n s.data.toList = L at *
      generalize d.great = gr at *
      generalize d.all = al at *
      generalize sizeC d.c = sz at *
      generalize d.n = n at *
      generalize d.c.toNat = cn at *
      go_enter Tryz.func103, Tryz.ntmps103
      go_wp2_with fail
      refine (c123 _).mono ?_
      rintro e w2 ⟨g, c, rfl, hr, hb2, hg⟩
      have HB2 := Lib.hid (bThen HB1.out hb2)
      have HR := Lib.hid hr
      have HG := Lib.hid (Nat.le_trans HB1.out.size hg)
      clear hb2 hr hg
      go_wp2
      go_ret2
      exact ItemR.good HIT HB2.out HR.out HG.out
    | true =>
      have c124 := fun W => t124 d.c hnb true d.great d.all d.n i W hi
      have c125 := fun hf W => t125 d hnb true d.all d.n i W hi hf
      rw [hnb] at HB1
      cases hfit : fitsC d.c i with
      | false =>
        have HIT : Hid (itemL d ⟨t, i, s.data.toList⟩ = .error 5) := by
          show _ = _; unfold itemL; rw [if_neg h72, if_pos hnb, hfit]; rfl
        rw [hfit] at c124
        clear c42 c123 c125 hnb h72 h64
        generalize d.great = gr at *
        generalize d.all = al at *
        generalize sizeC d.c = sz at *
        generalize d.n = n at *
        generalize d.c.toNat = cn at *
        go_enter Tryz.func103, Tryz.ntmps103
        go_wp2_with fail
        refine (c124 _).mono ?_
        rintro e w2 ⟨rfl, hb2⟩
        have HB2 := Lib.hid (bThen HB1.out hb2)
        clear hb2
        go_wp2
        go_ret2
        exact ItemR.bad HIT (by decide) HB2.out
      | true =>
        have HIT : Hid (itemL d ⟨t, i, s.data.toList⟩ = .ok (numB d i)) := by
          show _ = _; unfold itemL; rw [if_neg h72, if_pos hnb, hfit]; rfl
        rw [hfit] at c124
        have c125' := c125 hfit
        clear c42 c123 c125 hnb h72 h64
        generalize numB d i = L at *
        have k0 := newAt w #[.int .u8 d.c.toNat, .bool true, .int .i64 (sizeC d.c), .bool d.great, .bool d.all, .int .i64 d.n] 81 w.heap.size _ rfl rfl
        have k1 := Blk.new (w.alloc (.cells #[.int .u8 d.c.toNat, .bool true, .int .i64 (sizeC d.c), .bool d.great, .bool d.all, .int .i64 d.n] 81)) #[.bool t, .int .i64 i, .string s] 50
        have k0' := k0.alloc (.cells #[.bool t, .int .i64 i, .string s] 50)
        have hsz : (w.alloc (.cells #[.int .u8 d.c.toNat, .bool true, .int .i64 (sizeC d.c), .bool d.great, .bool d.all, .int .i64 d.n] 81)).heap.size = w.heap.size + 1 := by simp
        rw [hsz] at k1
        have K0 := Lib.hid k0'
        have K1 := Lib.hid k1
        clear k0 k0' k1 hsz
        generalize d.great = gr at *
        generalize d.all = al at *
        generalize sizeC d.c = sz at *
        generalize d.n = n at *
        generalize d.c.toNat = cn at *
        go_enter Tryz.func103, Tryz.ntmps103
        go_wp2_with fail
        refine (c124 _).mono ?_
        rintro e w2 ⟨rfl, hb2⟩
        have HB2 := Lib.hid (bThen HB1.out hb2)
        obtain ⟨h0, h1, h2, h3, h4, h5⟩ := (blkDown K0.out hb2).six
        have kk := blkDown K1.out hb2
        have g0 := kk.cell 0 rfl
        have g1 := kk.cell 1 rfl
        have g2 := kk.cell 2 rfl
        clear hb2 kk
        go_wp2_with fail
        refine (c125' _).mono ?_
        rintro e w3 ⟨g, c, rfl, hr, hb3, hg⟩
        have HB3 := Lib.hid (bThen HB2.out hb3)
        have HR := Lib.hid hr
        have HG := Lib.hid (Nat.le_trans HB2.out.size hg)
        clear hb3 hr hg
        go_wp2
        go_ret2
        exact ItemR.good HIT HB3.out HR.out HG.out
end Go.Proofs.YtmbnckmhngijdaaGreatDoor
