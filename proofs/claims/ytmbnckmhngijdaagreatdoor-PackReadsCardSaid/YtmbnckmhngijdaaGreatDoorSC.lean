/- Contract of the reference's one. -/
import Derived.Test.YtmbnckmhngijdaaGreatDoorSB
import Derived.Test.YtmbnckmhngijdaaGreatDoorOD
namespace Go.Proofs.YtmbnckmhngijdaaGreatDoor
open Go Go.RowKit

def NumW (r : Except Nat (Int × Nat)) (w : World) (e : Ending) (w' : World) : Prop :=
  Below w.heap.size w w' ∧
  match r with
  | .error x => (∃ a b, e = .returned (.tuple #[.int .i64 a, .int .i64 b, .int .i64 x])) ∧ x ≠ 0
  | .ok v => e = .returned (.tuple #[.int .i64 v.1, .int .i64 v.2, .int .i64 0])
theorem NumW.bad {r : Except Nat (Int × Nat)} {w w' : World} {x : Nat} {a b : Int} (h : Hid (r = .error x)) (hx : x ≠ 0) (hb : Below w.heap.size w w') : NumW r w (.returned (.tuple #[.int .i64 a, .int .i64 b, .int .i64 x])) w' := by
  unfold NumW; rw [h.out]; exact ⟨hb, ⟨a, b, rfl⟩, hx⟩
theorem NumW.good {r : Except Nat (Int × Nat)} {w w' : World} {v : Int} {n : Nat} (h : Hid (r = .ok (v, n))) (hb : Below w.heap.size w w') : NumW r w (.returned (.tuple #[.int .i64 v, .int .i64 n, .int .i64 0])) w' := by
  unfold NumW; rw [h.out]; exact ⟨hb, rfl⟩
theorem decodeGo_N (s : ByteArray) (h0 : 0 < s.size) : Lib.decodeGo s = Lib.decodeN s.size (s.get! 0).toNat (s.get! 1).toNat (s.get! 2).toNat (s.get! 3).toNat := by
  unfold Lib.decodeGo
  rw [if_neg (by omega), Lib.decode_at]; rfl
theorem chr_none (s : ByteArray) (h0 : 0 < s.size) (h : (One1.oneRef s).2 < 0) : chrP s.data.toList = .error 1 := by
  rw [One1.oneRef_eq] at h
  have hd := (One1.decode_none s.size (s.get! 0).toNat (s.get! 1).toNat (s.get! 2).toNat (s.get! 3).toNat h0 (s.get! 0).toNat_lt (s.get! 1).toNat_lt (s.get! 2).toNat_lt (s.get! 3).toNat_lt h).1
  rw [← decodeGo_N s h0] at hd
  show (if (Lib.decodeGo s).1 = 65533 ∧ (Lib.decodeGo s).2 = 1 then _ else _) = _
  rw [hd]; rfl
theorem chr_some (s : ByteArray) (h0 : 0 < s.size) (h : 0 ≤ (One1.oneRef s).2) : chrP s.data.toList = .ok ((One1.oneRef s).2, (One1.oneRef s).1) := by
  rw [One1.oneRef_eq] at h ⊢
  have hd := One1.decode_one s.size (s.get! 0).toNat (s.get! 1).toNat (s.get! 2).toNat (s.get! 3).toNat h0 (s.get! 0).toNat_lt (s.get! 1).toNat_lt (s.get! 2).toNat_lt (s.get! 3).toNat_lt h
  rw [← decodeGo_N s h0] at hd
  show (if (Lib.decodeGo s).1 = 65533 ∧ (Lib.decodeGo s).2 = 1 then _ else _) = _
  rw [if_neg hd.2]
  unfold One1.one
  rw [← hd.1.1, ← hd.1.2]
set_option maxRecDepth 100000 in
set_option maxHeartbeats 4000000 in
theorem t35 (d : Dir) (s : ByteArray) (w : World) (hc : numC d.c = true) (hs : s.size ≤ 1000000) :
    Calls Tryz.prog 35 #[.agg #[.int .u8 d.c.toNat, .bool d.gt, .int .i64 d.k], .string s] w (NumW (numberR chrP d s.data.toList) w) := by
  have h8 := sizeC_le d.c
  have hsi : (s.size : Int) ≤ 1000000 := by omega
  have hsl : s.data.toList.length = s.size := rfl
  have C34 := fun W => t34 d.c W
  have hk0 := Blk.new w #[.int .u8 d.c.toNat, .bool d.gt, .int .i64 d.k] 60
  have hb0 := bSelf w (.cells #[.int .u8 d.c.toNat, .bool d.gt, .int .i64 d.k] 60)
  have HNM : Hid (numberR chrP d s.data.toList = if s.size < max (sizeC d.c) 1 then .error 14 else if d.c = 85 then chrP s.data.toList else if d.c = 119 then sevT s.data.toList else (match fixedR d (s.data.toList.take (sizeC d.c)) with | .error e => .error e | .ok v => .ok (v, sizeC d.c))) := rfl
  by_cases hz : 0 < sizeC d.c
  · obtain ⟨n, hn⟩ : ∃ n, sizeC d.c = n := ⟨_, rfl⟩
    have h85 : d.c ≠ 85 := fun h => by rw [h] at hz; exact absurd hz (by decide)
    have h119 : d.c ≠ 119 := fun h => by rw [h] at hz; exact absurd hz (by decide)
    have HN := Lib.hid hn
    rw [hn] at hz h8 C34
    have hni : (0 : Int) < n := by omega
    have hn8 : (n : Int) ≤ 8 := by omega
    by_cases hlt : s.size < n
    · have hlti : (s.size : Int) < n := by omega
      have HE : Hid (numberR chrP d s.data.toList = .error 14) := by show _ = _; rw [HNM.out, hn, if_pos (by omega)]
      clear hlt h85 h119 hn
      go_enter Tryz.func35, Tryz.ntmps35
      go_upto_region 1 with fail
      generalize w.alloc (.cells #[.int .u8 d.c.toNat, .bool d.gt, .int .i64 d.k] 60) = W at *
      have d0 := hk0.cell 0 rfl
      have HB0 := Lib.hid hb0
      clear hb0 hk0
      go_wp2_with (go_at_call 34; refine (C34 _).mono ?_; rintro e4 w4 ⟨rfl, rfl⟩)
      go_ret3
      exact NumW.bad HE (by decide) HB0.out
    · have hlti : (n : Int) ≤ s.size := by omega
      have hltd : decide ((s.size : Int) < n) = false := by simp; omega
      have HE : Hid (numberR chrP d s.data.toList = match fixedR d (s.data.toList.take n) with | .error e => .error e | .ok v => .ok (v, n)) := by show _ = _; rw [HNM.out, hn, if_neg (by omega), if_neg h85, if_neg h119]
      obtain ⟨t, ht⟩ : ∃ t : ByteArray, s.extract 0 n = t := ⟨_, rfl⟩
      have htl : t.data.toList = s.data.toList.take n := by rw [← ht, extract_take]
      have htz : t.size = sizeC d.c := by
        rw [hn, show t.size = t.data.toList.length from rfl, htl, List.length_take]; omega
      have C := fun W => t48 d t W htz (by omega)
      rw [htl] at C
      have HT := Lib.hid ht
      clear hlt h85 h119 ht htl htz hn
      cases hres : fixedR d (s.data.toList.take n) with
      | error y =>
        rw [hres] at C
        have HE2 : Hid (numberR chrP d s.data.toList = .error y) := by show _ = _; rw [HE.out, hres]
        clear hres
        go_enter Tryz.func35, Tryz.ntmps35
        go_upto_region 1 with fail
        generalize w.alloc (.cells #[.int .u8 d.c.toNat, .bool d.gt, .int .i64 d.k] 60) = W at *
        have d0 := hk0.cell 0 rfl
        have S0 : Hid (W.cell? ⟨w.heap.size, 0, none⟩ = some (.int .u8 d.c.toNat) ∧ W.cell? ⟨w.heap.size, 1, none⟩ = some (.bool d.gt) ∧ W.cell? ⟨w.heap.size, 2, none⟩ = some (.int .i64 d.k)) := ⟨hk0.cell 0 rfl, hk0.cell 1 rfl, hk0.cell 2 rfl⟩
        have HB0 := Lib.hid hb0
        have hzz : s.extract 0 n = t := HT.out
        clear hb0 hk0
        go_upto_region 5 with (go_at_call 34; refine (C34 _).mono ?_; rintro e4 w4 ⟨rfl, rfl⟩)
        clear d0
        go_region_held3 (fun w' => w'.cell? ⟨w.heap.size, 0, none⟩ = some (.int .u8 d.c.toNat) ∧ w'.cell? ⟨w.heap.size, 1, none⟩ = some (.bool d.gt) ∧ w'.cell? ⟨w.heap.size, 2, none⟩ = some (.int .i64 d.k))
          (first
            | exact S0.out
            | exact S1.out
            | fail "nokeep")
          (first
            | (go_at_call 48; (with_reducible refine (C _).mono ?_); rintro e w1 ⟨hb1, rfl, hy⟩; have HY := Lib.hid hy; clear hy; have HB1 := Lib.hid hb1; have S1 := Lib.hid (show w1.cell? ⟨w.heap.size, 0, none⟩ = some (.int .u8 d.c.toNat) ∧ w1.cell? ⟨w.heap.size, 1, none⟩ = some (.bool d.gt) ∧ w1.cell? ⟨w.heap.size, 2, none⟩ = some (.int .i64 d.k) from ⟨below_cell hb1 S0.out.1, below_cell hb1 S0.out.2.1, below_cell hb1 S0.out.2.2⟩); clear hb1)
            | fail "noarm")
        have HB2 : Hid (Below w.heap.size w w1) := (HB0.out.drew).trans ((show Below W.heap.size W.drew w1 from HB1.out).mono HB0.out.size)
        clear hzz
        go_wp2
        go_ret3
        exact NumW.bad HE2 HY.out HB2.out
      | ok v =>
        rw [hres] at C
        have HE2 : Hid (numberR chrP d s.data.toList = .ok (v, n)) := by show _ = _; rw [HE.out, hres]
        clear hres
        go_enter Tryz.func35, Tryz.ntmps35
        go_upto_region 1 with fail
        generalize w.alloc (.cells #[.int .u8 d.c.toNat, .bool d.gt, .int .i64 d.k] 60) = W at *
        have d0 := hk0.cell 0 rfl
        have S0 : Hid (W.cell? ⟨w.heap.size, 0, none⟩ = some (.int .u8 d.c.toNat) ∧ W.cell? ⟨w.heap.size, 1, none⟩ = some (.bool d.gt) ∧ W.cell? ⟨w.heap.size, 2, none⟩ = some (.int .i64 d.k)) := ⟨hk0.cell 0 rfl, hk0.cell 1 rfl, hk0.cell 2 rfl⟩
        have HB0 := Lib.hid hb0
        have hzz : s.extract 0 n = t := HT.out
        clear hb0 hk0
        go_upto_region 5 with (go_at_call 34; refine (C34 _).mono ?_; rintro e4 w4 ⟨rfl, rfl⟩)
        clear d0
        go_region_held3 (fun w' => w'.cell? ⟨w.heap.size, 0, none⟩ = some (.int .u8 d.c.toNat) ∧ w'.cell? ⟨w.heap.size, 1, none⟩ = some (.bool d.gt) ∧ w'.cell? ⟨w.heap.size, 2, none⟩ = some (.int .i64 d.k))
          (first
            | exact S0.out
            | exact S1.out
            | fail "nokeep")
          (first
            | (go_at_call 48; (with_reducible refine (C _).mono ?_); rintro e w1 ⟨hb1, rfl⟩; have HB1 := Lib.hid hb1; have S1 := Lib.hid (show w1.cell? ⟨w.heap.size, 0, none⟩ = some (.int .u8 d.c.toNat) ∧ w1.cell? ⟨w.heap.size, 1, none⟩ = some (.bool d.gt) ∧ w1.cell? ⟨w.heap.size, 2, none⟩ = some (.int .i64 d.k) from ⟨below_cell hb1 S0.out.1, below_cell hb1 S0.out.2.1, below_cell hb1 S0.out.2.2⟩); clear hb1)
            | fail "noarm")
        have HB2 : Hid (Below w.heap.size w w1) := (HB0.out.drew).trans ((show Below W.heap.size W.drew w1 from HB1.out).mono HB0.out.size)
        clear hzz
        go_wp2
        go_ret3
        exact NumW.good HE2 HB2.out
  · have hz0 : sizeC d.c = 0 := by omega
    rw [hz0] at C34
    have hcs : d.c = 85 ∨ d.c = 119 := by
      have h := hc
      unfold numC at h
      rw [hz0] at h
      simp at h
      exact h.symm
    by_cases hnil : s.size = 0
    · have hs0 : s = ⟨#[]⟩ := by
        apply ByteArray.ext
        exact Array.eq_empty_of_size_eq_zero hnil
      have HE : Hid (numberR chrP d s.data.toList = .error 14) := by show _ = _; rw [HNM.out, hz0, if_pos (by omega)]
      have hse : (s.toList == ([] : List UInt8)) = true := by rw [ByteArray.toList_eq, hs0]; rfl
      clear hnil hz hz0 hcs
      go_enter Tryz.func35, Tryz.ntmps35
      go_upto_region 1 with fail
      generalize w.alloc (.cells #[.int .u8 d.c.toNat, .bool d.gt, .int .i64 d.k] 60) = W at *
      have d0 := hk0.cell 0 rfl
      have HB0 := Lib.hid hb0
      clear hb0 hk0
      go_wp2_with (go_at_call 34; refine (C34 _).mono ?_; rintro e4 w4 ⟨rfl, rfl⟩)
      go_ret3
      exact NumW.bad HE (by decide) HB0.out
    · have hse : (s.toList == ([] : List UInt8)) = false := by
        rw [ByteArray.toList_eq, beq_eq_false_iff_ne]; intro h; rw [← hsl, h] at hnil; exact hnil rfl
      have hpi : (0 : Int) < s.size := by omega
      have hpos : 0 < s.size := by omega
      rcases hcs with h85 | h119
      · have e85 := u8_eq (n := 85) (k := 85) rfl h85
        have HE : Hid (numberR chrP d s.data.toList = chrP s.data.toList) := by show _ = _; rw [HNM.out, hz0, if_neg (by omega), if_pos h85]
        have C49 := fun W => One1.c73 s W hpos (by omega)
        obtain ⟨m, hm⟩ : ∃ m, (One1.oneRef s).1 = m := ⟨_, rfl⟩
        obtain ⟨v, hv⟩ : ∃ v, (One1.oneRef s).2 = v := ⟨_, rfl⟩
        rw [hm, hv] at C49
        by_cases hneg : v < 0
        · have HE2 : Hid (numberR chrP d s.data.toList = .error 1) := by show _ = _; rw [HE.out]; exact chr_none s hpos (by rw [hv]; exact hneg)
          clear hnil hz hz0 h85 hm hv
          go_enter Tryz.func35, Tryz.ntmps35
          go_upto_region 1 with fail
          generalize w.alloc (.cells #[.int .u8 d.c.toNat, .bool d.gt, .int .i64 d.k] 60) = W at *
          have d0 := hk0.cell 0 rfl
          have HB0 := Lib.hid hb0
          clear hb0 hk0
          go_wp2_with (first | (go_at_call 34; refine (C34 _).mono ?_; rintro e4 w4 ⟨rfl, rfl⟩) | (go_at_call 49; refine (C49 _).mono ?_; rintro e5 w5 ⟨rfl, hb5⟩))
          go_ret3
          exact NumW.bad HE2 (by decide) (bThen HB0.out hb5)
        · have hnn : 0 ≤ v := by omega
          have HE2 : Hid (numberR chrP d s.data.toList = .ok (v, m)) := by
            show _ = _; rw [HE.out, chr_some s hpos (by rw [hv]; exact hnn), hm, hv]
          clear hnil hz hz0 h85 hm hv hneg
          go_enter Tryz.func35, Tryz.ntmps35
          go_upto_region 1 with fail
          generalize w.alloc (.cells #[.int .u8 d.c.toNat, .bool d.gt, .int .i64 d.k] 60) = W at *
          have d0 := hk0.cell 0 rfl
          have HB0 := Lib.hid hb0
          clear hb0 hk0
          go_wp2_with (first | (go_at_call 34; refine (C34 _).mono ?_; rintro e4 w4 ⟨rfl, rfl⟩) | (go_at_call 49; refine (C49 _).mono ?_; rintro e5 w5 ⟨rfl, hb5⟩))
          go_ret3
          exact NumW.good HE2 (bThen HB0.out hb5)
      · have e85 : ((d.c.toNat : Int) == 85) = false := by rw [h119]; rfl
        have HE : Hid (numberR chrP d s.data.toList = sevT s.data.toList) := by show _ = _; rw [HNM.out, hz0, if_neg (by omega), if_neg (by rw [h119]; decide), if_pos h119]
        obtain ⟨x, hx⟩ : ∃ x, s[0]'hpos = x := ⟨_, rfl⟩
        have hxl := x.toNat_lt
        have hhd : s.data.toList.head? = some x := by
          have : s.data.toList[0]? = some x := by rw [List.getElem?_eq_getElem (by omega)]; exact congrArg some hx
          rw [List.head?_eq_getElem?]; exact this
        by_cases h128 : x = 128
        · have e128 := u8_eq (n := 128) (k := 128) rfl h128
          have HE2 : Hid (numberR chrP d s.data.toList = .error 5) := by show _ = _; rw [HE.out]; unfold sevT; rw [hhd, h128, if_pos rfl]
          clear hnil hz hz0 h119 hhd h128
          go_enter Tryz.func35, Tryz.ntmps35
          go_upto_region 1 with fail
          generalize w.alloc (.cells #[.int .u8 d.c.toNat, .bool d.gt, .int .i64 d.k] 60) = W at *
          have d0 := hk0.cell 0 rfl
          have HB0 := Lib.hid hb0
          clear hb0 hk0
          go_wp2_with (go_at_call 34; refine (C34 _).mono ?_; rintro e4 w4 ⟨rfl, rfl⟩)
          go_ret3
          exact NumW.bad HE2 (by decide) HB0.out
        · have e128 := u8_ne (n := 128) (k := 128) rfl h128
          have HE2 : Hid (numberR chrP d s.data.toList = sevR 9 0 0 s.data.toList) := by show _ = _; rw [HE.out]; unfold sevT; rw [hhd, if_neg (by simpa using h128)]
          clear hnil hz hz0 h119 hhd h128
          go_enter Tryz.func35, Tryz.ntmps35
          go_upto_region 1 with fail
          generalize w.alloc (.cells #[.int .u8 d.c.toNat, .bool d.gt, .int .i64 d.k] 60) = W at *
          have d0 := hk0.cell 0 rfl
          have HB0 := Lib.hid hb0
          clear hb0 hk0
          go_wp2_with (go_at_call 34; refine (C34 _).mono ?_; rintro e4 w4 ⟨rfl, rfl⟩)
          clear hx e128 hxl
          go_loopw [13, 12] (fun i v wr => SevS s i v ∧ wr = W) (fun i _ _ => s.size - (intOf i).toNat)
          case atStart => exact ⟨⟨0, 0, Nat.zero_le _, by omega, rfl, rfl, by decide, rfl⟩, rfl⟩
          case round =>
            obtain ⟨⟨k, u, hk, hk9, rfl, rfl, hul, hsv⟩, rfl⟩ := hrel
            by_cases hlt : k < s.size
            · have hlti : (k : Int) < s.size := by omega
              have hkL : k < s.data.toList.length := by omega
              obtain ⟨b, hb⟩ : ∃ b, s.data.toList[k]'hkL = b := ⟨_, rfl⟩
              have hsb : s[k]'hlt = b := hb
              have hbl := b.toNat_lt
              have hdrop : s.data.toList.drop k = b :: s.data.toList.drop (k + 1) := by rw [List.drop_eq_getElem_cons hkL, hb]
              have hsv2 := hsv.out
              rw [hdrop] at hsv2
              by_cases h9 : k = 9
              · subst h9
                have HE3 : Hid (numberR chrP d s.data.toList = .error 5) := by show _ = _; rw [HE2.out, ← hsv2]; rfl
                clear hsv2 hdrop hb
                go_wp2
                go_ret3
                exact NumW.bad HE3 (by decide) HB0.out
              · have HK9 : Hid (k + 1 ≤ 9) := by show _ ≤ _; omega
                have h9i : ((k : Int) == 9) = false := by rw [beq_eq_false_iff_ne]; omega
                have hp := pow9 (k + 1) (by omega)
                have hp2 : 128 ^ (k + 1) = 128 ^ k * 128 := Nat.pow_succ ..
                have hu2 : u * 128 + b.toNat % 128 < 128 ^ (k + 1) := by rw [hp2]; omega
                have hub : u * 128 + b.toNat % 128 < 9223372036854775808 := by omega
                have hui : (u : Int) ≤ 72057594037927935 := by omega
                obtain ⟨q, hq⟩ : ∃ q, b.toNat % 128 = q := ⟨_, rfl⟩
                have hbm : (b.toNat : Int).tmod 128 = (q : Int) := by rw [Int.tmod_eq_emod_of_nonneg (by omega)]; omega
                have hq128 : q < 128 := by omega
                have hqi : (q : Int) < 128 := by omega
                have hbw : IntKind.i64.wrap (b.toNat : Int) = b.toNat := IntWalk.i64_in _ (by omega)
                have hst : sevR (9 - k) k u (b :: s.data.toList.drop (k + 1)) = if b.toNat < 128 then .ok ((u * 128 + b.toNat % 128 : Nat), k + 1) else sevR (9 - (k + 1)) (k + 1) (u * 128 + b.toNat % 128) (s.data.toList.drop (k + 1)) := by
                  rw [show 9 - k = (9 - (k + 1)) + 1 by omega]; rfl
                rw [hst, hq] at hsv2
                rw [hq] at hu2 hub
                have HC : Hid ((u : Int) * 128 + q = ((u * 128 + q : Nat) : Int)) := by show _ = _; omega
                by_cases h128 : b.toNat < 128
                · have h128i : (b.toNat : Int) < 128 := by omega
                  rw [if_pos h128] at hsv2
                  have HE3 : Hid (numberR chrP d s.data.toList = .ok ((u * 128 + q : Nat), k + 1)) := by show _ = _; rw [HE2.out, ← hsv2]
                  clear hsv2 hdrop hb hst hp hp2 hu2 hq h128 h9
                  go_wp2
                  go_ret3
                  rw [HC.out]
                  exact NumW.good HE3 HB0.out
                · have h128i : (128 : Int) ≤ b.toNat := by omega
                  rw [if_neg h128] at hsv2
                  have HSV := Lib.hid hsv2
                  clear hsv2 hdrop hb hst hp hp2 hq h128 h9
                  go_wp2
                  go_roundw
                  case rel => exact ⟨⟨k + 1, u * 128 + q, by omega, HK9.out, by go_num, congrArg (Value.int .i64) HC.out, hu2, HSV⟩, by first | rfl | trivial⟩
                  case measure => simp [intOf]; omega
            · obtain rfl : s.size = k := by omega
              have hsv2 := hsv.out
              rw [List.drop_of_length_le (by omega)] at hsv2
              have HE3 : Hid (numberR chrP d s.data.toList = .error 14) := by
                show _ = _; rw [HE2.out, ← hsv2]; cases 9 - s.size <;> rfl
              clear hsv2 hlt
              go_wp2
              go_ret3
              exact NumW.bad HE3 (by decide) HB0.out
end Go.Proofs.YtmbnckmhngijdaaGreatDoor
