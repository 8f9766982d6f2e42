/- Contract of the reference's whole. -/
import Derived.Test.YtmbnckmhngijdaaGreatDoorSA
import Derived.Test.YtmbnckmhngijdaaGreatDoorRD
namespace Go.Proofs.YtmbnckmhngijdaaGreatDoor
open Go Go.RowKit

/-- []byte(s) -/
theorem conv_sb (W : World) (s : ByteArray) (hs : s.size ≤ 100000000) : ∃ cap W', (convert 9 72 (.string s)).run Tryz.prog W = .ok (.slice (some ⟨W.heap.size, 0, none⟩) s.size cap) W' ∧ Below W.heap.size W W' ∧ RdV W' (.slice (some ⟨W.heap.size, 0, none⟩) s.size cap) s.data.toList ∧
    W'.heap.size = W.heap.size + 1 ∧ s.size ≤ cap ∧ cap ≤ maxLen ∧ ∃ cur f, W'.heap[W.heap.size]? = some (.cells cur 5 f) ∧ cur.size ≤ f.1 ∧ cur.size = cap ∧ cur.toList.take s.size = c8 s.data.toList := by
  have hsl : s.data.toList.length = s.size := rfl
  have hge := grownCap_ge W s.size 0 5
  have hcm : grownCap W s.size 0 5 ≤ maxLen := grownCap_le_maxLen W s.size 0 5 (by unfold maxLen; omega)
  have hz : (Lib.bytesCells W 5 s).size = grownCap W s.size 0 5 := by
    have : s.data.size = s.size := rfl
    simp [Lib.bytesCells]; omega
  refine ⟨_, _, Lib.run_convert_string_bytes W 9 72 5 s Tryz.underlying9 Tryz.underlying72 Tryz.underlying5, Lib.bytesWorld_below W 5 s, .inr ⟨W.heap.size, _, rfl, hge, hcm, by rw [Lib.bytesWorld_size]; omega, fun k x hx => ?_⟩, Lib.bytesWorld_size W 5 s, hge, hcm, _, _, Lib.bytesWorld_at_new W 5 s, Nat.le_refl _, hz, ?_⟩
  · have hk := (List.getElem?_eq_some_iff.1 hx).1
    rw [Lib.bytesWorld_cell W 5 s k (by omega)]
    rw [List.getD_eq_getElem?_getD, hx]; rfl
  · have hl : (c8 s.data.toList).length = s.size := by simp
    rw [show (Lib.bytesCells W 5 s).toList = c8 s.data.toList ++ List.replicate (grownCap W s.size 0 5 - s.size) (.int .u8 0) by simp [Lib.bytesCells, c8], ← hl]
    exact List.take_left
def FixW (r : Except Nat Int) (w : World) (e : Ending) (w' : World) : Prop :=
  Below w.heap.size w w' ∧
  match r with
  | .error x => e = .returned (.tuple #[.int .i64 0, .int .i64 x]) ∧ x ≠ 0
  | .ok v => e = .returned (.tuple #[.int .i64 v, .int .i64 0])
theorem FixW.bad {r : Except Nat Int} {w w' : World} {x : Nat} (h : Hid (r = .error x)) (hx : x ≠ 0) (hb : Below w.heap.size w w') : FixW r w (.returned (.tuple #[.int .i64 0, .int .i64 x])) w' := by
  unfold FixW; rw [h.out]; exact ⟨hb, rfl, hx⟩
theorem FixW.good {r : Except Nat Int} {w w' : World} {v : Int} (h : Hid (r = .ok v)) (hb : Below w.heap.size w w') : FixW r w (.returned (.tuple #[.int .i64 v, .int .i64 0])) w' := by
  unfold FixW; rw [h.out]; exact ⟨hb, rfl⟩
theorem whole_cases {c : UInt8} (h : 0 < sizeC c) : (c = 81 ∧ sizeC c = 8 ∧ signC c = false) ∨ (c ≠ 81 ∧ signC c = false ∧ (sizeC c = 1 ∨ sizeC c = 2 ∨ sizeC c = 4)) ∨ (c ≠ 81 ∧ signC c = true ∧ (sizeC c = 1 ∨ sizeC c = 2 ∨ sizeC c = 4 ∨ sizeC c = 8)) := by
  have hn : numC c = true := by unfold numC; simp [h]
  rcases num_cases hn with rfl | rfl | rfl | rfl | rfl | rfl | rfl | rfl | rfl | rfl | rfl | rfl
  all_goals first | exact absurd h (by decide) | decide
def turnedIf (g : Bool) (l : List UInt8) : List UInt8 := if g then l else l.reverse
theorem fixV_turned (g : Bool) (l : List UInt8) : fixV g l = beV (turnedIf g l) 0 := by unfold fixV turnedIf; cases g <;> rfl
theorem turnedIf_length (g : Bool) (l : List UInt8) : (turnedIf g l).length = l.length := by unfold turnedIf; cases g <;> simp
def WhS (l : List UInt8) (w1 : World) (i b : Value) (wr : World) : Prop :=
  ∃ (k u : Nat), k ≤ l.length ∧ i = .int .i64 k ∧ b = .int .u64 u ∧ Hid (u = beV (l.take k) 0) ∧ wr = w1
theorem beV_head (x : UInt8) (r : List UInt8) : beV (x :: r) 0 = x.toNat * 256 ^ r.length + beV r 0 := by
  have h2 : beV (x :: r) 0 = beV r x.toNat := by show beV r (0 * 256 + x.toNat) = _; rw [Nat.zero_mul, Nat.zero_add]
  rw [h2, beV_acc]
set_option maxRecDepth 100000 in
set_option maxHeartbeats 4000000 in
theorem t48 (d : Dir) (s : ByteArray) (w : World) (hs : s.size = sizeC d.c) (hp : 0 < sizeC d.c) :
    Calls Tryz.prog 48 #[.agg #[.int .u8 d.c.toNat, .bool d.gt, .int .i64 d.k], .string s] w (FixW (fixedR d s.data.toList) w) := by
  have h8 := sizeC_le d.c
  have hs8 : s.size ≤ 8 := by omega
  have hsi : (s.size : Int) ≤ 8 := by omega
  have hsl : s.data.toList.length = s.size := rfl
  have HCS := Lib.hid (whole_cases hp)
  have HSZ := Lib.hid hs
  have C40 := fun W => t40 d.c W
  have hk0 := Blk.new w #[.int .u8 d.c.toNat, .bool d.gt, .int .i64 d.k] 60
  have hb0 := bSelf w (.cells #[.int .u8 d.c.toNat, .bool d.gt, .int .i64 d.k] 60)
  have HFX : Hid (fixedR d s.data.toList = fixE (signC d.c) d.great s.data.toList) := fixedR_E d _
  have HGR : Hid (d.great = (d.gt || d.c == 110 || d.c == 78)) := rfl
  clear hs hp h8
  go_enter Tryz.func48, Tryz.ntmps48
  go_upto_region 1 with fail
  generalize w.alloc (.cells #[.int .u8 d.c.toNat, .bool d.gt, .int .i64 d.k] 60) = W at *
  obtain ⟨cap, W1, hcv, hb1, hrd, -⟩ := conv_sb W s (by omega)
  have HB1 := Lib.hid (bThen hb0 hb1)
  have HK1 := Lib.hid (blkDown hk0 hb1)
  have HRD := Lib.hid hrd
  obtain ⟨g, hg⟩ : ∃ g, W.heap.size = g := ⟨_, rfl⟩
  rw [hg] at hcv HRD
  clear hb0 hk0 hb1 hrd hg
  have d0 := HK1.out.cell 0 rfl
  have d1 := HK1.out.cell 1 rfl
  obtain ⟨gt, hgt⟩ : ∃ gt, d.gt = gt := ⟨_, rfl⟩
  obtain ⟨sg, hsg⟩ : ∃ sg, signC d.c = sg := ⟨_, rfl⟩
  rw [hgt] at d1 HGR
  rw [hsg] at C40 HFX HCS
  clear hgt
  cases gt with
  | true =>
    have hc : True := trivial
    have HGT : Hid (d.great = true) := by show _ = _; rw [HGR.out]; simp
    obtain ⟨l, hl⟩ : ∃ l, turnedIf d.great s.data.toList = l := ⟨_, rfl⟩
    have HFV : Hid (fixV d.great s.data.toList = beV l 0) := by show _ = _; rw [fixV_turned, hl]
    have HLL : Hid (l.length = s.size) := by show _ = _; rw [← hl, turnedIf_length]; rfl
    have HRV : Hid (RdV W1 (.slice (some ⟨g, 0, none⟩) s.size cap) l) := by show RdV _ _ _; rw [← hl, HGT.out]; exact HRD.out
    rw [show s.size = l.length from HLL.out.symm] at hcv HRV
    clear hl hc HRD
    have HKX := HK1
    have HBX := HB1
    go_upto_region 4 with fail
    generalize W1 = WX at *
    have d0 := (HKX.out).cell 0 rfl
    have hll := HLL.out
    rcases id (HRV.out) with ⟨_, h0⟩ | ⟨gl, cl, hsl2, -, -, -, hrd⟩
    · exact absurd h0 (by intro h; rw [h] at hll; simp at hll; rcases HCS.out with h | h | h <;> (have := HSZ.out; omega))
    first
      | (simp only [Value.slice.injEq, Option.some.injEq, Addr.mk.injEq, and_true, true_and] at hsl2; obtain ⟨rfl, rfl⟩ := hsl2)
      | (simp only [Value.slice.injEq] at hsl2; obtain ⟨rfl, _, rfl⟩ := hsl2)
    have HRDL := Lib.hid hrd
    have HL8 : Hid (l.length ≤ 8) := by show _ ≤ _; omega
    clear hrd hll hsl hs8 hsi
    go_wp2_with fail
    go_loopw [8, 7] (fun i u wr => WhS l WX i u wr) (fun i _ _ => l.length - (intOf i).toNat)
    case atStart => exact ⟨0, 0, Nat.zero_le _, rfl, rfl, rfl, rfl⟩
    case round =>
      obtain ⟨k, u, hk, rfl, rfl, hv, rfl⟩ := hrel
      have hl8 := HL8.out
      by_cases hlt : k < l.length
      · have hlti : (k : Int) < l.length := by omega
        have hli : (l.length : Int) ≤ 8 := by omega
        obtain ⟨x, hx⟩ : ∃ x, l[k]'hlt = x := ⟨_, rfl⟩
        have hcell := HRDL.out k x (by rw [List.getElem?_eq_getElem hlt, hx])
        have hxl := x.toNat_lt
        have htk : l.take (k + 1) = l.take k ++ [x] := by rw [List.take_succ_eq_append_getElem hlt, hx]
        have hul : u < 256 ^ k := by
          have := beV_lt (l.take k)
          rw [← hv.out, List.length_take, Nat.min_eq_left (by omega)] at this
          exact this
        have hp7 : 256 ^ k ≤ 72057594037927936 := Nat.le_trans (Nat.pow_le_pow_right (by omega) (show k ≤ 7 by omega)) (by decide)
        have hu8 : (u : Int) < 72057594037927936 := by omega
        have hxw : IntKind.u64.wrap (x.toNat : Int) = x.toNat := by rw [IntKind.wrap_u64]; omega
        have HV2 : Hid (u * 256 + x.toNat = beV (l.take (k + 1)) 0) := by show _ = _; rw [htk, beV_snoc, ← hv.out]
        have HC : Hid ((u : Int) * 256 + x.toNat = ((u * 256 + x.toNat : Nat) : Int)) := by show _ = _; omega
        clear hx htk hul hp7
        go_wp2
        go_roundw
        case rel => exact ⟨k + 1, u * 256 + x.toNat, by omega, by go_num, congrArg (Value.int .u64) HC.out, HV2, rfl⟩
        case measure => simp [intOf]; omega
      · obtain rfl : l.length = k := by omega
        have hvv := hv.out
        rw [List.take_length] at hvv
        have hul : u < 256 ^ l.length := by
          have := beV_lt l
          rw [← hvv] at this
          exact this
        have HV : Hid (fixV d.great s.data.toList = u) := by show _ = _; rw [HFV.out, hvv]
        have hcs := HCS.out
        have hsz := HSZ.out
        rw [← hsz, ← HLL.out] at hcs
        rcases hcs with ⟨h81, h8, h0⟩ | ⟨h81, h0, h8⟩ | ⟨h81, h0, h8⟩
        · have hu64 : u < 18446744073709551616 := by rw [h8] at hul; exact hul
          have hui : (u : Int) < 18446744073709551616 := by omega
          have e81 := u8_eq (n := 81) (k := 81) rfl h81
          rw [h0] at C40 HFX
          clear hul hvv hlt h81 hsz h8
          by_cases hbig : u < 9223372036854775808
          · have hbi : (u : Int) ≤ 9223372036854775807 := by omega
            have hw64 : wrap64 (u : Int) = u := by unfold wrap64; omega
            have HE : Hid (fixedR d s.data.toList = .ok (u : Int)) := by show _ = _; rw [HFX.out]; unfold fixE; rw [HV.out, if_neg (by decide), if_pos hbig]
            clear hbig hui hu64
            go_wp2_with (go_at_call 40; refine (C40 _).mono ?_; rintro e4 w4 ⟨rfl, rfl⟩)
            go_ret2
            exact FixW.good HE HBX.out
          · have hbi : (9223372036854775807 : Int) < u := by omega
            have HE : Hid (fixedR d s.data.toList = .error 5) := by show _ = _; rw [HFX.out]; unfold fixE; rw [HV.out, if_neg (by decide), if_neg hbig]
            clear hbig
            go_wp2_with (go_at_call 40; refine (C40 _).mono ?_; rintro e4 w4 ⟨rfl, rfl⟩)
            go_ret2
            exact FixW.bad HE (by decide) HBX.out
        · have hu32 : u < 4294967296 := by rcases h8 with h8 | h8 | h8 <;> (rw [h8] at hul; simp at hul; omega)
          have hui : (u : Int) < 4294967296 := by omega
          have e81 := u8_ne (n := 81) (k := 81) rfl h81
          have hw64 : wrap64 (u : Int) = u := by unfold wrap64; omega
          rw [h0] at C40 HFX
          have HE : Hid (fixedR d s.data.toList = .ok (u : Int)) := by show _ = _; rw [HFX.out]; unfold fixE; rw [HV.out, if_neg (by decide), if_pos (by omega)]
          clear hul hvv hlt h81 hsz h8
          go_wp2_with (go_at_call 40; refine (C40 _).mono ?_; rintro e4 w4 ⟨rfl, rfl⟩)
          go_ret2
          exact FixW.good HE HBX.out
        · have e81 := u8_ne (n := 81) (k := 81) rfl h81
          rw [h0] at C40 HFX
          obtain ⟨x0, l', hl'⟩ : ∃ x0 l', l = x0 :: l' := by
            cases l with
            | nil => simp at h8
            | cons x0 l' => exact ⟨x0, l', rfl⟩
          have hcell := HRDL.out 0 x0 (by rw [hl']; rfl)
          have hxl := x0.toNat_lt
          have hbv : u = x0.toNat * 256 ^ l'.length + beV l' 0 := by rw [hvv, hl', beV_head]
          have hb' := beV_lt l'
          have hl1 : l'.length + 1 = l.length := by rw [hl']; rfl
          clear hl' hlt h81
          rcases h8 with h8 | h8 | h8 | h8
          · have hn' : l'.length = 0 := by omega
            rw [hn'] at hbv hb'
            have hln : (s.data.toList).length = 1 := by rw [show s.data.toList.length = s.size from rfl, ← HLL.out, h8]
            have hu8 : u < 256 := by rw [h8] at hul; exact hul
            have hui : (u : Int) < 256 := by omega
            simp only [Nat.pow_zero, Nat.mul_one] at hbv hb'
            by_cases hx0 : x0.toNat < 128
            · have hx0i : (x0.toNat : Int) < 128 := by omega
              have hux : u < 128 := by omega
              have hw64 : wrap64 (u : Int) = u := by unfold wrap64; omega
              have HE : Hid (fixedR d s.data.toList = .ok (u : Int)) := by show _ = _; rw [HFX.out]; unfold fixE; rw [HV.out, hln, if_pos rfl, if_neg (by simp; omega)]
              rw [h8]
              clear hul hvv hbv hb' hn' hl1 hsz h8 hln hx0 hui hux hu8
              go_wp2_with (go_at_call 40; refine (C40 _).mono ?_; rintro e4 w4 ⟨rfl, rfl⟩)
              go_ret2
              exact FixW.good HE HBX.out
            · have hx0i : (128 : Int) ≤ x0.toNat := by omega
              have hux : 128 ≤ u := by omega
              have hw64 : wrap64 (u : Int) = u := by unfold wrap64; omega
              have HE : Hid (fixedR d s.data.toList = .ok ((u : Int) - 256)) := by show _ = _; rw [HFX.out]; unfold fixE; rw [HV.out, hln, if_pos rfl, if_pos (by simp; omega)]; rfl
              rw [h8]
              clear hul hvv hbv hb' hn' hl1 hsz h8 hln hx0
              go_wp2_with (go_at_call 40; refine (C40 _).mono ?_; rintro e4 w4 ⟨rfl, rfl⟩)
              go_ret2
              exact FixW.good HE HBX.out
          · have hn' : l'.length = 1 := by omega
            rw [hn'] at hbv hb'
            have hln : (s.data.toList).length = 2 := by rw [show s.data.toList.length = s.size from rfl, ← HLL.out, h8]
            have hu8 : u < 65536 := by rw [h8] at hul; exact hul
            have hui : (u : Int) < 65536 := by omega
            simp only [Nat.reducePow] at hbv hb'
            by_cases hx0 : x0.toNat < 128
            · have hx0i : (x0.toNat : Int) < 128 := by omega
              have hux : u < 32768 := by omega
              have hw64 : wrap64 (u : Int) = u := by unfold wrap64; omega
              have HE : Hid (fixedR d s.data.toList = .ok (u : Int)) := by show _ = _; rw [HFX.out]; unfold fixE; rw [HV.out, hln, if_pos rfl, if_neg (by simp; omega)]
              rw [h8]
              clear hul hvv hbv hb' hn' hl1 hsz h8 hln hx0 hui hux hu8
              go_wp2_with (go_at_call 40; refine (C40 _).mono ?_; rintro e4 w4 ⟨rfl, rfl⟩)
              go_ret2
              exact FixW.good HE HBX.out
            · have hx0i : (128 : Int) ≤ x0.toNat := by omega
              have hux : 32768 ≤ u := by omega
              have hw64 : wrap64 (u : Int) = u := by unfold wrap64; omega
              have HE : Hid (fixedR d s.data.toList = .ok ((u : Int) - 65536)) := by show _ = _; rw [HFX.out]; unfold fixE; rw [HV.out, hln, if_pos rfl, if_pos (by simp; omega)]; rfl
              rw [h8]
              clear hul hvv hbv hb' hn' hl1 hsz h8 hln hx0
              go_wp2_with (go_at_call 40; refine (C40 _).mono ?_; rintro e4 w4 ⟨rfl, rfl⟩)
              go_ret2
              exact FixW.good HE HBX.out
          · have hn' : l'.length = 3 := by omega
            rw [hn'] at hbv hb'
            have hln : (s.data.toList).length = 4 := by rw [show s.data.toList.length = s.size from rfl, ← HLL.out, h8]
            have hu8 : u < 4294967296 := by rw [h8] at hul; exact hul
            have hui : (u : Int) < 4294967296 := by omega
            simp only [Nat.reducePow] at hbv hb'
            by_cases hx0 : x0.toNat < 128
            · have hx0i : (x0.toNat : Int) < 128 := by omega
              have hux : u < 2147483648 := by omega
              have hw64 : wrap64 (u : Int) = u := by unfold wrap64; omega
              have HE : Hid (fixedR d s.data.toList = .ok (u : Int)) := by show _ = _; rw [HFX.out]; unfold fixE; rw [HV.out, hln, if_pos rfl, if_neg (by simp; omega)]
              rw [h8]
              clear hul hvv hbv hb' hn' hl1 hsz h8 hln hx0 hui hux hu8
              go_wp2_with (go_at_call 40; refine (C40 _).mono ?_; rintro e4 w4 ⟨rfl, rfl⟩)
              go_ret2
              exact FixW.good HE HBX.out
            · have hx0i : (128 : Int) ≤ x0.toNat := by omega
              have hux : 2147483648 ≤ u := by omega
              have hw64 : wrap64 (u : Int) = u := by unfold wrap64; omega
              have HE : Hid (fixedR d s.data.toList = .ok ((u : Int) - 4294967296)) := by show _ = _; rw [HFX.out]; unfold fixE; rw [HV.out, hln, if_pos rfl, if_pos (by simp; omega)]; rfl
              rw [h8]
              clear hul hvv hbv hb' hn' hl1 hsz h8 hln hx0
              go_wp2_with (go_at_call 40; refine (C40 _).mono ?_; rintro e4 w4 ⟨rfl, rfl⟩)
              go_ret2
              exact FixW.good HE HBX.out
          · have hn' : l'.length = 7 := by omega
            rw [hn'] at hbv hb'
            have hln : (s.data.toList).length = 8 := by rw [show s.data.toList.length = s.size from rfl, ← HLL.out, h8]
            have hu8 : u < 18446744073709551616 := by rw [h8] at hul; exact hul
            have hui : (u : Int) < 18446744073709551616 := by omega
            simp only [Nat.reducePow] at hbv hb'
            by_cases hx0 : x0.toNat < 128
            · have hx0i : (x0.toNat : Int) < 128 := by omega
              have hux : u < 9223372036854775808 := by omega
              have hw64 : wrap64 (u : Int) = u := by unfold wrap64; omega
              have HE : Hid (fixedR d s.data.toList = .ok (u : Int)) := by show _ = _; rw [HFX.out]; unfold fixE; rw [HV.out, hln, if_pos rfl, if_neg (by simp; omega)]
              rw [h8]
              clear hul hvv hbv hb' hn' hl1 hsz h8 hln hx0 hui hux hu8
              go_wp2_with (go_at_call 40; refine (C40 _).mono ?_; rintro e4 w4 ⟨rfl, rfl⟩)
              go_ret2
              exact FixW.good HE HBX.out
            · have hx0i : (128 : Int) ≤ x0.toNat := by omega
              have hux : 9223372036854775808 ≤ u := by omega
              have hw64 : (u : Int) - 18446744073709551616 = wrap64 (u : Int) := by unfold wrap64; omega
              have HE : Hid (fixedR d s.data.toList = .ok (wrap64 (u : Int))) := by show _ = _; rw [HFX.out, ← hw64]; unfold fixE; rw [HV.out, hln, if_pos rfl, if_pos (by simp; omega)]; rfl
              clear hw64
              rw [h8]
              clear hul hvv hbv hb' hn' hl1 hsz h8 hln hx0
              go_wp2_with (go_at_call 40; refine (C40 _).mono ?_; rintro e4 w4 ⟨rfl, rfl⟩)
              go_ret2
              exact FixW.good HE HBX.out
  | false =>
    by_cases h110 : d.c = 110
    · have e110 := u8_eq (n := 110) (k := 110) rfl h110
      have n110 : ((d.c.toNat : Int) != 110) = false := by simp only [bne, e110, Bool.not_true]
      have hc : (d.c == 110) = true := by rw [h110]; rfl
      clear h110
      have HGT : Hid (d.great = true) := by show _ = _; rw [HGR.out]; simp [hc]
      obtain ⟨l, hl⟩ : ∃ l, turnedIf d.great s.data.toList = l := ⟨_, rfl⟩
      have HFV : Hid (fixV d.great s.data.toList = beV l 0) := by show _ = _; rw [fixV_turned, hl]
      have HLL : Hid (l.length = s.size) := by show _ = _; rw [← hl, turnedIf_length]; rfl
      have HRV : Hid (RdV W1 (.slice (some ⟨g, 0, none⟩) s.size cap) l) := by show RdV _ _ _; rw [← hl, HGT.out]; exact HRD.out
      rw [show s.size = l.length from HLL.out.symm] at hcv HRV
      clear hl hc HRD
      have HKX := HK1
      have HBX := HB1
      go_upto_region 4 with fail
      generalize W1 = WX at *
      have d0 := (HKX.out).cell 0 rfl
      have hll := HLL.out
      rcases id (HRV.out) with ⟨_, h0⟩ | ⟨gl, cl, hsl2, -, -, -, hrd⟩
      · exact absurd h0 (by intro h; rw [h] at hll; simp at hll; rcases HCS.out with h | h | h <;> (have := HSZ.out; omega))
      first
        | (simp only [Value.slice.injEq, Option.some.injEq, Addr.mk.injEq, and_true, true_and] at hsl2; obtain ⟨rfl, rfl⟩ := hsl2)
        | (simp only [Value.slice.injEq] at hsl2; obtain ⟨rfl, _, rfl⟩ := hsl2)
      have HRDL := Lib.hid hrd
      have HL8 : Hid (l.length ≤ 8) := by show _ ≤ _; omega
      clear hrd hll hsl hs8 hsi
      go_wp2_with fail
      go_loopw [8, 7] (fun i u wr => WhS l WX i u wr) (fun i _ _ => l.length - (intOf i).toNat)
      case atStart => exact ⟨0, 0, Nat.zero_le _, rfl, rfl, rfl, rfl⟩
      case round =>
        obtain ⟨k, u, hk, rfl, rfl, hv, rfl⟩ := hrel
        have hl8 := HL8.out
        by_cases hlt : k < l.length
        · have hlti : (k : Int) < l.length := by omega
          have hli : (l.length : Int) ≤ 8 := by omega
          obtain ⟨x, hx⟩ : ∃ x, l[k]'hlt = x := ⟨_, rfl⟩
          have hcell := HRDL.out k x (by rw [List.getElem?_eq_getElem hlt, hx])
          have hxl := x.toNat_lt
          have htk : l.take (k + 1) = l.take k ++ [x] := by rw [List.take_succ_eq_append_getElem hlt, hx]
          have hul : u < 256 ^ k := by
            have := beV_lt (l.take k)
            rw [← hv.out, List.length_take, Nat.min_eq_left (by omega)] at this
            exact this
          have hp7 : 256 ^ k ≤ 72057594037927936 := Nat.le_trans (Nat.pow_le_pow_right (by omega) (show k ≤ 7 by omega)) (by decide)
          have hu8 : (u : Int) < 72057594037927936 := by omega
          have hxw : IntKind.u64.wrap (x.toNat : Int) = x.toNat := by rw [IntKind.wrap_u64]; omega
          have HV2 : Hid (u * 256 + x.toNat = beV (l.take (k + 1)) 0) := by show _ = _; rw [htk, beV_snoc, ← hv.out]
          have HC : Hid ((u : Int) * 256 + x.toNat = ((u * 256 + x.toNat : Nat) : Int)) := by show _ = _; omega
          clear hx htk hul hp7
          go_wp2
          go_roundw
          case rel => exact ⟨k + 1, u * 256 + x.toNat, by omega, by go_num, congrArg (Value.int .u64) HC.out, HV2, rfl⟩
          case measure => simp [intOf]; omega
        · obtain rfl : l.length = k := by omega
          have hvv := hv.out
          rw [List.take_length] at hvv
          have hul : u < 256 ^ l.length := by
            have := beV_lt l
            rw [← hvv] at this
            exact this
          have HV : Hid (fixV d.great s.data.toList = u) := by show _ = _; rw [HFV.out, hvv]
          have hcs := HCS.out
          have hsz := HSZ.out
          rw [← hsz, ← HLL.out] at hcs
          rcases hcs with ⟨h81, h8, h0⟩ | ⟨h81, h0, h8⟩ | ⟨h81, h0, h8⟩
          · have hu64 : u < 18446744073709551616 := by rw [h8] at hul; exact hul
            have hui : (u : Int) < 18446744073709551616 := by omega
            have e81 := u8_eq (n := 81) (k := 81) rfl h81
            rw [h0] at C40 HFX
            clear hul hvv hlt h81 hsz h8
            by_cases hbig : u < 9223372036854775808
            · have hbi : (u : Int) ≤ 9223372036854775807 := by omega
              have hw64 : wrap64 (u : Int) = u := by unfold wrap64; omega
              have HE : Hid (fixedR d s.data.toList = .ok (u : Int)) := by show _ = _; rw [HFX.out]; unfold fixE; rw [HV.out, if_neg (by decide), if_pos hbig]
              clear hbig hui hu64
              go_wp2_with (go_at_call 40; refine (C40 _).mono ?_; rintro e4 w4 ⟨rfl, rfl⟩)
              go_ret2
              exact FixW.good HE HBX.out
            · have hbi : (9223372036854775807 : Int) < u := by omega
              have HE : Hid (fixedR d s.data.toList = .error 5) := by show _ = _; rw [HFX.out]; unfold fixE; rw [HV.out, if_neg (by decide), if_neg hbig]
              clear hbig
              go_wp2_with (go_at_call 40; refine (C40 _).mono ?_; rintro e4 w4 ⟨rfl, rfl⟩)
              go_ret2
              exact FixW.bad HE (by decide) HBX.out
          · have hu32 : u < 4294967296 := by rcases h8 with h8 | h8 | h8 <;> (rw [h8] at hul; simp at hul; omega)
            have hui : (u : Int) < 4294967296 := by omega
            have e81 := u8_ne (n := 81) (k := 81) rfl h81
            have hw64 : wrap64 (u : Int) = u := by unfold wrap64; omega
            rw [h0] at C40 HFX
            have HE : Hid (fixedR d s.data.toList = .ok (u : Int)) := by show _ = _; rw [HFX.out]; unfold fixE; rw [HV.out, if_neg (by decide), if_pos (by omega)]
            clear hul hvv hlt h81 hsz h8
            go_wp2_with (go_at_call 40; refine (C40 _).mono ?_; rintro e4 w4 ⟨rfl, rfl⟩)
            go_ret2
            exact FixW.good HE HBX.out
          · have e81 := u8_ne (n := 81) (k := 81) rfl h81
            rw [h0] at C40 HFX
            obtain ⟨x0, l', hl'⟩ : ∃ x0 l', l = x0 :: l' := by
              cases l with
              | nil => simp at h8
              | cons x0 l' => exact ⟨x0, l', rfl⟩
            have hcell := HRDL.out 0 x0 (by rw [hl']; rfl)
            have hxl := x0.toNat_lt
            have hbv : u = x0.toNat * 256 ^ l'.length + beV l' 0 := by rw [hvv, hl', beV_head]
            have hb' := beV_lt l'
            have hl1 : l'.length + 1 = l.length := by rw [hl']; rfl
            clear hl' hlt h81
            rcases h8 with h8 | h8 | h8 | h8
            · have hn' : l'.length = 0 := by omega
              rw [hn'] at hbv hb'
              have hln : (s.data.toList).length = 1 := by rw [show s.data.toList.length = s.size from rfl, ← HLL.out, h8]
              have hu8 : u < 256 := by rw [h8] at hul; exact hul
              have hui : (u : Int) < 256 := by omega
              simp only [Nat.pow_zero, Nat.mul_one] at hbv hb'
              by_cases hx0 : x0.toNat < 128
              · have hx0i : (x0.toNat : Int) < 128 := by omega
                have hux : u < 128 := by omega
                have hw64 : wrap64 (u : Int) = u := by unfold wrap64; omega
                have HE : Hid (fixedR d s.data.toList = .ok (u : Int)) := by show _ = _; rw [HFX.out]; unfold fixE; rw [HV.out, hln, if_pos rfl, if_neg (by simp; omega)]
                rw [h8]
                clear hul hvv hbv hb' hn' hl1 hsz h8 hln hx0 hui hux hu8
                go_wp2_with (go_at_call 40; refine (C40 _).mono ?_; rintro e4 w4 ⟨rfl, rfl⟩)
                go_ret2
                exact FixW.good HE HBX.out
              · have hx0i : (128 : Int) ≤ x0.toNat := by omega
                have hux : 128 ≤ u := by omega
                have hw64 : wrap64 (u : Int) = u := by unfold wrap64; omega
                have HE : Hid (fixedR d s.data.toList = .ok ((u : Int) - 256)) := by show _ = _; rw [HFX.out]; unfold fixE; rw [HV.out, hln, if_pos rfl, if_pos (by simp; omega)]; rfl
                rw [h8]
                clear hul hvv hbv hb' hn' hl1 hsz h8 hln hx0
                go_wp2_with (go_at_call 40; refine (C40 _).mono ?_; rintro e4 w4 ⟨rfl, rfl⟩)
                go_ret2
                exact FixW.good HE HBX.out
            · have hn' : l'.length = 1 := by omega
              rw [hn'] at hbv hb'
              have hln : (s.data.toList).length = 2 := by rw [show s.data.toList.length = s.size from rfl, ← HLL.out, h8]
              have hu8 : u < 65536 := by rw [h8] at hul; exact hul
              have hui : (u : Int) < 65536 := by omega
              simp only [Nat.reducePow] at hbv hb'
              by_cases hx0 : x0.toNat < 128
              · have hx0i : (x0.toNat : Int) < 128 := by omega
                have hux : u < 32768 := by omega
                have hw64 : wrap64 (u : Int) = u := by unfold wrap64; omega
                have HE : Hid (fixedR d s.data.toList = .ok (u : Int)) := by show _ = _; rw [HFX.out]; unfold fixE; rw [HV.out, hln, if_pos rfl, if_neg (by simp; omega)]
                rw [h8]
                clear hul hvv hbv hb' hn' hl1 hsz h8 hln hx0 hui hux hu8
                go_wp2_with (go_at_call 40; refine (C40 _).mono ?_; rintro e4 w4 ⟨rfl, rfl⟩)
                go_ret2
                exact FixW.good HE HBX.out
              · have hx0i : (128 : Int) ≤ x0.toNat := by omega
                have hux : 32768 ≤ u := by omega
                have hw64 : wrap64 (u : Int) = u := by unfold wrap64; omega
                have HE : Hid (fixedR d s.data.toList = .ok ((u : Int) - 65536)) := by show _ = _; rw [HFX.out]; unfold fixE; rw [HV.out, hln, if_pos rfl, if_pos (by simp; omega)]; rfl
                rw [h8]
                clear hul hvv hbv hb' hn' hl1 hsz h8 hln hx0
                go_wp2_with (go_at_call 40; refine (C40 _).mono ?_; rintro e4 w4 ⟨rfl, rfl⟩)
                go_ret2
                exact FixW.good HE HBX.out
            · have hn' : l'.length = 3 := by omega
              rw [hn'] at hbv hb'
              have hln : (s.data.toList).length = 4 := by rw [show s.data.toList.length = s.size from rfl, ← HLL.out, h8]
              have hu8 : u < 4294967296 := by rw [h8] at hul; exact hul
              have hui : (u : Int) < 4294967296 := by omega
              simp only [Nat.reducePow] at hbv hb'
              by_cases hx0 : x0.toNat < 128
              · have hx0i : (x0.toNat : Int) < 128 := by omega
                have hux : u < 2147483648 := by omega
                have hw64 : wrap64 (u : Int) = u := by unfold wrap64; omega
                have HE : Hid (fixedR d s.data.toList = .ok (u : Int)) := by show _ = _; rw [HFX.out]; unfold fixE; rw [HV.out, hln, if_pos rfl, if_neg (by simp; omega)]
                rw [h8]
                clear hul hvv hbv hb' hn' hl1 hsz h8 hln hx0 hui hux hu8
                go_wp2_with (go_at_call 40; refine (C40 _).mono ?_; rintro e4 w4 ⟨rfl, rfl⟩)
                go_ret2
                exact FixW.good HE HBX.out
              · have hx0i : (128 : Int) ≤ x0.toNat := by omega
                have hux : 2147483648 ≤ u := by omega
                have hw64 : wrap64 (u : Int) = u := by unfold wrap64; omega
                have HE : Hid (fixedR d s.data.toList = .ok ((u : Int) - 4294967296)) := by show _ = _; rw [HFX.out]; unfold fixE; rw [HV.out, hln, if_pos rfl, if_pos (by simp; omega)]; rfl
                rw [h8]
                clear hul hvv hbv hb' hn' hl1 hsz h8 hln hx0
                go_wp2_with (go_at_call 40; refine (C40 _).mono ?_; rintro e4 w4 ⟨rfl, rfl⟩)
                go_ret2
                exact FixW.good HE HBX.out
            · have hn' : l'.length = 7 := by omega
              rw [hn'] at hbv hb'
              have hln : (s.data.toList).length = 8 := by rw [show s.data.toList.length = s.size from rfl, ← HLL.out, h8]
              have hu8 : u < 18446744073709551616 := by rw [h8] at hul; exact hul
              have hui : (u : Int) < 18446744073709551616 := by omega
              simp only [Nat.reducePow] at hbv hb'
              by_cases hx0 : x0.toNat < 128
              · have hx0i : (x0.toNat : Int) < 128 := by omega
                have hux : u < 9223372036854775808 := by omega
                have hw64 : wrap64 (u : Int) = u := by unfold wrap64; omega
                have HE : Hid (fixedR d s.data.toList = .ok (u : Int)) := by show _ = _; rw [HFX.out]; unfold fixE; rw [HV.out, hln, if_pos rfl, if_neg (by simp; omega)]
                rw [h8]
                clear hul hvv hbv hb' hn' hl1 hsz h8 hln hx0 hui hux hu8
                go_wp2_with (go_at_call 40; refine (C40 _).mono ?_; rintro e4 w4 ⟨rfl, rfl⟩)
                go_ret2
                exact FixW.good HE HBX.out
              · have hx0i : (128 : Int) ≤ x0.toNat := by omega
                have hux : 9223372036854775808 ≤ u := by omega
                have hw64 : (u : Int) - 18446744073709551616 = wrap64 (u : Int) := by unfold wrap64; omega
                have HE : Hid (fixedR d s.data.toList = .ok (wrap64 (u : Int))) := by show _ = _; rw [HFX.out, ← hw64]; unfold fixE; rw [HV.out, hln, if_pos rfl, if_pos (by simp; omega)]; rfl
                clear hw64
                rw [h8]
                clear hul hvv hbv hb' hn' hl1 hsz h8 hln hx0
                go_wp2_with (go_at_call 40; refine (C40 _).mono ?_; rintro e4 w4 ⟨rfl, rfl⟩)
                go_ret2
                exact FixW.good HE HBX.out
    have e110 := u8_ne (n := 110) (k := 110) rfl h110
    have n110 : ((d.c.toNat : Int) != 110) = true := by simp only [bne, e110, Bool.not_false]
    by_cases h78 : d.c = 78
    · have e78 := u8_eq (n := 78) (k := 78) rfl h78
      have n78 : ((d.c.toNat : Int) != 78) = false := by simp only [bne, e78, Bool.not_true]
      have hc : (d.c == 78) = true := by rw [h78]; rfl
      clear h110 h78
      have HGT : Hid (d.great = true) := by show _ = _; rw [HGR.out]; simp [hc]
      obtain ⟨l, hl⟩ : ∃ l, turnedIf d.great s.data.toList = l := ⟨_, rfl⟩
      have HFV : Hid (fixV d.great s.data.toList = beV l 0) := by show _ = _; rw [fixV_turned, hl]
      have HLL : Hid (l.length = s.size) := by show _ = _; rw [← hl, turnedIf_length]; rfl
      have HRV : Hid (RdV W1 (.slice (some ⟨g, 0, none⟩) s.size cap) l) := by show RdV _ _ _; rw [← hl, HGT.out]; exact HRD.out
      rw [show s.size = l.length from HLL.out.symm] at hcv HRV
      clear hl hc HRD
      have HKX := HK1
      have HBX := HB1
      go_upto_region 4 with fail
      generalize W1 = WX at *
      have d0 := (HKX.out).cell 0 rfl
      have hll := HLL.out
      rcases id (HRV.out) with ⟨_, h0⟩ | ⟨gl, cl, hsl2, -, -, -, hrd⟩
      · exact absurd h0 (by intro h; rw [h] at hll; simp at hll; rcases HCS.out with h | h | h <;> (have := HSZ.out; omega))
      first
        | (simp only [Value.slice.injEq, Option.some.injEq, Addr.mk.injEq, and_true, true_and] at hsl2; obtain ⟨rfl, rfl⟩ := hsl2)
        | (simp only [Value.slice.injEq] at hsl2; obtain ⟨rfl, _, rfl⟩ := hsl2)
      have HRDL := Lib.hid hrd
      have HL8 : Hid (l.length ≤ 8) := by show _ ≤ _; omega
      clear hrd hll hsl hs8 hsi
      go_wp2_with fail
      go_loopw [8, 7] (fun i u wr => WhS l WX i u wr) (fun i _ _ => l.length - (intOf i).toNat)
      case atStart => exact ⟨0, 0, Nat.zero_le _, rfl, rfl, rfl, rfl⟩
      case round =>
        obtain ⟨k, u, hk, rfl, rfl, hv, rfl⟩ := hrel
        have hl8 := HL8.out
        by_cases hlt : k < l.length
        · have hlti : (k : Int) < l.length := by omega
          have hli : (l.length : Int) ≤ 8 := by omega
          obtain ⟨x, hx⟩ : ∃ x, l[k]'hlt = x := ⟨_, rfl⟩
          have hcell := HRDL.out k x (by rw [List.getElem?_eq_getElem hlt, hx])
          have hxl := x.toNat_lt
          have htk : l.take (k + 1) = l.take k ++ [x] := by rw [List.take_succ_eq_append_getElem hlt, hx]
          have hul : u < 256 ^ k := by
            have := beV_lt (l.take k)
            rw [← hv.out, List.length_take, Nat.min_eq_left (by omega)] at this
            exact this
          have hp7 : 256 ^ k ≤ 72057594037927936 := Nat.le_trans (Nat.pow_le_pow_right (by omega) (show k ≤ 7 by omega)) (by decide)
          have hu8 : (u : Int) < 72057594037927936 := by omega
          have hxw : IntKind.u64.wrap (x.toNat : Int) = x.toNat := by rw [IntKind.wrap_u64]; omega
          have HV2 : Hid (u * 256 + x.toNat = beV (l.take (k + 1)) 0) := by show _ = _; rw [htk, beV_snoc, ← hv.out]
          have HC : Hid ((u : Int) * 256 + x.toNat = ((u * 256 + x.toNat : Nat) : Int)) := by show _ = _; omega
          clear hx htk hul hp7
          go_wp2
          go_roundw
          case rel => exact ⟨k + 1, u * 256 + x.toNat, by omega, by go_num, congrArg (Value.int .u64) HC.out, HV2, rfl⟩
          case measure => simp [intOf]; omega
        · obtain rfl : l.length = k := by omega
          have hvv := hv.out
          rw [List.take_length] at hvv
          have hul : u < 256 ^ l.length := by
            have := beV_lt l
            rw [← hvv] at this
            exact this
          have HV : Hid (fixV d.great s.data.toList = u) := by show _ = _; rw [HFV.out, hvv]
          have hcs := HCS.out
          have hsz := HSZ.out
          rw [← hsz, ← HLL.out] at hcs
          rcases hcs with ⟨h81, h8, h0⟩ | ⟨h81, h0, h8⟩ | ⟨h81, h0, h8⟩
          · have hu64 : u < 18446744073709551616 := by rw [h8] at hul; exact hul
            have hui : (u : Int) < 18446744073709551616 := by omega
            have e81 := u8_eq (n := 81) (k := 81) rfl h81
            rw [h0] at C40 HFX
            clear hul hvv hlt h81 hsz h8
            by_cases hbig : u < 9223372036854775808
            · have hbi : (u : Int) ≤ 9223372036854775807 := by omega
              have hw64 : wrap64 (u : Int) = u := by unfold wrap64; omega
              have HE : Hid (fixedR d s.data.toList = .ok (u : Int)) := by show _ = _; rw [HFX.out]; unfold fixE; rw [HV.out, if_neg (by decide), if_pos hbig]
              clear hbig hui hu64
              go_wp2_with (go_at_call 40; refine (C40 _).mono ?_; rintro e4 w4 ⟨rfl, rfl⟩)
              go_ret2
              exact FixW.good HE HBX.out
            · have hbi : (9223372036854775807 : Int) < u := by omega
              have HE : Hid (fixedR d s.data.toList = .error 5) := by show _ = _; rw [HFX.out]; unfold fixE; rw [HV.out, if_neg (by decide), if_neg hbig]
              clear hbig
              go_wp2_with (go_at_call 40; refine (C40 _).mono ?_; rintro e4 w4 ⟨rfl, rfl⟩)
              go_ret2
              exact FixW.bad HE (by decide) HBX.out
          · have hu32 : u < 4294967296 := by rcases h8 with h8 | h8 | h8 <;> (rw [h8] at hul; simp at hul; omega)
            have hui : (u : Int) < 4294967296 := by omega
            have e81 := u8_ne (n := 81) (k := 81) rfl h81
            have hw64 : wrap64 (u : Int) = u := by unfold wrap64; omega
            rw [h0] at C40 HFX
            have HE : Hid (fixedR d s.data.toList = .ok (u : Int)) := by show _ = _; rw [HFX.out]; unfold fixE; rw [HV.out, if_neg (by decide), if_pos (by omega)]
            clear hul hvv hlt h81 hsz h8
            go_wp2_with (go_at_call 40; refine (C40 _).mono ?_; rintro e4 w4 ⟨rfl, rfl⟩)
            go_ret2
            exact FixW.good HE HBX.out
          · have e81 := u8_ne (n := 81) (k := 81) rfl h81
            rw [h0] at C40 HFX
            obtain ⟨x0, l', hl'⟩ : ∃ x0 l', l = x0 :: l' := by
              cases l with
              | nil => simp at h8
              | cons x0 l' => exact ⟨x0, l', rfl⟩
            have hcell := HRDL.out 0 x0 (by rw [hl']; rfl)
            have hxl := x0.toNat_lt
            have hbv : u = x0.toNat * 256 ^ l'.length + beV l' 0 := by rw [hvv, hl', beV_head]
            have hb' := beV_lt l'
            have hl1 : l'.length + 1 = l.length := by rw [hl']; rfl
            clear hl' hlt h81
            rcases h8 with h8 | h8 | h8 | h8
            · have hn' : l'.length = 0 := by omega
              rw [hn'] at hbv hb'
              have hln : (s.data.toList).length = 1 := by rw [show s.data.toList.length = s.size from rfl, ← HLL.out, h8]
              have hu8 : u < 256 := by rw [h8] at hul; exact hul
              have hui : (u : Int) < 256 := by omega
              simp only [Nat.pow_zero, Nat.mul_one] at hbv hb'
              by_cases hx0 : x0.toNat < 128
              · have hx0i : (x0.toNat : Int) < 128 := by omega
                have hux : u < 128 := by omega
                have hw64 : wrap64 (u : Int) = u := by unfold wrap64; omega
                have HE : Hid (fixedR d s.data.toList = .ok (u : Int)) := by show _ = _; rw [HFX.out]; unfold fixE; rw [HV.out, hln, if_pos rfl, if_neg (by simp; omega)]
                rw [h8]
                clear hul hvv hbv hb' hn' hl1 hsz h8 hln hx0 hui hux hu8
                go_wp2_with (go_at_call 40; refine (C40 _).mono ?_; rintro e4 w4 ⟨rfl, rfl⟩)
                go_ret2
                exact FixW.good HE HBX.out
              · have hx0i : (128 : Int) ≤ x0.toNat := by omega
                have hux : 128 ≤ u := by omega
                have hw64 : wrap64 (u : Int) = u := by unfold wrap64; omega
                have HE : Hid (fixedR d s.data.toList = .ok ((u : Int) - 256)) := by show _ = _; rw [HFX.out]; unfold fixE; rw [HV.out, hln, if_pos rfl, if_pos (by simp; omega)]; rfl
                rw [h8]
                clear hul hvv hbv hb' hn' hl1 hsz h8 hln hx0
                go_wp2_with (go_at_call 40; refine (C40 _).mono ?_; rintro e4 w4 ⟨rfl, rfl⟩)
                go_ret2
                exact FixW.good HE HBX.out
            · have hn' : l'.length = 1 := by omega
              rw [hn'] at hbv hb'
              have hln : (s.data.toList).length = 2 := by rw [show s.data.toList.length = s.size from rfl, ← HLL.out, h8]
              have hu8 : u < 65536 := by rw [h8] at hul; exact hul
              have hui : (u : Int) < 65536 := by omega
              simp only [Nat.reducePow] at hbv hb'
              by_cases hx0 : x0.toNat < 128
              · have hx0i : (x0.toNat : Int) < 128 := by omega
                have hux : u < 32768 := by omega
                have hw64 : wrap64 (u : Int) = u := by unfold wrap64; omega
                have HE : Hid (fixedR d s.data.toList = .ok (u : Int)) := by show _ = _; rw [HFX.out]; unfold fixE; rw [HV.out, hln, if_pos rfl, if_neg (by simp; omega)]
                rw [h8]
                clear hul hvv hbv hb' hn' hl1 hsz h8 hln hx0 hui hux hu8
                go_wp2_with (go_at_call 40; refine (C40 _).mono ?_; rintro e4 w4 ⟨rfl, rfl⟩)
                go_ret2
                exact FixW.good HE HBX.out
              · have hx0i : (128 : Int) ≤ x0.toNat := by omega
                have hux : 32768 ≤ u := by omega
                have hw64 : wrap64 (u : Int) = u := by unfold wrap64; omega
                have HE : Hid (fixedR d s.data.toList = .ok ((u : Int) - 65536)) := by show _ = _; rw [HFX.out]; unfold fixE; rw [HV.out, hln, if_pos rfl, if_pos (by simp; omega)]; rfl
                rw [h8]
                clear hul hvv hbv hb' hn' hl1 hsz h8 hln hx0
                go_wp2_with (go_at_call 40; refine (C40 _).mono ?_; rintro e4 w4 ⟨rfl, rfl⟩)
                go_ret2
                exact FixW.good HE HBX.out
            · have hn' : l'.length = 3 := by omega
              rw [hn'] at hbv hb'
              have hln : (s.data.toList).length = 4 := by rw [show s.data.toList.length = s.size from rfl, ← HLL.out, h8]
              have hu8 : u < 4294967296 := by rw [h8] at hul; exact hul
              have hui : (u : Int) < 4294967296 := by omega
              simp only [Nat.reducePow] at hbv hb'
              by_cases hx0 : x0.toNat < 128
              · have hx0i : (x0.toNat : Int) < 128 := by omega
                have hux : u < 2147483648 := by omega
                have hw64 : wrap64 (u : Int) = u := by unfold wrap64; omega
                have HE : Hid (fixedR d s.data.toList = .ok (u : Int)) := by show _ = _; rw [HFX.out]; unfold fixE; rw [HV.out, hln, if_pos rfl, if_neg (by simp; omega)]
                rw [h8]
                clear hul hvv hbv hb' hn' hl1 hsz h8 hln hx0 hui hux hu8
                go_wp2_with (go_at_call 40; refine (C40 _).mono ?_; rintro e4 w4 ⟨rfl, rfl⟩)
                go_ret2
                exact FixW.good HE HBX.out
              · have hx0i : (128 : Int) ≤ x0.toNat := by omega
                have hux : 2147483648 ≤ u := by omega
                have hw64 : wrap64 (u : Int) = u := by unfold wrap64; omega
                have HE : Hid (fixedR d s.data.toList = .ok ((u : Int) - 4294967296)) := by show _ = _; rw [HFX.out]; unfold fixE; rw [HV.out, hln, if_pos rfl, if_pos (by simp; omega)]; rfl
                rw [h8]
                clear hul hvv hbv hb' hn' hl1 hsz h8 hln hx0
                go_wp2_with (go_at_call 40; refine (C40 _).mono ?_; rintro e4 w4 ⟨rfl, rfl⟩)
                go_ret2
                exact FixW.good HE HBX.out
            · have hn' : l'.length = 7 := by omega
              rw [hn'] at hbv hb'
              have hln : (s.data.toList).length = 8 := by rw [show s.data.toList.length = s.size from rfl, ← HLL.out, h8]
              have hu8 : u < 18446744073709551616 := by rw [h8] at hul; exact hul
              have hui : (u : Int) < 18446744073709551616 := by omega
              simp only [Nat.reducePow] at hbv hb'
              by_cases hx0 : x0.toNat < 128
              · have hx0i : (x0.toNat : Int) < 128 := by omega
                have hux : u < 9223372036854775808 := by omega
                have hw64 : wrap64 (u : Int) = u := by unfold wrap64; omega
                have HE : Hid (fixedR d s.data.toList = .ok (u : Int)) := by show _ = _; rw [HFX.out]; unfold fixE; rw [HV.out, hln, if_pos rfl, if_neg (by simp; omega)]
                rw [h8]
                clear hul hvv hbv hb' hn' hl1 hsz h8 hln hx0 hui hux hu8
                go_wp2_with (go_at_call 40; refine (C40 _).mono ?_; rintro e4 w4 ⟨rfl, rfl⟩)
                go_ret2
                exact FixW.good HE HBX.out
              · have hx0i : (128 : Int) ≤ x0.toNat := by omega
                have hux : 9223372036854775808 ≤ u := by omega
                have hw64 : (u : Int) - 18446744073709551616 = wrap64 (u : Int) := by unfold wrap64; omega
                have HE : Hid (fixedR d s.data.toList = .ok (wrap64 (u : Int))) := by show _ = _; rw [HFX.out, ← hw64]; unfold fixE; rw [HV.out, hln, if_pos rfl, if_pos (by simp; omega)]; rfl
                clear hw64
                rw [h8]
                clear hul hvv hbv hb' hn' hl1 hsz h8 hln hx0
                go_wp2_with (go_at_call 40; refine (C40 _).mono ?_; rintro e4 w4 ⟨rfl, rfl⟩)
                go_ret2
                exact FixW.good HE HBX.out
    have e78 := u8_ne (n := 78) (k := 78) rfl h78
    have n78 : ((d.c.toNat : Int) != 78) = true := by simp only [bne, e78, Bool.not_false]
    have HGT : Hid (d.great = false) := by show _ = _; rw [HGR.out]; simp [h110, h78]
    obtain ⟨l, hl⟩ : ∃ l, turnedIf d.great s.data.toList = l := ⟨_, rfl⟩
    have HFV : Hid (fixV d.great s.data.toList = beV l 0) := by show _ = _; rw [fixV_turned, hl]
    have HLL : Hid (l.length = s.size) := by show _ = _; rw [← hl, turnedIf_length]; rfl
    have HLR : Hid (l = s.data.toList.reverse) := by show _ = _; rw [← hl, HGT.out]; rfl
    have HC : Hid (Calls Tryz.prog 73 #[.slice (some ⟨g, 0, none⟩) s.size cap] W1 (TurnR s.data.toList W1)) := t73 (.slice (some ⟨g, 0, none⟩) s.size cap) s.data.toList W1 HRD.out (by omega)
    clear hl h110 h78
    go_wp2_with fail
    refine HC.out.mono ?_
    rintro e5 WX ⟨hb5, v5, rfl, hr5⟩
    have hr6 : RdV WX v5 l := by
      rw [HLR.out]
      exact rdV_row (by rw [List.length_reverse]; exact hr5)
    have HRV := Lib.hid hr6
    obtain ⟨a5, c5, rfl⟩ := hr6.slice
    have HKX := Lib.hid (blkDown HK1.out hb5)
    have HBX := Lib.hid (bThen HB1.out hb5)
    clear hr6 hr5 hb5 HC HRD
    have d0 := (HKX.out).cell 0 rfl
    have hll := HLL.out
    rcases id (HRV.out) with ⟨_, h0⟩ | ⟨gl, cl, hsl2, -, -, -, hrd⟩
    · exact absurd h0 (by intro h; rw [h] at hll; simp at hll; rcases HCS.out with h | h | h <;> (have := HSZ.out; omega))
    first
      | (simp only [Value.slice.injEq, true_and] at hsl2; obtain ⟨rfl, rfl⟩ := hsl2)
      | (simp only [Value.slice.injEq] at hsl2; obtain ⟨rfl, _, rfl⟩ := hsl2)
    have HRDL := Lib.hid hrd
    have HL8 : Hid (l.length ≤ 8) := by show _ ≤ _; omega
    clear hrd hll hsl hs8 hsi
    go_wp2_with fail
    go_loopw [8, 7] (fun i u wr => WhS l WX i u wr) (fun i _ _ => l.length - (intOf i).toNat)
    case atStart => exact ⟨0, 0, Nat.zero_le _, rfl, rfl, rfl, rfl⟩
    case round =>
      obtain ⟨k, u, hk, rfl, rfl, hv, rfl⟩ := hrel
      have hl8 := HL8.out
      by_cases hlt : k < l.length
      · have hlti : (k : Int) < l.length := by omega
        have hli : (l.length : Int) ≤ 8 := by omega
        obtain ⟨x, hx⟩ : ∃ x, l[k]'hlt = x := ⟨_, rfl⟩
        have hcell := HRDL.out k x (by rw [List.getElem?_eq_getElem hlt, hx])
        have hxl := x.toNat_lt
        have htk : l.take (k + 1) = l.take k ++ [x] := by rw [List.take_succ_eq_append_getElem hlt, hx]
        have hul : u < 256 ^ k := by
          have := beV_lt (l.take k)
          rw [← hv.out, List.length_take, Nat.min_eq_left (by omega)] at this
          exact this
        have hp7 : 256 ^ k ≤ 72057594037927936 := Nat.le_trans (Nat.pow_le_pow_right (by omega) (show k ≤ 7 by omega)) (by decide)
        have hu8 : (u : Int) < 72057594037927936 := by omega
        have hxw : IntKind.u64.wrap (x.toNat : Int) = x.toNat := by rw [IntKind.wrap_u64]; omega
        have HV2 : Hid (u * 256 + x.toNat = beV (l.take (k + 1)) 0) := by show _ = _; rw [htk, beV_snoc, ← hv.out]
        have HC : Hid ((u : Int) * 256 + x.toNat = ((u * 256 + x.toNat : Nat) : Int)) := by show _ = _; omega
        clear hx htk hul hp7
        go_wp2
        go_roundw
        case rel => exact ⟨k + 1, u * 256 + x.toNat, by omega, by go_num, congrArg (Value.int .u64) HC.out, HV2, rfl⟩
        case measure => simp [intOf]; omega
      · obtain rfl : l.length = k := by omega
        have hvv := hv.out
        rw [List.take_length] at hvv
        have hul : u < 256 ^ l.length := by
          have := beV_lt l
          rw [← hvv] at this
          exact this
        have HV : Hid (fixV d.great s.data.toList = u) := by show _ = _; rw [HFV.out, hvv]
        have hcs := HCS.out
        have hsz := HSZ.out
        rw [← hsz, ← HLL.out] at hcs
        rcases hcs with ⟨h81, h8, h0⟩ | ⟨h81, h0, h8⟩ | ⟨h81, h0, h8⟩
        · have hu64 : u < 18446744073709551616 := by rw [h8] at hul; exact hul
          have hui : (u : Int) < 18446744073709551616 := by omega
          have e81 := u8_eq (n := 81) (k := 81) rfl h81
          rw [h0] at C40 HFX
          clear hul hvv hlt h81 hsz h8
          by_cases hbig : u < 9223372036854775808
          · have hbi : (u : Int) ≤ 9223372036854775807 := by omega
            have hw64 : wrap64 (u : Int) = u := by unfold wrap64; omega
            have HE : Hid (fixedR d s.data.toList = .ok (u : Int)) := by show _ = _; rw [HFX.out]; unfold fixE; rw [HV.out, if_neg (by decide), if_pos hbig]
            clear hbig hui hu64
            go_wp2_with (go_at_call 40; refine (C40 _).mono ?_; rintro e4 w4 ⟨rfl, rfl⟩)
            go_ret2
            exact FixW.good HE HBX.out
          · have hbi : (9223372036854775807 : Int) < u := by omega
            have HE : Hid (fixedR d s.data.toList = .error 5) := by show _ = _; rw [HFX.out]; unfold fixE; rw [HV.out, if_neg (by decide), if_neg hbig]
            clear hbig
            go_wp2_with (go_at_call 40; refine (C40 _).mono ?_; rintro e4 w4 ⟨rfl, rfl⟩)
            go_ret2
            exact FixW.bad HE (by decide) HBX.out
        · have hu32 : u < 4294967296 := by rcases h8 with h8 | h8 | h8 <;> (rw [h8] at hul; simp at hul; omega)
          have hui : (u : Int) < 4294967296 := by omega
          have e81 := u8_ne (n := 81) (k := 81) rfl h81
          have hw64 : wrap64 (u : Int) = u := by unfold wrap64; omega
          rw [h0] at C40 HFX
          have HE : Hid (fixedR d s.data.toList = .ok (u : Int)) := by show _ = _; rw [HFX.out]; unfold fixE; rw [HV.out, if_neg (by decide), if_pos (by omega)]
          clear hul hvv hlt h81 hsz h8
          go_wp2_with (go_at_call 40; refine (C40 _).mono ?_; rintro e4 w4 ⟨rfl, rfl⟩)
          go_ret2
          exact FixW.good HE HBX.out
        · have e81 := u8_ne (n := 81) (k := 81) rfl h81
          rw [h0] at C40 HFX
          obtain ⟨x0, l', hl'⟩ : ∃ x0 l', l = x0 :: l' := by
            cases l with
            | nil => simp at h8
            | cons x0 l' => exact ⟨x0, l', rfl⟩
          have hcell := HRDL.out 0 x0 (by rw [hl']; rfl)
          have hxl := x0.toNat_lt
          have hbv : u = x0.toNat * 256 ^ l'.length + beV l' 0 := by rw [hvv, hl', beV_head]
          have hb' := beV_lt l'
          have hl1 : l'.length + 1 = l.length := by rw [hl']; rfl
          clear hl' hlt h81
          rcases h8 with h8 | h8 | h8 | h8
          · have hn' : l'.length = 0 := by omega
            rw [hn'] at hbv hb'
            have hln : (s.data.toList).length = 1 := by rw [show s.data.toList.length = s.size from rfl, ← HLL.out, h8]
            have hu8 : u < 256 := by rw [h8] at hul; exact hul
            have hui : (u : Int) < 256 := by omega
            simp only [Nat.pow_zero, Nat.mul_one] at hbv hb'
            by_cases hx0 : x0.toNat < 128
            · have hx0i : (x0.toNat : Int) < 128 := by omega
              have hux : u < 128 := by omega
              have hw64 : wrap64 (u : Int) = u := by unfold wrap64; omega
              have HE : Hid (fixedR d s.data.toList = .ok (u : Int)) := by show _ = _; rw [HFX.out]; unfold fixE; rw [HV.out, hln, if_pos rfl, if_neg (by simp; omega)]
              rw [h8]
              clear hul hvv hbv hb' hn' hl1 hsz h8 hln hx0 hui hux hu8
              go_wp2_with (go_at_call 40; refine (C40 _).mono ?_; rintro e4 w4 ⟨rfl, rfl⟩)
              go_ret2
              exact FixW.good HE HBX.out
            · have hx0i : (128 : Int) ≤ x0.toNat := by omega
              have hux : 128 ≤ u := by omega
              have hw64 : wrap64 (u : Int) = u := by unfold wrap64; omega
              have HE : Hid (fixedR d s.data.toList = .ok ((u : Int) - 256)) := by show _ = _; rw [HFX.out]; unfold fixE; rw [HV.out, hln, if_pos rfl, if_pos (by simp; omega)]; rfl
              rw [h8]
              clear hul hvv hbv hb' hn' hl1 hsz h8 hln hx0
              go_wp2_with (go_at_call 40; refine (C40 _).mono ?_; rintro e4 w4 ⟨rfl, rfl⟩)
              go_ret2
              exact FixW.good HE HBX.out
          · have hn' : l'.length = 1 := by omega
            rw [hn'] at hbv hb'
            have hln : (s.data.toList).length = 2 := by rw [show s.data.toList.length = s.size from rfl, ← HLL.out, h8]
            have hu8 : u < 65536 := by rw [h8] at hul; exact hul
            have hui : (u : Int) < 65536 := by omega
            simp only [Nat.reducePow] at hbv hb'
            by_cases hx0 : x0.toNat < 128
            · have hx0i : (x0.toNat : Int) < 128 := by omega
              have hux : u < 32768 := by omega
              have hw64 : wrap64 (u : Int) = u := by unfold wrap64; omega
              have HE : Hid (fixedR d s.data.toList = .ok (u : Int)) := by show _ = _; rw [HFX.out]; unfold fixE; rw [HV.out, hln, if_pos rfl, if_neg (by simp; omega)]
              rw [h8]
              clear hul hvv hbv hb' hn' hl1 hsz h8 hln hx0 hui hux hu8
              go_wp2_with (go_at_call 40; refine (C40 _).mono ?_; rintro e4 w4 ⟨rfl, rfl⟩)
              go_ret2
              exact FixW.good HE HBX.out
            · have hx0i : (128 : Int) ≤ x0.toNat := by omega
              have hux : 32768 ≤ u := by omega
              have hw64 : wrap64 (u : Int) = u := by unfold wrap64; omega
              have HE : Hid (fixedR d s.data.toList = .ok ((u : Int) - 65536)) := by show _ = _; rw [HFX.out]; unfold fixE; rw [HV.out, hln, if_pos rfl, if_pos (by simp; omega)]; rfl
              rw [h8]
              clear hul hvv hbv hb' hn' hl1 hsz h8 hln hx0
              go_wp2_with (go_at_call 40; refine (C40 _).mono ?_; rintro e4 w4 ⟨rfl, rfl⟩)
              go_ret2
              exact FixW.good HE HBX.out
          · have hn' : l'.length = 3 := by omega
            rw [hn'] at hbv hb'
            have hln : (s.data.toList).length = 4 := by rw [show s.data.toList.length = s.size from rfl, ← HLL.out, h8]
            have hu8 : u < 4294967296 := by rw [h8] at hul; exact hul
            have hui : (u : Int) < 4294967296 := by omega
            simp only [Nat.reducePow] at hbv hb'
            by_cases hx0 : x0.toNat < 128
            · have hx0i : (x0.toNat : Int) < 128 := by omega
              have hux : u < 2147483648 := by omega
              have hw64 : wrap64 (u : Int) = u := by unfold wrap64; omega
              have HE : Hid (fixedR d s.data.toList = .ok (u : Int)) := by show _ = _; rw [HFX.out]; unfold fixE; rw [HV.out, hln, if_pos rfl, if_neg (by simp; omega)]
              rw [h8]
              clear hul hvv hbv hb' hn' hl1 hsz h8 hln hx0 hui hux hu8
              go_wp2_with (go_at_call 40; refine (C40 _).mono ?_; rintro e4 w4 ⟨rfl, rfl⟩)
              go_ret2
              exact FixW.good HE HBX.out
            · have hx0i : (128 : Int) ≤ x0.toNat := by omega
              have hux : 2147483648 ≤ u := by omega
              have hw64 : wrap64 (u : Int) = u := by unfold wrap64; omega
              have HE : Hid (fixedR d s.data.toList = .ok ((u : Int) - 4294967296)) := by show _ = _; rw [HFX.out]; unfold fixE; rw [HV.out, hln, if_pos rfl, if_pos (by simp; omega)]; rfl
              rw [h8]
              clear hul hvv hbv hb' hn' hl1 hsz h8 hln hx0
              go_wp2_with (go_at_call 40; refine (C40 _).mono ?_; rintro e4 w4 ⟨rfl, rfl⟩)
              go_ret2
              exact FixW.good HE HBX.out
          · have hn' : l'.length = 7 := by omega
            rw [hn'] at hbv hb'
            have hln : (s.data.toList).length = 8 := by rw [show s.data.toList.length = s.size from rfl, ← HLL.out, h8]
            have hu8 : u < 18446744073709551616 := by rw [h8] at hul; exact hul
            have hui : (u : Int) < 18446744073709551616 := by omega
            simp only [Nat.reducePow] at hbv hb'
            by_cases hx0 : x0.toNat < 128
            · have hx0i : (x0.toNat : Int) < 128 := by omega
              have hux : u < 9223372036854775808 := by omega
              have hw64 : wrap64 (u : Int) = u := by unfold wrap64; omega
              have HE : Hid (fixedR d s.data.toList = .ok (u : Int)) := by show _ = _; rw [HFX.out]; unfold fixE; rw [HV.out, hln, if_pos rfl, if_neg (by simp; omega)]
              rw [h8]
              clear hul hvv hbv hb' hn' hl1 hsz h8 hln hx0 hui hux hu8
              go_wp2_with (go_at_call 40; refine (C40 _).mono ?_; rintro e4 w4 ⟨rfl, rfl⟩)
              go_ret2
              exact FixW.good HE HBX.out
            · have hx0i : (128 : Int) ≤ x0.toNat := by omega
              have hux : 9223372036854775808 ≤ u := by omega
              have hw64 : (u : Int) - 18446744073709551616 = wrap64 (u : Int) := by unfold wrap64; omega
              have HE : Hid (fixedR d s.data.toList = .ok (wrap64 (u : Int))) := by show _ = _; rw [HFX.out, ← hw64]; unfold fixE; rw [HV.out, hln, if_pos rfl, if_pos (by simp; omega)]; rfl
              clear hw64
              rw [h8]
              clear hul hvv hbv hb' hn' hl1 hsz h8 hln hx0
              go_wp2_with (go_at_call 40; refine (C40 _).mono ?_; rintro e4 w4 ⟨rfl, rfl⟩)
              go_ret2
              exact FixW.good HE HBX.out
end Go.Proofs.YtmbnckmhngijdaaGreatDoor
