/- Contracts of Hex and Bytes of the program. -/
import Derived.Test.YtmbnckmhngijdaaGreatDoorS
import Derived.Deep.RegionLaw
import Derived.Deep.AppendLies
namespace Go.Proofs.YtmbnckmhngijdaaGreatDoor
open Go Go.RowKit

def hexB16 : ByteArray := ⟨#[48, 49, 50, 51, 52, 53, 54, 55, 56, 57, 97, 98, 99, 100, 101, 102]⟩
theorem hexB16_size : hexB16.size = 16 := rfl
theorem hexB16_fin : ∀ d : Fin 16, hexB16[d.val]'(by rw [hexB16_size]; exact d.isLt) = hexD d.val := by decide
theorem hexB16_at (d : Nat) (h : d < 16) : hexB16[d]'(by rw [hexB16_size]; exact h) = hexD d := hexB16_fin ⟨d, h⟩
theorem hexL_snoc (l : List UInt8) (b : UInt8) : hexL (l ++ [b]) = hexL l ++ [hexD (b.toNat / 16), hexD (b.toNat % 16)] := by
  induction l with
  | nil => rfl
  | cons x l ih => rw [List.cons_append, hexL, hexL, ih]; rfl
theorem hexL_length (l : List UInt8) : (hexL l).length = 2 * l.length := by
  induction l with
  | nil => rfl
  | cons x l ih => rw [hexL]; simp only [List.length_cons, ih]; omega
theorem two_new (w : World) (x y : Value) (t : TypeId) : ∀ j u, [x, y][j]? = some u → (w.alloc (.cells #[x, y] t)).cell? ((⟨w.heap.size, 0, none⟩ : Addr).add j) = some u := by
  intro j u hu
  rw [add_addr, Nat.zero_add]
  exact (Blk.new w #[x, y] t).cell j hu
def HexS (s : ByteArray) (w : World) (i v : Value) (wr : World) : Prop :=
  ∃ k : Nat, k ≤ s.size ∧ i = .int .i64 k ∧ Hid (wr.ownsRow w.heap.size 5 1 v (hexL (s.data.toList.take k)).length (c8 (hexL (s.data.toList.take k)))) ∧ Hid (Below w.heap.size w wr)
set_option maxRecDepth 100000 in
set_option maxHeartbeats 2000000 in
theorem t20 (s : ByteArray) (w : World) (hs : s.size ≤ 1000000) : Calls Tryz.prog 20 #[.string s] w fun e w' => e = .returned (.string ⟨(hexL s.data.toList).toArray⟩) ∧ Below w.heap.size w w' := by
  have hsi : (s.size : Int) ≤ 1000000 := by omega
  have hsl : s.data.toList.length = s.size := rfl
  obtain ⟨i0, hi, hz0, hz1, hz2⟩ := info_parts infoB
  go_enter Tryz.func20, Tryz.ntmps20
  go_wp2_with (at_make; refine wpList_make_own _ rfl _ _ 72 rfl w.heap.size 5 i0 (.int .u8 0) 1 Tryz.underlying72 hi hz0 hz1 .i64 .i64 _ (2 * s.size) rfl rfl (by push_cast; rfl) (by rw [hz2]; omega) (by unfold maxLen; omega) (Nat.le_refl _) ?_; intro w1 hown1 hgr1)
  go_loopw [11, 3] (fun i v wr => HexS s w i v wr) (fun i _ _ => s.size - (intOf i).toNat)
  case atStart => exact ⟨0, Nat.zero_le _, rfl, hown1, ⟨hgr1.os, hgr1.tape, hgr1.output, hgr1.size, fun k hk => hgr1.block k hk (by simp)⟩⟩
  case round =>
    obtain ⟨k, hk, rfl, hown, hbl⟩ := hrel
    obtain ⟨av, cv, rfl⟩ := row_slice hown.out
    by_cases hlt : k < s.size
    · have hlti : (k : Int) < s.size := by omega
      have hkL : k < s.data.toList.length := by omega
      obtain ⟨b, hb⟩ : ∃ b, s.data.toList[k]'hkL = b := ⟨_, rfl⟩
      have hsb : s[k]'hlt = b := hb
      have HLS : Hid (hexL (s.data.toList.take (k + 1)) = hexL (s.data.toList.take k) ++ [hexD (b.toNat / 16), hexD (b.toNat % 16)]) := by
        show _ = _
        rw [List.take_succ_eq_append_getElem hkL, hb, hexL_snoc]
      have hbl2 := b.toNat_lt
      obtain ⟨p, hp⟩ : ∃ p, b.toNat / 16 = p := ⟨_, rfl⟩
      obtain ⟨q, hq⟩ : ∃ q, b.toNat % 16 = q := ⟨_, rfl⟩
      have hw1 : IntKind.u8.wrap ((b.toNat : Int) / 16) = (p : Int) := by rw [IntKind.wrap_u8]; omega
      have hw2 : (b.toNat : Int).tmod 16 = (q : Int) := by rw [Int.tmod_eq_emod_of_nonneg (by omega)]; omega
      have hp16 : p < 16 := by omega
      have hq16 : q < 16 := by omega
      have hpi : (p : Int) < 16 := by omega
      have hqi : (q : Int) < 16 := by omega
      have hq1 : (⟨#[48, 49, 50, 51, 52, 53, 54, 55, 56, 57, 97, 98, 99, 100, 101, 102]⟩ : ByteArray)[p]'hp16 = hexD p := hexB16_at p hp16
      have hq2 : (⟨#[48, 49, 50, 51, 52, 53, 54, 55, 56, 57, 97, 98, 99, 100, 101, 102]⟩ : ByteArray)[q]'hq16 = hexD q := hexB16_at q hq16
      rw [hp, hq] at HLS
      have hll : (hexL (s.data.toList.take k)).length ≤ 2000000 := by rw [hexL_length, List.length_take]; omega
      clear hb hp hq
      go_wp2_with fail
      go_region_law (refine step_append_lies _ rfl _ _ 72 rfl w.heap.size 5 i0 (.int .u8 0) 1 1 Tryz.underlying72 hi hz0 hz1 hz2 rfl (by decide) _ _ _ rfl (ownsRow_below hown.out ((bSelf _ _).drew)) ⟨wr.heap.size, 0, none⟩ 2 2 [_, _] rfl rfl (two_new wr _ _ 5) (by simp [Value.oneCell']) (by omega) (by unfold maxLen; omega) (by omega) (by have := hbl.out.size; simp; omega) _ rfl ?_; intro g cap w2 hown2 hgrow2 hat2 hlt2)
      all_goals (
        have h9 := hown2
        rw [show ([Value.int .u8 ((hexD p).toNat : Int), .int .u8 ((hexD q).toNat : Int)]) = c8 [hexD p, hexD q] from rfl, show c8 (hexL (s.data.toList.take k)) ++ c8 [hexD p, hexD q] = c8 (hexL (s.data.toList.take (k + 1))) by rw [HLS.out, c8, c8, c8, List.map_append]] at h9
        have HROW : Hid (w2.ownsRow w.heap.size 5 1 (.slice (some ⟨g, 0, none⟩) ((hexL (s.data.toList.take k)).length + 2) cap) (hexL (s.data.toList.take (k + 1))).length (c8 (hexL (s.data.toList.take (k + 1))))) := by
          show World.ownsRow _ _ _ _ _ _ _
          have e : (hexL (s.data.toList.take (k + 1))).length = (hexL (s.data.toList.take k)).length + 2 := by rw [HLS.out, List.length_append]; rfl
          rw [e]; exact h9
        have HB2 : Hid (Below w.heap.size w w2) := ((bAl hbl.out _).drew).grown hgrow2 (by have := hbl.out.size; simp; omega) (fun j hj => (hown.out.lt j hj).1)
        clear h9 hown2 hgrow2 hat2 hw1 hw2 hq1 hq2
        go_wp2
        go_roundw
        case rel => exact ⟨k + 1, by omega, by go_num, HROW, HB2⟩
        case measure => simp [intOf]; omega)
    · obtain rfl : s.size = k := by omega
      have hcv := conv_row wr _ _ _ hown.out
      rw [List.take_of_length_le (by omega)] at hcv
      rw [List.take_of_length_le (by omega)]
      go_wp2
      go_ret
      exact ⟨rfl, hbl.out⟩

def BytR (r : Option (List UInt8)) (w : World) (e : Ending) (w' : World) : Prop :=
  (match r with
   | none => e = .returned (.tuple #[.string ⟨#[]⟩, .int .i64 1])
   | some l => e = .returned (.tuple #[.string ⟨l.toArray⟩, .int .i64 0])) ∧ Below w.heap.size w w'
/-- the bytes of hex digits -/
def unhexL (l : List UInt8) : Option (List UInt8) := match hexN l.length l with | none => none | some b => if l.length % 2 = 1 then none else some b
set_option maxRecDepth 100000 in
set_option maxHeartbeats 2000000 in
theorem t21 (s : ByteArray) (w : World) (hs : s.size ≤ 1000000) : Calls Tryz.prog 21 #[.string s] w (BytR (unhexL s.data.toList) w) := by
  have hsi : (s.size : Int) ≤ 1000000 := by omega
  have C := t42_all 72 false false 0 0 s w (by omega) (by omega)
  have hsl : s.data.toList.length = s.size := rfl
  have HU : Hid (unhexL s.data.toList = match hexN s.size s.data.toList with | none => none | some b => if s.size % 2 = 1 then none else some b) := rfl
  cases hh : hexN s.size s.data.toList with
  | none =>
    have HU2 : Hid (unhexL s.data.toList = none) := by show _ = _; rw [HU.out, hh]
    rw [hh] at C
    clear hh
    go_enter Tryz.func21, Tryz.ntmps21
    go_wp2_with fail
    refine C.mono ?_
    rintro e w1 ⟨hb, v, rfl⟩
    have HB := Lib.hid hb
    clear hb
    go_wp2
    go_ret2
    refine ⟨?_, HB.out⟩
    rw [HU2.out]; rfl
  | some l =>
    rw [hh] at C
    by_cases hodd : s.size % 2 = 1
    · have HU2 : Hid (unhexL s.data.toList = none) := by show _ = _; rw [HU.out, hh]; dsimp only; rw [if_pos hodd]
      have ho : ((s.size : Int) % 2 == 1) = true := by rw [beq_iff_eq]; omega
      clear hh hodd
      go_enter Tryz.func21, Tryz.ntmps21
      go_wp2_with fail
      refine C.mono ?_
      rintro e w1 ⟨hb, g, c, rfl, hr, hg⟩
      have HB := Lib.hid hb
      clear hb
      go_wp2
      go_ret2
      refine ⟨?_, HB.out⟩
      rw [HU2.out]; rfl
    · have HU2 : Hid (unhexL s.data.toList = some l) := by show _ = _; rw [HU.out, hh]; dsimp only; rw [if_neg hodd]
      have ho : ((s.size : Int) % 2 == 1) = false := by rw [beq_eq_false_iff_ne]; omega
      clear hh hodd
      go_enter Tryz.func21, Tryz.ntmps21
      go_wp2_with fail
      refine C.mono ?_
      rintro e w1 ⟨hb, g, c, rfl, hr, hg⟩
      have HB := Lib.hid hb
      have hcv := conv_rd w1 g c l hr
      clear hb hr
      go_wp2
      go_ret2
      refine ⟨?_, HB.out⟩
      rw [HU2.out]; rfl
end Go.Proofs.YtmbnckmhngijdaaGreatDoor
