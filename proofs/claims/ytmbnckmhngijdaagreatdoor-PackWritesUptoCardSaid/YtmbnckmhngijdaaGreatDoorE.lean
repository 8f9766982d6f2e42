/- Contract of readCount, all of it. -/
import Derived.Test.YtmbnckmhngijdaaGreatDoorD
namespace Go.Proofs.YtmbnckmhngijdaaGreatDoor
open Go Go.RowKit
set_option maxRecDepth 100000 in
set_option maxHeartbeats 2000000 in
theorem t69_digits (g : Nat) (c : UInt8) (a b d : Value) (s : ByteArray) (w : World) (hG : Gl w) (hs : s.size ≤ 100000) (h : Blk w g 81 [.int .u8 c.toNat, a, b, d, .bool false, .int .i64 0]) (hp : Lib.hasPrefix s.data.toList [42] = false)
    (hn : s.data.toList.takeWhile isDig ≠ [])
    (hc : countL c s.data.toList = if numOk c (s.data.toList.takeWhile isDig) then some (((numL (s.data.toList.takeWhile isDig) 0 : Nat) : Int), s.data.toList.dropWhile isDig) else none) :
    Calls Tryz.prog 69 #[.pointer (some ⟨g, 0, none⟩), .string s] w (CntR g c a b d s.data.toList w) := by
  have cP := Tryz.strings_CutPrefix s ⟨#[42]⟩
  rw [show (⟨#[42]⟩ : ByteArray).data.toList = [42] from rfl, hp] at cP
  generalize Lib.trimPrefix s.data.toList [42] = T at *
  have cT := fun w => Any.strings_TrimLeft_laid Tryz.lays161 (by kernel_rfl) s ⟨#[48, 49, 50, 51, 52, 53, 54, 55, 56, 57]⟩ w (by decide) (ascii_of_all (by decide))
  rw [show (⟨#[48, 49, 50, 51, 52, 53, 54, 55, 56, 57]⟩ : ByteArray).data.toList = [48, 49, 50, 51, 52, 53, 54, 55, 56, 57] from rfl, trim_digits] at cT
  have hd := List.takeWhile_append_dropWhile (p := isDig) (l := s.data.toList)
  have hext := digit_str s
  have hall := all_takeWhile isDig s.data.toList
  have hlen : (s.data.toList.takeWhile isDig).length + (s.data.toList.dropWhile isDig).length = s.size := by
    rw [← List.length_append, hd]; rfl
  generalize s.data.toList.takeWhile isDig = D at *
  generalize s.data.toList.dropWhile isDig = R at *
  obtain ⟨r, hr⟩ : ∃ r : ByteArray, r = ⟨R.toArray⟩ := ⟨_, rfl⟩
  have hrl : r.size = R.length := by rw [hr]; rfl
  rw [← hr] at cT
  obtain ⟨x, D', rfl⟩ : ∃ x D', D = x :: D' := by
    cases D with
    | nil => exact absurd rfl hn
    | cons x D' => exact ⟨x, D', rfl⟩
  obtain ⟨t, ht⟩ : ∃ t : ByteArray, t = ⟨(x :: D').toArray⟩ := ⟨_, rfl⟩
  have htl : t.data.toList = x :: D' := by rw [ht]
  have htz : t.size = D'.length + 1 := by rw [ht]; rfl
  rw [← ht] at hext
  have hat := atoi_digits x D' hall
  have hx := isDig_bounds (hall x (List.mem_cons_self ..))
  have hx0 : t[0]'(by omega) = x := by
    have : t[0]'(by omega) = t.data.toList[0]'(by rw [htl]; simp) := rfl
    rw [this]; simp [htl]
  have hbnd : ∀ V : Nat, V = numL (x :: D') 0 → numOk c (x :: D') = (decide ((if c = 64 then 0 else 1) ≤ V) && decide (V ≤ 1000) && (decide (x :: D' = [48]) || decide (x ≠ 48))) := by
    intro V hV
    unfold numOk
    rw [← hV]
    by_cases h1 : V ≤ 1000
    · by_cases hx48 : x = 48
      · subst hx48
        cases D' with
        | nil =>
          have : V = 0 := by rw [hV]; rfl
          subst this
          by_cases h64 : c = 64 <;> simp [h64]
        | cons y D'' => simp [h1]
      · have hge := numL_ge D' (0 * 10 + (x.toNat - 48))
        have hx48' : x.toNat ≠ 48 := fun e => hx48 (UInt8.toNat_inj.1 (by simpa using e))
        have h3 : V = numL D' (0 * 10 + (x.toNat - 48)) := hV
        have h2 : (if c = 64 then 0 else 1) ≤ V := by split <;> omega
        simp [h1, h2, hx48]
    · simp [h1]
  obtain ⟨te, pe, her⟩ := hG.er
  obtain ⟨V, hV⟩ : ∃ V, V = numL (x :: D') 0 := ⟨_, rfl⟩
  rw [← hV] at hat
  have hnum := hbnd V hV
  rw [← hV] at hc
  have hemp : t.toList.isEmpty = false := by rw [ByteArray.toList_eq, htl]; rfl
  have hsub2 : (s.size : Int) - (r.size : Int) = t.size := by rw [hrl, htz]; simp only [List.length_cons] at hlen; omega
  have hext2 : s.extract 0 t.size = t := by rw [htz]; exact hext
  have hts : t.size ≤ s.size := by simp only [List.length_cons] at hlen; omega
  have hpos : 0 < t.size := by omega
  have h48e : (t.toList == [48]) = decide (x :: D' = [48]) := by
    rw [ByteArray.toList_eq, htl]
    rw [Bool.eq_iff_iff]; simp
  have done_bad : ∀ (e : Ending) (w' : World), numOk c (x :: D') = false → (e = .returned (.tuple #[.string r, .bool false]) ∧ Below g w w') → CntR g c a b d s.data.toList w e w' := by
    intro e w' hok ⟨he, hb⟩
    subst he
    exact CntR.bad (show _ = _ by rw [hc, hok]; rfl) hb
  have done_good : ∀ (e : Ending) (w' : World), numOk c (x :: D') = true → (e = .returned (.tuple #[.string r, .bool true]) ∧ Blk w' g 81 [.int .u8 c.toNat, a, b, d, .bool false, .int .i64 V] ∧ Below g w w') → CntR g c a b d s.data.toList w e w' := by
    intro e w' hok ⟨he, hk, hb⟩
    subst he
    rw [hr]
    refine CntR.good (k := V) (show _ = _ by rw [hc, hok]; rfl) hb ?_
    have e1 : decide ((V : Int) = -1) = false := decide_eq_false (by omega)
    have e2 : cntN c V = V := by
      show (if (V : Int) = -1 then 0 else if (V : Int) = -2 then (if c = 64 then 0 else 1) else ((V : Int)).toNat) = V
      rw [if_neg (by omega), if_neg (by omega)]; rfl
    rw [e1, e2]
    exact hk
  by_cases hbig : V < 9223372036854775808
  · rw [if_pos hbig] at hat
    have cA : ∀ W : World, (∃ te pe, W.cell? ⟨2, 0, none⟩ = some (.iface te pe)) → Calls Tryz.prog 93 #[.string t] W fun e W' => ∃ ev, e = .returned (.tuple #[.int .i64 V, ev]) ∧ ev = .nilIface ∧ Below W.heap.size W W' := fun W _ =>
      (Tryz.strconv_Atoi_ok t (by omega) V (by rw [htl]; exact hat) W).mono fun e W' ⟨h1, h2⟩ => ⟨_, h1, rfl, by
        rcases h2 with rfl | ⟨u, rfl⟩
        · exact Below.refl _ _
        · exact Lib.bytesWorld_below W 5 u⟩
    by_cases h64 : c = 64
    · have d1 := u8_eq (n := 64) (k := 64) rfl h64
      rw [if_pos h64] at hnum
      by_cases g2 : V ≤ 1000
      · by_cases g3 : x :: D' = [48]
        · refine (t69_0g3t g c a b d s r t T x V te pe w hpos hx0 cP cT h her hemp hs hsub2 hts hext2 d1 (by omega) g2 (by rw [h48e, decide_eq_true g3]) cA).mono fun e w' hx => done_good e w' (by rw [hnum]; simp [g2, g3]) hx
        · by_cases g4 : x = 48
          · refine (t69_0g4f g c a b d s r t T x V te pe w hpos hx0 cP cT h her hemp hs hsub2 hts hext2 d1 (by omega) g2 (by rw [h48e, decide_eq_false g3]) (u8_eq (n := 48) rfl g4) cA).mono fun e w' ⟨h1, _, h2⟩ => done_bad e w' (by rw [hnum, decide_eq_false g3, decide_eq_false (fun h : x ≠ 48 => h g4)]; simp) ⟨h1, h2⟩
          · refine (t69_0g4t g c a b d s r t T x V te pe w hpos hx0 cP cT h her hemp hs hsub2 hts hext2 d1 (by omega) g2 (by rw [h48e, decide_eq_false g3]) (u8_ne (n := 48) rfl g4) cA).mono fun e w' hx => done_good e w' (by rw [hnum]; simp [g2, g4]) hx
      · refine (t69_0g2f g c a b d s r t T x V te pe w hpos hx0 cP cT h her hemp hs hsub2 hts hext2 d1 (by omega) (by omega) cA).mono fun e w' ⟨h1, _, h2⟩ => done_bad e w' (by rw [hnum]; simp [g2]) ⟨h1, h2⟩
    · have d1 := u8_ne (n := 64) (k := 64) rfl h64
      rw [if_neg h64] at hnum
      by_cases g1 : 1 ≤ V
      · by_cases g2 : V ≤ 1000
        · by_cases g3 : x :: D' = [48]
          · refine (t69_1g3t g c a b d s r t T x V te pe w hpos hx0 cP cT h her hemp hs hsub2 hts hext2 d1 (by omega) g2 (by rw [h48e, decide_eq_true g3]) cA).mono fun e w' hx => done_good e w' (by rw [hnum]; simp [g1, g2, g3]) hx
          · by_cases g4 : x = 48
            · refine (t69_1g4f g c a b d s r t T x V te pe w hpos hx0 cP cT h her hemp hs hsub2 hts hext2 d1 (by omega) g2 (by rw [h48e, decide_eq_false g3]) (u8_eq (n := 48) rfl g4) cA).mono fun e w' ⟨h1, _, h2⟩ => done_bad e w' (by rw [hnum, decide_eq_false g3, decide_eq_false (fun h : x ≠ 48 => h g4)]; simp) ⟨h1, h2⟩
            · refine (t69_1g4t g c a b d s r t T x V te pe w hpos hx0 cP cT h her hemp hs hsub2 hts hext2 d1 (by omega) g2 (by rw [h48e, decide_eq_false g3]) (u8_ne (n := 48) rfl g4) cA).mono fun e w' hx => done_good e w' (by rw [hnum]; simp [g1, g2, g4]) hx
        · refine (t69_1g2f g c a b d s r t T x V te pe w hpos hx0 cP cT h her hemp hs hsub2 hts hext2 d1 (by omega) (by omega) cA).mono fun e w' ⟨h1, _, h2⟩ => done_bad e w' (by rw [hnum]; simp [g2]) ⟨h1, h2⟩
      · refine (t69_1g1f g c a b d s r t T x V te pe w hpos hx0 cP cT h her hemp hs hsub2 hts hext2 d1 (by omega) cA).mono fun e w' ⟨h1, _, h2⟩ => done_bad e w' (by rw [hnum]; simp [g1]) ⟨h1, h2⟩
  · rw [if_neg hbig] at hat
    have cA : ∀ W : World, (∃ te pe, W.cell? ⟨2, 0, none⟩ = some (.iface te pe)) → Calls Tryz.prog 93 #[.string t] W fun e W' => ∃ ev, e = .returned (.tuple #[.int .i64 (Lib.atoiSat t.data.toList), ev]) ∧ (∃ N, ev = .iface 169 (.pointer (some ⟨N, 0, none⟩))) ∧ Below W.heap.size W W' := fun W hW => by
      obtain ⟨te, pe, hv⟩ := hW
      exact (Tryz.strconv_Atoi_range t (by omega) (by rw [htl]; exact hat) _ W hv (.inr ⟨te, pe, rfl⟩)).mono fun e W' ⟨N, h1, _, _, h2⟩ => ⟨_, h1, ⟨N, rfl⟩, h2⟩
    have hf : numOk c (x :: D') = false := by rw [hnum]; simp; omega
    by_cases h64 : c = 64
    · exact (t69_0range g c a b d s r t T x _ te pe w hpos hx0 cP cT h her hemp hs hsub2 hts hext2 (u8_eq (n := 64) rfl h64) cA).mono fun e w' hx => done_bad e w' hf hx
    · exact (t69_1range g c a b d s r t T x _ te pe w hpos hx0 cP cT h her hemp hs hsub2 hts hext2 (u8_ne (n := 64) rfl h64) cA).mono fun e w' hx => done_bad e w' hf hx
theorem t69 (g : Nat) (c : UInt8) (a b d : Value) (s : ByteArray) (w : World) (hG : Gl w) (hs : s.size ≤ 100000) (h : Blk w g 81 [.int .u8 c.toNat, a, b, d, .bool false, .int .i64 0]) :
    Calls Tryz.prog 69 #[.pointer (some ⟨g, 0, none⟩), .string s] w (CntR g c a b d s.data.toList w) := by
  rcases star_cases c s.data.toList with ⟨h1, h2⟩ | ⟨h1, h2⟩
  · exact t69_star g c a b d s w h h1 h2
  · by_cases h3 : s.data.toList.takeWhile isDig = []
    · rw [if_pos h3] at h2
      exact t69_none g c a b d s w h h1 h2 h3
    · rw [if_neg h3] at h2
      exact t69_digits g c a b d s w hG hs h h1 h3 h2
end Go.Proofs.YtmbnckmhngijdaaGreatDoor
