/- TableRekeys. -/
import Derived.Deep.Cut
import Derived.Deep.CutRange
import Derived.Deep.AppendLies
import Derived.Test.YtagejkolgicecaaPG
import Derived.Test.YtagejkolgicecaaKE
namespace Go.Proofs.Ytagejkolgicecaa
open Go Go.RowKit Go.Maps
theorem RowsO.news {w : World} {g off : Nat} : ∀ (ps : List (Int × Int)) (j0 : Nat), (∀ (j : Nat) (k v : Int), ps[j]? = some (k, v) → w.cell? ⟨g, off + (j0 + j) * 2, none⟩ = some (.int .i64 k) ∧ w.cell? ⟨g, off + (j0 + j) * 2 + 1, none⟩ = some (.int .i64 v)) → ∀ j u, (pcs ps)[j]? = some u → w.cell? ⟨g, off + j0 * 2 + j, none⟩ = some u
  | [], _, _, j, u, h => by simp [pcs] at h
  | p :: ps, j0, h, 0, u, hu => by
    simp [pcs] at hu; subst hu
    have h1 := (h 0 p.1 p.2 rfl).1
    simpa using h1
  | p :: ps, j0, h, 1, u, hu => by
    simp [pcs] at hu; subst hu
    have h1 := (h 0 p.1 p.2 rfl).2
    simpa using h1
  | p :: ps, j0, h, j + 2, u, hu => by
    have h1 := RowsO.news ps (j0 + 1) (fun j k v hj => by
      have h2 := h (j + 1) k v (by simpa using hj)
      rw [show j0 + 1 + j = j0 + (j + 1) by omega]; exact h2) j u (by simpa [pcs] using hu)
    rw [show off + j0 * 2 + (j + 2) = off + (j0 + 1) * 2 + j by omega]; exact h1
theorem pcs_one : ∀ (ps : List (Int × Int)), ∀ u ∈ pcs ps, u.oneCell' = true
  | [], u, h => by simp [pcs] at h
  | p :: ps, u, h => by
    simp only [pcs, List.mem_cons] at h
    rcases h with rfl | rfl | h
    · rfl
    · rfl
    · exact pcs_one ps u h
set_option maxRecDepth 100000 in
set_option maxHeartbeats 16000000 in
theorem t4 (w : World) (ao : Option Addr) (cap : Nat) (ds : List Dd) (hD : DsP w ao ds) (hl : ds.length ≤ 9223372036854775807) (ao1 : Option Addr) (cap1 : Nat) (ps : List (Int × Int)) (hr : RowsO w ao1 ps) (hpc : ps.length ≤ cap1) (_ : cap1 ≤ maxLen) (hk : ∀ p ∈ ps, WF p.1 ∧ WF p.2) (hlt : ∀ rb off, ao1 = some ⟨rb, off, none⟩ → 0 < ps.length → rb < w.heap.size) :
    Calls Try.prog 4 #[.slice ao ds.length cap, .slice ao1 ps.length cap1] w fun e w' => e = .returned (.bool true) ∧ Below w.heap.size w w' := by
  by_cases hbig : 2000 < ps.length
  · have hbig' : (2000 : Int) < ps.length := by omega
    clear hD hr hlt hk
    go_enter Try.func4, Try.ntmps4
    go_wp2_with (go_at_call 15; refine (t15 w).mono ?_; rintro e w1 ⟨rfl, hb⟩)
    go_ret
    exact ⟨rfl, hb⟩
  have hbig' : ¬ ((2000 : Int) < ps.length) := by omega
  have C16 := Lib.hid (t16 (Zoo.start w) 0 ao cap ds hD hl)
  have HR := Lib.hid hr
  have HK := Lib.hid hk
  have HLT := Lib.hid hlt
  clear hD hr hk hlt
  go_enter Try.func4, Try.ntmps4
  go_wp2_with fail
  refine C16.out.mono ?_
  clear C16
  rintro e w2 ⟨t, o, r, p, S, O, R, Q, f, N, rfl, hz2, hg, hN, -⟩
  have HZW := Lib.hid hz2
  have HG := Lib.hid hg
  have HN := Lib.hid hN
  have hk4 := Blk.new w2 #[.pointer (some ⟨t, 0, none⟩), .pointer (some ⟨o, 0, none⟩), .pointer (some ⟨r, 0, none⟩), .pointer (some ⟨p, 0, none⟩)] 26
  have HKP := Lib.hid hk4
  have HB2 := Lib.hid hz2.end_
  clear hz2 hg hN hk4
  go_upto_region 6 with fail
  have HBA := Lib.hid (bSelf w2 (.cells #[.pointer (some ⟨t, 0, none⟩), .pointer (some ⟨o, 0, none⟩), .pointer (some ⟨r, 0, none⟩), .pointer (some ⟨p, 0, none⟩)] 26))
  have HS2 : Hid (w2.heap.size < (w2.alloc (.cells #[.pointer (some ⟨t, 0, none⟩), .pointer (some ⟨o, 0, none⟩), .pointer (some ⟨r, 0, none⟩), .pointer (some ⟨p, 0, none⟩)] 26)).heap.size) := by show _ < _; simp
  generalize w2.alloc (.cells #[.pointer (some ⟨t, 0, none⟩), .pointer (some ⟨o, 0, none⟩), .pointer (some ⟨r, 0, none⟩), .pointer (some ⟨p, 0, none⟩)] 26) = W3 at *
  have HR3 := Lib.hid ((HR.out.below HB2.out).below HBA.out)
  obtain ⟨i0, hi, hz0, hz1, hz2⟩ := info_parts info42
  have HE : Hid ((W3.alloc (.cells #[] 42)).ownsRow W3.heap.size 42 2 (.slice (some ⟨W3.heap.size, 0, none⟩) 0 0) 0 []) := by
    show World.ownsRow _ _ _ _ _ _ _
    exact ⟨rfl, .inr ⟨W3.heap.size, 0, #[], rfl, Nat.le_refl _, by simpa using heap_alloc_new W3 (.cells #[] 42), Nat.le_refl _, Nat.zero_le _, rfl, rfl⟩⟩
  by_cases hne : 0 < ps.length
  · obtain ⟨⟨k0, v0⟩, hg0⟩ : ∃ x, ps[0]? = some x := ⟨_, List.getElem?_eq_getElem hne⟩
    obtain ⟨g, off, rfl, _, _⟩ := HR3.out 0 _ _ hg0
    have HNW : Hid (∀ j u, (pcs ps)[j]? = some u → (W3.alloc (.cells #[] 42)).cell? ((⟨g, off, none⟩ : Addr).add j) = some u) := fun j u hu => by
      have h1 := RowsO.news (w := W3) (g := g) (off := off) ps 0 (fun j k v hj => by
        obtain ⟨rb, of2, e, h2, h3⟩ := HR3.out j k v hj
        cases e
        rw [Nat.zero_add]; exact ⟨h2, h3⟩) j u hu
      rw [Nat.zero_mul, Nat.add_zero] at h1
      have e : (⟨g, off, none⟩ : Addr).add j = ⟨g, off + j, none⟩ := by simp [Addr.add]
      rw [e]
      exact below_cell (bSelf W3 (.cells #[] 42)) h1
    have HNL : Hid ((pcs ps).length = ps.length * 2) := pcs_len ps
    have HON := Lib.hid (pcs_one ps)
    have HNE := Lib.hid hne
    clear hg0 hne
    go_wp2_with (first | (at_builtin; refine wpList_append_lies _ rfl _ _ 30 rfl W3.heap.size 42 i0 (.agg #[.int .i64 0, .int .i64 0]) 2 16 Try.underlying30 hi hz0 hz1 hz2 rfl (by decide) (.slice (some ⟨W3.heap.size, 0, none⟩) 0 0) 0 [] rfl HE.out ⟨g, off, none⟩ ps.length cap1 (pcs ps) rfl HNL.out HNW.out HON.out HNE.out (by unfold maxLen at *; omega) (by omega) (by simp) _ rfl ?_; intro g2 cap2 w3 hown3 hgrow3 hat3 hlt3; have kx : Blk w3 w2.heap.size 26 _ := (hgrow3.block w2.heap.size (by have := HS2.out; simp; omega) (fun e => by have e2 : w2.heap.size = W3.heap.size := Option.some.inj e; have := HS2.out; omega)).trans (HKP.out.alloc (.cells #[] 42)); have c0 := kx.cell 0 rfl; clear kx) | fail)
    have hB3 : Below W3.heap.size W3 w3 := by
      have h1 := bSelf W3 (.cells #[] 42)
      refine h1.trans ⟨hgrow3.os, hgrow3.tape, hgrow3.output, hgrow3.size, fun i hi => hgrow3.block i (by have h2 := h1.size; omega) (fun e => by have e2 : i = W3.heap.size := Option.some.inj e; omega)⟩
    rw [Nat.zero_add, List.nil_append] at hown3
    have hP3 : Prs w3 (.slice (some ⟨g2, 0, none⟩) ps.length cap2) ps := own_base hown3
    obtain ⟨ao3, cap3, e3, hR3, -, -⟩ := hP3.read
    simp only [Value.slice.injEq] at e3
    obtain ⟨e4, -, e5⟩ := e3
    have HRX : Hid (RowsO w3 (some ⟨g2, 0, none⟩) ps) := by rw [e4]; exact hR3.any
    have HG2 : Hid (∀ rb off, (some ⟨g2, 0, none⟩ : Option Addr) = some ⟨rb, off, none⟩ → w2.heap.size ≤ rb) := fun rb off e => by
      cases e
      have := HS2.out
      rcases hat3 with h1 | h1
      · cases h1; exact Nat.le_of_lt HS2.out
      · rw [h1]; simp; omega
    have HBX := Lib.hid hB3
    clear hown3 hgrow3 hat3 hlt3 hP3 hR3 e4 e5 hB3
    (try rw [Nat.zero_add])
    by_cases h5 : ps.length ≤ 500
    · have h55 : ps.length ≤ 500 := h5
      have hB23 := bThen HBA.out HBX.out
      obtain ⟨P2, hzb, hQ, hQ2, -⟩ := HZW.out.base hB23
      have HZX := Lib.hid (HZW.out.below hB23)
      have HQ2 : Hid (∀ k, k < w.heap.size → P2 k) := fun k hk => hQ2 k hk trivial
      have HP4 : Hid (P2 w2.heap.size) := hQ _ (Nat.le_refl _)
      have hkx := blkDown HKP.out HBX.out
      have c0 := hkx.cell 0 rfl
      have c1 := hkx.cell 1 rfl
      have c2 := hkx.cell 2 rfl
      have c3 := hkx.cell 3 rfl
      have HP2' : Hid (∀ k, w2.heap.size ≤ k → P2 k) := hQ
      have HRP := Lib.hid (HR3.out.below HBX.out)
      have HLP : Hid (∀ rb of', (some ⟨g, off, none⟩ : Option Addr) = some ⟨rb, of', none⟩ → 0 < ps.length → P2 rb) := fun rb of' e h0 => HQ2.out rb (HLT.out rb of' e h0)
      have HGP : Hid (∀ rb of', (some ⟨g2, 0, none⟩ : Option Addr) = some ⟨rb, of', none⟩ → 0 < ps.length → P2 rb) := fun rb of' e _ => HP2'.out rb (HG2.out rb of' e)
      have HZB := Lib.hid hzb
      clear hB23 hQ hQ2 hkx hzb
      obtain ⟨Y, hY⟩ := HG.out.aS
      obtain ⟨X, hX⟩ : ∃ X, X = S.rekE ps := ⟨_, rfl⟩
      have C1 := Lib.hid (zrek HZB.out HG.out.ft (some ⟨g, off, none⟩ : Option Addr) cap1 ps HRP.out HK.out h5)
      have C2 := Lib.hid (fun wz (hz : Zoo P2 w3 wz (fset f 0 (.t t (S.rekS ps)))) => zrekR hz (c := 0 + 2) (by rw [fset_other _ _ (by omega)]; exact HG.out.fr) hY HG.out.okS (hY.lens HG.out.b5 HG.out.b7) (some ⟨g2, 0, none⟩ : Option Addr) cap2 ps (hz.rows HRX.out HGP.out) HK.out h5)
      rw [← hX] at C1 C2
      clear hX hY
      refine C1.out.mono ?_
      rintro e w4 ⟨rfl, hz4, ho4⟩
      have k2 := hz4.cell HP4.out c2
      have HZ4 := Lib.hid hz4
      have HO4 := Lib.hid ho4
      clear hz4 ho4 C1
      go_wp2_with fail
      refine (C2.out w4 HZ4.out).mono ?_
      rintro e w5 ⟨R', ⟨rfl, ha5, hn5⟩, hz5⟩
      have HZ5 := Lib.hid hz5
      have hgB := HG.out.turned (by have := HN.out; omega) HO4.out ha5 (by have := (pt_rek S ps).1; omega) (by omega) (by have := (pt_rek S ps).2; omega)
      have HGB := Lib.hid hgB
      have C19 := Lib.hid (t19o w5 (some ⟨g2, 0, none⟩ : Option Addr) (some ⟨g, off, none⟩ : Option Addr) cap2 cap1 ps ps (hz5.rows HRX.out HGP.out) (hz5.rows HRP.out HLP.out) (by first | omega | simp))
      clear hz5 ha5 hn5 hgB C2
      go_wp2_with fail
      refine C19.out.mono ?_
      rintro e w6 ⟨rfl, hb6⟩
      have hzB := HZ5.out.below hb6
      have hgB := HGB.out
      clear hb6 C19 HGB k2
      have L0 := Lib.hid hzB
      have LG := Lib.hid hgB
      clear hzB hgB
      go_wp2_with fail
      go_loopw [10, 11] (fun i u wr => ∃ (q M : Nat) (S O : Tb) (R Q : Rt) (f' : Nat → Option Th), q ≤ 5 ∧ i = .int .i64 q ∧ M ≤ 101 + 3 * q ∧ Hid (Zoo P2 w3 wr f') ∧ Hid (Game 0 M f' t o r p S O R Q)) (fun i _ _ => 5 - (intOf i).toNat)
      case atStart => exact ⟨0, _, _, _, _, _, _, Nat.zero_le _, rfl, by have := HN.out; omega, L0, LG⟩
      case round =>
        obtain ⟨q, M, S1, O1, R1, Q1, f1, hq, rfl, hM, HZ, HGm⟩ := hrel
        clear L0 LG
        by_cases hq5 : q < 5
        · have hq5' : (q : Int) < 5 := by omega
          go_wp2_with fail
          go_loopw [11] (fun i wr => ∃ (k M : Nat) (S O : Tb) (R Q : Rt) (f' : Nat → Option Th), k ≤ 3 ∧ i = .int .i64 k ∧ M ≤ 101 + 3 * q + k ∧ Hid (Zoo P2 w3 wr f') ∧ Hid (Game 0 M f' t o r p S O R Q)) (fun i _ => 3 - (intOf i).toNat)
          case atStart => exact ⟨0, _, _, _, _, _, _, Nat.zero_le _, rfl, hM, HZ, HGm⟩
          case round =>
            obtain ⟨k, M2, S2, O2, R2, Q2, f2, hk3, rfl, hM2, HZ2, HG2m⟩ := hrel
            clear HZ HGm hM
            by_cases hk5 : k < 3
            · have hk5' : (k : Int) < 3 := by omega
              have z0 := HZ2.out.cell HP4.out c0
              have z1 := HZ2.out.cell HP4.out c1
              have z2 := HZ2.out.cell HP4.out c2
              have z3 := HZ2.out.cell HP4.out c3
              have C13 := Lib.hid (t13 wr HZ2.out HG2m.out (by omega) 4 (q : Int) 0 (wf_nat (by omega)) none 0 0 [] rfl (Nat.le_refl _) (by unfold maxLen; omega) (fun j k v hj => by simp at hj) (fun rb o e => by cases e) (fun p hp => by cases hp))
              go_wp2_with fail
              refine C13.out.mono ?_
              rintro e w9 ⟨rfl, f3, S3, O3, R3, Q3, hz, hgm, -⟩
              have HZ3 := Lib.hid hz
              have HG3 := Lib.hid hgm
              clear hz hgm C13 HZ2 HG2m z0 z1 z2 z3
              go_wp2_with fail
              go_roundw
              case rel => exact ⟨k + 1, _, S3, O3, R3, Q3, f3, by omega, by go_num, by omega, HZ3, HG3⟩
              case measure => simp [intOf]; omega
            · have hk5' : ¬ ((k : Int) < 3) := by omega
              go_wp2_with fail
              go_roundw
              case rel => exact ⟨q + 1, _, S2, O2, R2, Q2, f2, by omega, by go_num, by omega, HZ2, HG2m⟩
              case measure => simp [intOf]; omega
        · have hq5' : ¬ ((q : Int) < 5) := by omega
          have z0 := HZ.out.cell HP4.out c0
          have z1 := HZ.out.cell HP4.out c1
          have z2 := HZ.out.cell HP4.out c2
          have z3 := HZ.out.cell HP4.out c3
          have C14 := Lib.hid (z14 HZ.out HGm.out 0 (WalkArith.wf_i64 (by decide)))
          have HBE := Lib.hid (HZX.out.back HZ.out (fun k hk _ => HQ2.out k hk)).end_
          go_wp2_with (first | (go_at_call 14; refine C14.out.mono ?_; rintro e w8 ⟨rfl, hb8⟩) | (go_at_call 15; refine (t15 w8).mono ?_; rintro e w9 ⟨rfl, hb9⟩))
          (try go_wp2)
          go_ret
          exact ⟨rfl, HBE.out.trans ((bThen hb8 hb9).mono HBE.out.size)⟩
    · have hbg : 500 < ps.length := by omega
      have hB23 := bThen HBA.out HBX.out
      obtain ⟨P2, hzb, hQ, hQ2, -⟩ := HZW.out.base hB23
      have HZX := Lib.hid (HZW.out.below hB23)
      have HQ2 : Hid (∀ k, k < w.heap.size → P2 k) := fun k hk => hQ2 k hk trivial
      have HP4 : Hid (P2 w2.heap.size) := hQ _ (Nat.le_refl _)
      have hkx := blkDown HKP.out HBX.out
      have c0 := hkx.cell 0 rfl
      have c1 := hkx.cell 1 rfl
      have c2 := hkx.cell 2 rfl
      have c3 := hkx.cell 3 rfl
      have HP2' : Hid (∀ k, w2.heap.size ≤ k → P2 k) := hQ
      have HRP := Lib.hid (HR3.out.below HBX.out)
      have HLP : Hid (∀ rb of', (some ⟨g, off, none⟩ : Option Addr) = some ⟨rb, of', none⟩ → 0 < ps.length → P2 rb) := fun rb of' e h0 => HQ2.out rb (HLT.out rb of' e h0)
      have HGP : Hid (∀ rb of', (some ⟨g2, 0, none⟩ : Option Addr) = some ⟨rb, of', none⟩ → 0 < ps.length → P2 rb) := fun rb of' e _ => HP2'.out rb (HG2.out rb of' e)
      have HZB := Lib.hid hzb
      clear hB23 hQ hQ2 hkx hzb
      have C1 := Lib.hid (t17b w3 (some ⟨t, 0, none⟩) (some ⟨g, off, none⟩ : Option Addr) ps.length cap1 hbg)
      have C2 := Lib.hid (fun wz (hz : Zoo P2 w3 wz f) => (by
        obtain ⟨G, hG⟩ := hz.get HG.out.fr
        exact t18b wz hG (some ⟨g2, 0, none⟩ : Option Addr) ps.length cap2 hbg : Calls Try.prog 18 #[.pointer (some ⟨r, 0, none⟩), .slice (some ⟨g2, 0, none⟩ : Option Addr) ps.length cap2] wz fun e w' => e = .returned (.int .i64 1) ∧ w' = wz))
      refine C1.out.mono ?_
      rintro e w4 ⟨rfl, hb4⟩
      have HZ4 := Lib.hid (HZB.out.below hb4)
      have k2 := below_cell hb4 c2
      clear hb4 C1
      go_wp2_with fail
      refine (C2.out w4 HZ4.out).mono ?_
      rintro e w5 ⟨rfl, rfl⟩
      have C19 := Lib.hid (t19o w5 (some ⟨g2, 0, none⟩ : Option Addr) (some ⟨g, off, none⟩ : Option Addr) cap2 cap1 ps ps (HZ4.out.rows HRX.out HGP.out) (HZ4.out.rows HRP.out HLP.out) (by omega))
      clear C2
      go_wp2_with fail
      refine C19.out.mono ?_
      rintro e w6 ⟨rfl, hb6⟩
      have hzB := HZ4.out.below hb6
      have hgB := HG.out.same (by have := HN.out; omega)
      clear hb6 C19 k2
      have L0 := Lib.hid hzB
      have LG := Lib.hid hgB
      clear hzB hgB
      go_wp2_with fail
      go_loopw [10, 11] (fun i u wr => ∃ (q M : Nat) (S O : Tb) (R Q : Rt) (f' : Nat → Option Th), q ≤ 5 ∧ i = .int .i64 q ∧ M ≤ 101 + 3 * q ∧ Hid (Zoo P2 w3 wr f') ∧ Hid (Game 0 M f' t o r p S O R Q)) (fun i _ _ => 5 - (intOf i).toNat)
      case atStart => exact ⟨0, _, _, _, _, _, _, Nat.zero_le _, rfl, by have := HN.out; omega, L0, LG⟩
      case round =>
        obtain ⟨q, M, S1, O1, R1, Q1, f1, hq, rfl, hM, HZ, HGm⟩ := hrel
        clear L0 LG
        by_cases hq5 : q < 5
        · have hq5' : (q : Int) < 5 := by omega
          go_wp2_with fail
          go_loopw [11] (fun i wr => ∃ (k M : Nat) (S O : Tb) (R Q : Rt) (f' : Nat → Option Th), k ≤ 3 ∧ i = .int .i64 k ∧ M ≤ 101 + 3 * q + k ∧ Hid (Zoo P2 w3 wr f') ∧ Hid (Game 0 M f' t o r p S O R Q)) (fun i _ => 3 - (intOf i).toNat)
          case atStart => exact ⟨0, _, _, _, _, _, _, Nat.zero_le _, rfl, hM, HZ, HGm⟩
          case round =>
            obtain ⟨k, M2, S2, O2, R2, Q2, f2, hk3, rfl, hM2, HZ2, HG2m⟩ := hrel
            clear HZ HGm hM
            by_cases hk5 : k < 3
            · have hk5' : (k : Int) < 3 := by omega
              have z0 := HZ2.out.cell HP4.out c0
              have z1 := HZ2.out.cell HP4.out c1
              have z2 := HZ2.out.cell HP4.out c2
              have z3 := HZ2.out.cell HP4.out c3
              have C13 := Lib.hid (t13 wr HZ2.out HG2m.out (by omega) 4 (q : Int) 0 (wf_nat (by omega)) none 0 0 [] rfl (Nat.le_refl _) (by unfold maxLen; omega) (fun j k v hj => by simp at hj) (fun rb o e => by cases e) (fun p hp => by cases hp))
              go_wp2_with fail
              refine C13.out.mono ?_
              rintro e w9 ⟨rfl, f3, S3, O3, R3, Q3, hz, hgm, -⟩
              have HZ3 := Lib.hid hz
              have HG3 := Lib.hid hgm
              clear hz hgm C13 HZ2 HG2m z0 z1 z2 z3
              go_wp2_with fail
              go_roundw
              case rel => exact ⟨k + 1, _, S3, O3, R3, Q3, f3, by omega, by go_num, by omega, HZ3, HG3⟩
              case measure => simp [intOf]; omega
            · have hk5' : ¬ ((k : Int) < 3) := by omega
              go_wp2_with fail
              go_roundw
              case rel => exact ⟨q + 1, _, S2, O2, R2, Q2, f2, by omega, by go_num, by omega, HZ2, HG2m⟩
              case measure => simp [intOf]; omega
        · have hq5' : ¬ ((q : Int) < 5) := by omega
          have z0 := HZ.out.cell HP4.out c0
          have z1 := HZ.out.cell HP4.out c1
          have z2 := HZ.out.cell HP4.out c2
          have z3 := HZ.out.cell HP4.out c3
          have C14 := Lib.hid (z14 HZ.out HGm.out 0 (WalkArith.wf_i64 (by decide)))
          have HBE := Lib.hid (HZX.out.back HZ.out (fun k hk _ => HQ2.out k hk)).end_
          go_wp2_with (first | (go_at_call 14; refine C14.out.mono ?_; rintro e w8 ⟨rfl, hb8⟩) | (go_at_call 15; refine (t15 w8).mono ?_; rintro e w9 ⟨rfl, hb9⟩))
          (try go_wp2)
          go_ret
          exact ⟨rfl, HBE.out.trans ((bThen hb8 hb9).mono HBE.out.size)⟩
  · have hl0 : ps.length = 0 := by omega
    obtain rfl : ps = [] := List.length_eq_zero_iff.1 hl0
    have HRX : Hid (RowsO (W3.alloc (.cells #[] 42)) (some ⟨W3.heap.size, 0, none⟩) []) := fun j k v hj => by simp at hj
    have HG2 : Hid (∀ rb off, (some ⟨W3.heap.size, 0, none⟩ : Option Addr) = some ⟨rb, off, none⟩ → w2.heap.size ≤ rb) := fun rb off e => by
      cases e; have := HS2.out; omega
    have HBX : Hid (Below W3.heap.size W3 (W3.alloc (.cells #[] 42))) := bSelf W3 _
    have h5 : ([] : List (Int × Int)).length ≤ 500 := by simp
    rcases ao1 with _ | a1
    · have hB23 := bThen HBA.out HBX.out
      obtain ⟨P2, hzb, hQ, hQ2, -⟩ := HZW.out.base hB23
      have HZX := Lib.hid (HZW.out.below hB23)
      have HQ2 : Hid (∀ k, k < w.heap.size → P2 k) := fun k hk => hQ2 k hk trivial
      have HP4 : Hid (P2 w2.heap.size) := hQ _ (Nat.le_refl _)
      have hkx := blkDown HKP.out HBX.out
      have c0 := hkx.cell 0 rfl
      have c1 := hkx.cell 1 rfl
      have c2 := hkx.cell 2 rfl
      have c3 := hkx.cell 3 rfl
      have HP2' : Hid (∀ k, w2.heap.size ≤ k → P2 k) := hQ
      have HRP := Lib.hid (HR3.out.below HBX.out)
      have HLP : Hid (∀ rb of', (none : Option Addr) = some ⟨rb, of', none⟩ → 0 < ([] : List (Int × Int)).length → P2 rb) := fun rb of' e h0 => HQ2.out rb (HLT.out rb of' e h0)
      have HGP : Hid (∀ rb of', (some ⟨W3.heap.size, 0, none⟩ : Option Addr) = some ⟨rb, of', none⟩ → 0 < ([] : List (Int × Int)).length → P2 rb) := fun rb of' e _ => HP2'.out rb (HG2.out rb of' e)
      have HZB := Lib.hid hzb
      clear hB23 hQ hQ2 hkx hzb
      obtain ⟨Y, hY⟩ := HG.out.aS
      obtain ⟨X, hX⟩ : ∃ X, X = S.rekE ([] : List (Int × Int)) := ⟨_, rfl⟩
      have C1 := Lib.hid (zrek HZB.out HG.out.ft (none : Option Addr) cap1 ([] : List (Int × Int)) HRP.out HK.out h5)
      have C2 := Lib.hid (fun wz (hz : Zoo P2 (W3.alloc (.cells #[] 42)) wz (fset f 0 (.t t (S.rekS ([] : List (Int × Int)))))) => zrekR hz (c := 0 + 2) (by rw [fset_other _ _ (by omega)]; exact HG.out.fr) hY HG.out.okS (hY.lens HG.out.b5 HG.out.b7) (some ⟨W3.heap.size, 0, none⟩ : Option Addr) 0 ([] : List (Int × Int)) (hz.rows HRX.out HGP.out) HK.out h5)
      rw [← hX] at C1 C2
      simp only [List.length_nil] at C1 C2
      clear hX hY
      go_wp2_with fail
      refine C1.out.mono ?_
      rintro e w4 ⟨rfl, hz4, ho4⟩
      have k2 := hz4.cell HP4.out c2
      have HZ4 := Lib.hid hz4
      have HO4 := Lib.hid ho4
      clear hz4 ho4 C1
      go_wp2_with fail
      refine (C2.out w4 HZ4.out).mono ?_
      rintro e w5 ⟨R', ⟨rfl, ha5, hn5⟩, hz5⟩
      have HZ5 := Lib.hid hz5
      have hgB := HG.out.turned (by have := HN.out; omega) HO4.out ha5 (by have := (pt_rek S ([] : List (Int × Int))).1; omega) (by omega) (by have := (pt_rek S ([] : List (Int × Int))).2; omega)
      have HGB := Lib.hid hgB
      have C19 := Lib.hid (t19o w5 (some ⟨W3.heap.size, 0, none⟩ : Option Addr) (none : Option Addr) 0 cap1 ([] : List (Int × Int)) ([] : List (Int × Int)) (hz5.rows HRX.out HGP.out) (hz5.rows HRP.out HLP.out) (by first | omega | simp))
      simp only [List.length_nil] at C19
      clear hz5 ha5 hn5 hgB C2
      go_wp2_with fail
      refine C19.out.mono ?_
      rintro e w6 ⟨rfl, hb6⟩
      have hzB := HZ5.out.below hb6
      have hgB := HGB.out
      clear hb6 C19 HGB k2
      have L0 := Lib.hid hzB
      have LG := Lib.hid hgB
      clear hzB hgB
      go_wp2_with fail
      go_loopw [10, 11] (fun i u wr => ∃ (q M : Nat) (S O : Tb) (R Q : Rt) (f' : Nat → Option Th), q ≤ 5 ∧ i = .int .i64 q ∧ M ≤ 101 + 3 * q ∧ Hid (Zoo P2 (W3.alloc (.cells #[] 42)) wr f') ∧ Hid (Game 0 M f' t o r p S O R Q)) (fun i _ _ => 5 - (intOf i).toNat)
      case atStart => exact ⟨0, _, _, _, _, _, _, Nat.zero_le _, rfl, by have := HN.out; omega, L0, LG⟩
      case round =>
        obtain ⟨q, M, S1, O1, R1, Q1, f1, hq, rfl, hM, HZ, HGm⟩ := hrel
        clear L0 LG
        by_cases hq5 : q < 5
        · have hq5' : (q : Int) < 5 := by omega
          go_wp2_with fail
          go_loopw [11] (fun i wr => ∃ (k M : Nat) (S O : Tb) (R Q : Rt) (f' : Nat → Option Th), k ≤ 3 ∧ i = .int .i64 k ∧ M ≤ 101 + 3 * q + k ∧ Hid (Zoo P2 (W3.alloc (.cells #[] 42)) wr f') ∧ Hid (Game 0 M f' t o r p S O R Q)) (fun i _ => 3 - (intOf i).toNat)
          case atStart => exact ⟨0, _, _, _, _, _, _, Nat.zero_le _, rfl, hM, HZ, HGm⟩
          case round =>
            obtain ⟨k, M2, S2, O2, R2, Q2, f2, hk3, rfl, hM2, HZ2, HG2m⟩ := hrel
            clear HZ HGm hM
            by_cases hk5 : k < 3
            · have hk5' : (k : Int) < 3 := by omega
              have z0 := HZ2.out.cell HP4.out c0
              have z1 := HZ2.out.cell HP4.out c1
              have z2 := HZ2.out.cell HP4.out c2
              have z3 := HZ2.out.cell HP4.out c3
              have C13 := Lib.hid (t13 wr HZ2.out HG2m.out (by omega) 4 (q : Int) 0 (wf_nat (by omega)) none 0 0 [] rfl (Nat.le_refl _) (by unfold maxLen; omega) (fun j k v hj => by simp at hj) (fun rb o e => by cases e) (fun p hp => by cases hp))
              go_wp2_with fail
              refine C13.out.mono ?_
              rintro e w9 ⟨rfl, f3, S3, O3, R3, Q3, hz, hgm, -⟩
              have HZ3 := Lib.hid hz
              have HG3 := Lib.hid hgm
              clear hz hgm C13 HZ2 HG2m z0 z1 z2 z3
              go_wp2_with fail
              go_roundw
              case rel => exact ⟨k + 1, _, S3, O3, R3, Q3, f3, by omega, by go_num, by omega, HZ3, HG3⟩
              case measure => simp [intOf]; omega
            · have hk5' : ¬ ((k : Int) < 3) := by omega
              go_wp2_with fail
              go_roundw
              case rel => exact ⟨q + 1, _, S2, O2, R2, Q2, f2, by omega, by go_num, by omega, HZ2, HG2m⟩
              case measure => simp [intOf]; omega
        · have hq5' : ¬ ((q : Int) < 5) := by omega
          have z0 := HZ.out.cell HP4.out c0
          have z1 := HZ.out.cell HP4.out c1
          have z2 := HZ.out.cell HP4.out c2
          have z3 := HZ.out.cell HP4.out c3
          have C14 := Lib.hid (z14 HZ.out HGm.out 0 (WalkArith.wf_i64 (by decide)))
          have HBE := Lib.hid (HZX.out.back HZ.out (fun k hk _ => HQ2.out k hk)).end_
          go_wp2_with (first | (go_at_call 14; refine C14.out.mono ?_; rintro e w8 ⟨rfl, hb8⟩) | (go_at_call 15; refine (t15 w8).mono ?_; rintro e w9 ⟨rfl, hb9⟩))
          (try go_wp2)
          go_ret
          exact ⟨rfl, HBE.out.trans ((bThen hb8 hb9).mono HBE.out.size)⟩
    · have hB23 := bThen HBA.out HBX.out
      obtain ⟨P2, hzb, hQ, hQ2, -⟩ := HZW.out.base hB23
      have HZX := Lib.hid (HZW.out.below hB23)
      have HQ2 : Hid (∀ k, k < w.heap.size → P2 k) := fun k hk => hQ2 k hk trivial
      have HP4 : Hid (P2 w2.heap.size) := hQ _ (Nat.le_refl _)
      have hkx := blkDown HKP.out HBX.out
      have c0 := hkx.cell 0 rfl
      have c1 := hkx.cell 1 rfl
      have c2 := hkx.cell 2 rfl
      have c3 := hkx.cell 3 rfl
      have HP2' : Hid (∀ k, w2.heap.size ≤ k → P2 k) := hQ
      have HRP := Lib.hid (HR3.out.below HBX.out)
      have HLP : Hid (∀ rb of', (some a1 : Option Addr) = some ⟨rb, of', none⟩ → 0 < ([] : List (Int × Int)).length → P2 rb) := fun rb of' e h0 => HQ2.out rb (HLT.out rb of' e h0)
      have HGP : Hid (∀ rb of', (some ⟨W3.heap.size, 0, none⟩ : Option Addr) = some ⟨rb, of', none⟩ → 0 < ([] : List (Int × Int)).length → P2 rb) := fun rb of' e _ => HP2'.out rb (HG2.out rb of' e)
      have HZB := Lib.hid hzb
      clear hB23 hQ hQ2 hkx hzb
      obtain ⟨Y, hY⟩ := HG.out.aS
      obtain ⟨X, hX⟩ : ∃ X, X = S.rekE ([] : List (Int × Int)) := ⟨_, rfl⟩
      have C1 := Lib.hid (zrek HZB.out HG.out.ft (some a1 : Option Addr) cap1 ([] : List (Int × Int)) HRP.out HK.out h5)
      have C2 := Lib.hid (fun wz (hz : Zoo P2 (W3.alloc (.cells #[] 42)) wz (fset f 0 (.t t (S.rekS ([] : List (Int × Int)))))) => zrekR hz (c := 0 + 2) (by rw [fset_other _ _ (by omega)]; exact HG.out.fr) hY HG.out.okS (hY.lens HG.out.b5 HG.out.b7) (some ⟨W3.heap.size, 0, none⟩ : Option Addr) 0 ([] : List (Int × Int)) (hz.rows HRX.out HGP.out) HK.out h5)
      rw [← hX] at C1 C2
      simp only [List.length_nil] at C1 C2
      clear hX hY
      go_wp2_with fail
      refine C1.out.mono ?_
      rintro e w4 ⟨rfl, hz4, ho4⟩
      have k2 := hz4.cell HP4.out c2
      have HZ4 := Lib.hid hz4
      have HO4 := Lib.hid ho4
      clear hz4 ho4 C1
      go_wp2_with fail
      refine (C2.out w4 HZ4.out).mono ?_
      rintro e w5 ⟨R', ⟨rfl, ha5, hn5⟩, hz5⟩
      have HZ5 := Lib.hid hz5
      have hgB := HG.out.turned (by have := HN.out; omega) HO4.out ha5 (by have := (pt_rek S ([] : List (Int × Int))).1; omega) (by omega) (by have := (pt_rek S ([] : List (Int × Int))).2; omega)
      have HGB := Lib.hid hgB
      have C19 := Lib.hid (t19o w5 (some ⟨W3.heap.size, 0, none⟩ : Option Addr) (some a1 : Option Addr) 0 cap1 ([] : List (Int × Int)) ([] : List (Int × Int)) (hz5.rows HRX.out HGP.out) (hz5.rows HRP.out HLP.out) (by first | omega | simp))
      simp only [List.length_nil] at C19
      clear hz5 ha5 hn5 hgB C2
      go_wp2_with fail
      refine C19.out.mono ?_
      rintro e w6 ⟨rfl, hb6⟩
      have hzB := HZ5.out.below hb6
      have hgB := HGB.out
      clear hb6 C19 HGB k2
      have L0 := Lib.hid hzB
      have LG := Lib.hid hgB
      clear hzB hgB
      go_wp2_with fail
      go_loopw [10, 11] (fun i u wr => ∃ (q M : Nat) (S O : Tb) (R Q : Rt) (f' : Nat → Option Th), q ≤ 5 ∧ i = .int .i64 q ∧ M ≤ 101 + 3 * q ∧ Hid (Zoo P2 (W3.alloc (.cells #[] 42)) wr f') ∧ Hid (Game 0 M f' t o r p S O R Q)) (fun i _ _ => 5 - (intOf i).toNat)
      case atStart => exact ⟨0, _, _, _, _, _, _, Nat.zero_le _, rfl, by have := HN.out; omega, L0, LG⟩
      case round =>
        obtain ⟨q, M, S1, O1, R1, Q1, f1, hq, rfl, hM, HZ, HGm⟩ := hrel
        clear L0 LG
        by_cases hq5 : q < 5
        · have hq5' : (q : Int) < 5 := by omega
          go_wp2_with fail
          go_loopw [11] (fun i wr => ∃ (k M : Nat) (S O : Tb) (R Q : Rt) (f' : Nat → Option Th), k ≤ 3 ∧ i = .int .i64 k ∧ M ≤ 101 + 3 * q + k ∧ Hid (Zoo P2 (W3.alloc (.cells #[] 42)) wr f') ∧ Hid (Game 0 M f' t o r p S O R Q)) (fun i _ => 3 - (intOf i).toNat)
          case atStart => exact ⟨0, _, _, _, _, _, _, Nat.zero_le _, rfl, hM, HZ, HGm⟩
          case round =>
            obtain ⟨k, M2, S2, O2, R2, Q2, f2, hk3, rfl, hM2, HZ2, HG2m⟩ := hrel
            clear HZ HGm hM
            by_cases hk5 : k < 3
            · have hk5' : (k : Int) < 3 := by omega
              have z0 := HZ2.out.cell HP4.out c0
              have z1 := HZ2.out.cell HP4.out c1
              have z2 := HZ2.out.cell HP4.out c2
              have z3 := HZ2.out.cell HP4.out c3
              have C13 := Lib.hid (t13 wr HZ2.out HG2m.out (by omega) 4 (q : Int) 0 (wf_nat (by omega)) none 0 0 [] rfl (Nat.le_refl _) (by unfold maxLen; omega) (fun j k v hj => by simp at hj) (fun rb o e => by cases e) (fun p hp => by cases hp))
              go_wp2_with fail
              refine C13.out.mono ?_
              rintro e w9 ⟨rfl, f3, S3, O3, R3, Q3, hz, hgm, -⟩
              have HZ3 := Lib.hid hz
              have HG3 := Lib.hid hgm
              clear hz hgm C13 HZ2 HG2m z0 z1 z2 z3
              go_wp2_with fail
              go_roundw
              case rel => exact ⟨k + 1, _, S3, O3, R3, Q3, f3, by omega, by go_num, by omega, HZ3, HG3⟩
              case measure => simp [intOf]; omega
            · have hk5' : ¬ ((k : Int) < 3) := by omega
              go_wp2_with fail
              go_roundw
              case rel => exact ⟨q + 1, _, S2, O2, R2, Q2, f2, by omega, by go_num, by omega, HZ2, HG2m⟩
              case measure => simp [intOf]; omega
        · have hq5' : ¬ ((q : Int) < 5) := by omega
          have z0 := HZ.out.cell HP4.out c0
          have z1 := HZ.out.cell HP4.out c1
          have z2 := HZ.out.cell HP4.out c2
          have z3 := HZ.out.cell HP4.out c3
          have C14 := Lib.hid (z14 HZ.out HGm.out 0 (WalkArith.wf_i64 (by decide)))
          have HBE := Lib.hid (HZX.out.back HZ.out (fun k hk _ => HQ2.out k hk)).end_
          go_wp2_with (first | (go_at_call 14; refine C14.out.mono ?_; rintro e w8 ⟨rfl, hb8⟩) | (go_at_call 15; refine (t15 w8).mono ?_; rintro e w9 ⟨rfl, hb9⟩))
          (try go_wp2)
          go_ret
          exact ⟨rfl, HBE.out.trans ((bThen hb8 hb9).mono HBE.out.size)⟩
end Go.Proofs.Ytagejkolgicecaa
