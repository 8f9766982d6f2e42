/- Contract of a natural's text: bytes of the call's own. -/
import Derived.Test.YtifhiefdhhmdeaaGreatDoorZ
import Derived.Test.YtifhiefdhhmdeaaGreatDoorMc
import Derived.Test.YtifhiefdhhmdeaaGreatDoorR
import Derived.Test.YtifhiefdhhmdeaaGreatDoorS
namespace Go.Proofs.YtifhiefdhhmdeaaGreatDoor
open Go Go.RowKit

theorem fold_push (l : List UInt8) : ∀ r : ByteArray, (l.map fun b => (b.toNat : Int)).foldl (fun r n => r.push (UInt8.ofNat n.toNat)) r = ⟨r.data ++ l.toArray⟩ := by
  induction l with
  | nil => intro r; simp
  | cons b l ih =>
    intro r
    rw [List.map_cons, List.foldl_cons, ih]
    have e : UInt8.ofNat ((b.toNat : Int)).toNat = b := by simp
    rw [e]
    show (⟨(r.data.push b) ++ l.toArray⟩ : ByteArray) = _
    congr 1
    simp

theorem conv_row (W : World) (B : Nat) (v : Value) (l : List UInt8) (h : W.ownsRow B 5 1 v l.length (Lib.byteCells l)) :
    (convert 63 9 v).run Tryz.prog W = .ok (.string ⟨l.toArray⟩) W := by
  rcases h.2 with ⟨hv, h0⟩ | ⟨g, cap, cur, hv, hB, hg, r⟩
  · subst hv
    have hl : l = [] := List.eq_nil_of_length_eq_zero h0
    subst hl
    rw [run_convert_bytes_string _ 63 9 5 _ _ _ Tryz.underlying63 Tryz.underlying5 Tryz.underlying9]
    rfl
  · subst hv
    rw [run_convert_bytes_string _ 63 9 5 _ _ _ Tryz.underlying63 Tryz.underlying5 Tryz.underlying9, run_bytesToString _ _ _ _ (l.map fun b => (b.toNat : Int)) ?_, fold_push]
    · simp [ByteArray.empty, ByteArray.emptyWithCapacity]; rfl
    · have := run_loadCells_list (P := Tryz.prog) (w := W) ⟨g, 0, none⟩ (Lib.byteCells l) (fun j u hj => by
        have hjl : j < l.length := by
          rcases Nat.lt_or_ge j (Lib.byteCells l).length with h' | h'
          · rw [Lib.byteCells_length] at h'; exact h'
          · rw [List.getElem?_eq_none h'] at hj; cases hj
        have e : (⟨g, 0, none⟩ : Addr).add j = ⟨g, j, none⟩ := by simp [Addr.add]; intro h; exact h.symm
        rw [e, h.cellAt j (by omega)]
        exact hj)
      rw [Lib.byteCells_length] at this
      rw [this]
      simp [Lib.byteCells]

theorem infoB : (Tryz.prog.info? 5).map (fun i => (i.zero, i.size, i.bytes)) = some (some (.int .u8 0), 1, 1) := by kernel_rfl
theorem app8 {w : World} {ops : Array Oper} {rest : List Oper} {o : Oper} {a : Act} {Q : Exit → Act → World → Prop} (hgd : o.guard = none) (s x : Operand)
    (ho : o.op = .call { callee := .builtin .append, args := #[s, x], argTypes := #[63, 63] }) (base : Nat) (v : Value) (n : Nat) (ys : List UInt8) (hs : a.eval s = v) (hown : w.ownsRow base 5 1 v n (c8 ys))
    (g c : Nat) (C : UInt8) (hx : a.eval x = .slice (some ⟨g, 0, none⟩) 1 c) (hc : w.cell? ⟨g, 0, none⟩ = some (.int .u8 (C.toNat : Int))) (hn : n ≤ 1000000000) (hbase : base ≤ w.heap.size)
    (h : ∀ v' w', Hid (w'.ownsRow base 5 1 v' (n + 1) (c8 (ys ++ [C]))) → Hid (w.grownBy w' v.ownBlock) → wpList Tryz.prog ops Q rest (a.put o.dst v') w') :
    wpList Tryz.prog ops Q (o :: rest) a w := by
  obtain ⟨i0, hi, hz0, hz1, hz2⟩ := info_parts infoB
  refine wpList_append_own w hgd s x 63 ho base 5 i0 (.int .u8 0) 1 1 Tryz.underlying63 hi hz0 hz1 hz2 rfl (by decide) v n (c8 ys) hs hown ⟨g, 0, none⟩ 1 c [.int .u8 (C.toNat : Int)] hx rfl ?_ (by simp [Value.oneCell']) (by unfold maxLen; omega) (by omega) hbase (fun v' w' h1 h2 _ => h v' w' ?_ h2)
  · intro j u hu
    rw [add_addr, Nat.zero_add]
    cases j with
    | zero => simp at hu; rw [← hu]; exact hc
    | succ j => simp at hu
  · show World.ownsRow _ _ _ _ _ _ _
    rw [c8, List.map_append]
    exact h1
theorem symsB_size : symsB.size = 36 := rfl
theorem syms_fin : ∀ d : Fin 36, symsB[d.val]'(by rw [symsB_size]; exact d.isLt) = chr d.val := by decide
theorem syms_at (d : Nat) (h : d < 36) : symsB[d]'(by rw [symsB_size]; exact h) = chr d := syms_fin ⟨d, h⟩
theorem Nt.keptBy {w w' : World} {v u : Value} {n k B : Nat} {xs : List Value} (h : Nt w v n) (hr : w.ownsRow B 5 1 u k xs) (hg : w.grownBy w' u.ownBlock) : Nt w' v n := by
  refine h.kept hg ?_
  rcases row_cases h with ⟨_, h2 | ⟨g, cs, h2, _, _, h5, _⟩⟩
  · exact .inl (by rw [h2.1]; rfl)
  · right
    intro he
    rcases row_cases hr with ⟨_, k2 | ⟨g', cs', k2, _, _, k5, _⟩⟩
    · rw [k2.1, h2] at he; simp [Value.ownBlock] at he
    · rw [k2, h2] at he
      simp [Value.ownBlock] at he
      subst he
      have h9 : some (Obj.cells cs.toArray 143 (0, 0)) = some (Obj.cells cs'.toArray 5 (0, 0)) := h5.symm.trans k5
      simp at h9
def TxtR (s : List UInt8) (w : World) (e : Ending) (w' : World) : Prop := e = .returned (.string ⟨s.toArray⟩) ∧ Below w.heap.size w w'

theorem t151n (w : World) : Calls Tryz.prog 151 #[.slice none 0 0] w fun e w' => (∃ v, e = .returned v) ∧ w = w' := by
  go_enter Tryz.func151, Tryz.ntmps151
  go_wp2
  go_loop [2, 3] (fun i j => i = .int .i64 0 ∧ j = .int .i64 (-1)) (fun _ _ => 0)
  case atStart => exact ⟨rfl, rfl⟩
  case round =>
    obtain ⟨rfl, rfl⟩ := hrel
    go_wp2
    go_end0
    exact ⟨⟨_, rfl⟩, rfl⟩
set_option maxRecDepth 100000 in
set_option maxHeartbeats 4000000 in
theorem t127 (va : Value) (N b : Nat) (w : World) (hA : Nt w va N) (hl : Lw N ≤ 100000) (hb0 : 2 ≤ b) (hb : b ≤ 36) :
    Calls Tryz.prog 127 #[va, .int .i64 b] w (TxtR (txt b N) w) := by
  have HA := Lib.hid hA
  have c0 := t150 b w hb0 hb
  have C0 := Lib.hid c0
  clear hA c0
  go_enter Tryz.func127, Tryz.ntmps127
  go_wp2_with fail
  refine C0.out.mono ?_
  rintro e w' ⟨p, hp1, hp2, hpp, rfl, rfl⟩
  have HCNT := Lib.hid (fun ds X hX h => count_le (b := b) hb0 ds X N hX h)
  have hP0 : 0 < b ^ p := Nat.pow_pos (by omega)
  have HPP := Lib.hid hpp
  generalize hP : b ^ p = P at *
  have HP := Lib.hid hP
  clear hP
  go_wp2_with fail
  go_loopw [0, 7] (fun u v wr => ∃ (X : Nat) (ds : List Nat), Hid (Nt wr u X) ∧ X ≤ N ∧ Hid (∀ d ∈ ds, d < b) ∧ Hid (val b ds + b ^ ds.length * X = N) ∧ Hid (wr.ownsRow w.heap.size 5 1 v ds.length (c8 (ds.map chr))) ∧ ds.length ≤ 32 * Lw N + 32 ∧ Below w.heap.size w wr) (fun u _ wr => natOf wr u)
  case atStart => exact ⟨N, [], HA, Nat.le_refl _, by first | (intro d hd; cases hd) | trivial, by show _ = _; simp, World.ownsRow_nil _ _ _ _, by simp, Below.refl _ _⟩
  case round =>
    obtain ⟨X, ds, hX, hXN, hds, hv, hrow, hdl, hbl⟩ := hrel
    obtain ⟨wo, rfl⟩ : ∃ wo : World, wo = wr := ⟨_, rfl⟩
    have hlX := Nat.le_trans (Lw_mono hXN) hl
    by_cases h0 : X = 0
    · subst h0
      obtain ⟨pa, ca, rfl, -, -, -⟩ := hX.out.cells
      rw [show Lw 0 = 0 from rfl]
      have hvd : val b ds = N := by have := hv.out; rw [Nat.mul_zero, Nat.add_zero] at this; exact this
      have hte := text_end hb0 (by omega) ds hds.out N hvd
      have hbr := txt_bare b N hb0
      have HTE := Lib.hid hte
      have HBR := Lib.hid hbr
      have hcn : ds.length ≤ 1000000000 := by omega
      clear hvd hte hbr
      rcases row_cases hrow.out with ⟨hl0, h2 | ⟨g, cs, h2, h3, h4, h5, h6, h7, h8⟩⟩
      · obtain ⟨rfl, h2, -⟩ := h2
        have hdn : ds = [] := List.length_eq_zero_iff.1 h2
        have hbe : Hid (bare b N = []) := by show _ = _; rw [← HTE.out, hdn]; rfl
        have ct := Tryz.strings_TrimLeft_one ⟨#[]⟩ 48 (by decide) wo
        rw [show (⟨(Lib.trimLeftB (⟨#[]⟩ : ByteArray).data.toList 48).toArray⟩ : ByteArray) = ⟨#[]⟩ from rfl] at ct
        have CT := Lib.hid ct
        have hcv : (convert 63 9 (.slice none 0 0)).run Tryz.prog wo = .ok (.string ⟨#[]⟩) wo := conv_row wo 0 (.slice none 0 0) [] (World.ownsRow_nil _ _ _ _)
        clear hl0 h2 hdn ct
        go_wp2_with fail
        refine (t151n wo).mono ?_
        rintro e w2 ⟨⟨v, rfl⟩, rfl⟩
        go_wp2_with fail
        refine CT.out.mono ?_
        rintro e w3 ⟨rfl, rfl⟩
        go_wp2_with fail
        go_ret
        refine ⟨?_, hbl⟩
        rw [HBR.out, if_pos hbe.out]
        rfl
      · subst h2
        obtain ⟨post, hcs⟩ : ∃ post, cs = c8 (ds.map chr) ++ post := ⟨cs.drop ds.length, by rw [← h8, List.take_append_drop]⟩
        have hcl : (c8 (ds.map chr) ++ post).length = cs.length := by rw [← hcs]
        rw [hcs] at h5
        have hcap : cs.length ≤ maxLen := h7
        generalize cs.length = cap at *
        have c2 := t151 g ds.length cap (ds.map chr) post wo (by simp) hcn h5
        have C2 := Lib.hid c2
        have HCL := Lib.hid hcl
        have HH3 := Lib.hid h3
        have hcapH := Lib.hid hcap
        clear hl0 hcs h5 h6 h7 h8 hcl c2 hcap h3 h4
        go_wp2_with fail
        refine C2.out.mono ?_
        rintro e w2 ⟨⟨v, rfl⟩, hb2, hg2⟩
        have hB2 : Below w.heap.size w w2 := hbl.grown hg2 hbl.size (fun q hq => by have h8 : g = q := (by simpa using hq); have := HH3.out; omega)
        have hrow2 : w2.ownsRow 0 5 1 (.slice (some ⟨g, 0, none⟩) ds.length cap) (ds.map chr).reverse.length (Lib.byteCells (ds.map chr).reverse) := by
          have h9 := hb2.row (base := 0) (n := ds.length) (Nat.zero_le _) (by simp) (by
            have := HCL.out
            simp only [List.length_append, List.length_map, List.length_reverse] at this ⊢
            rw [this]; exact hcapH.out)
          have h10 := HCL.out
          simp only [List.length_append, List.length_map, List.length_reverse] at h9 h10
          rw [h10, List.take_append_of_le_length (by simp), List.take_of_length_le (by simp)] at h9
          simpa [Lib.byteCells] using h9
        have hcv := conv_row w2 0 _ _ hrow2
        have ct := Tryz.strings_TrimLeft_one ⟨((ds.map chr).reverse).toArray⟩ 48 (by decide) w2
        rw [show Lib.trimLeftB (⟨((ds.map chr).reverse).toArray⟩ : ByteArray).data.toList 48 = bare b N from by rw [← HTE.out]; rfl] at ct
        have CT := Lib.hid ct
        generalize (⟨((ds.map chr).reverse).toArray⟩ : ByteArray) = sb at hcv CT
        obtain ⟨tb, htb⟩ : ∃ tb : ByteArray, tb = ⟨(bare b N).toArray⟩ := ⟨_, rfl⟩
        rw [← htb] at CT
        have HTB := Lib.hid htb
        have HB2 := Lib.hid hB2
        clear hb2 hg2 hrow2 ct hB2 htb
        by_cases hbe : bare b N = []
        · have h1 : tb.toList.isEmpty = true := by
            rw [ByteArray.toList_eq, HTB.out]; simp [hbe]
          have HBE := Lib.hid hbe
          clear hbe
          go_wp2_with fail
          refine CT.out.mono ?_
          rintro e w3 ⟨rfl, rfl⟩
          go_wp2_with fail
          go_ret
          refine ⟨?_, HB2.out⟩
          rw [HBR.out, if_pos HBE.out]
          rfl
        · have h1 : tb.toList.isEmpty = false := by
            rw [ByteArray.toList_eq, HTB.out]; simp [hbe]
          have h1' : (!tb.toList.isEmpty) = true := by rw [h1]; rfl
          have HBE := Lib.hid hbe
          clear hbe
          go_wp2_with fail
          refine CT.out.mono ?_
          rintro e w3 ⟨rfl, rfl⟩
          go_wp2_with fail
          go_ret
          refine ⟨?_, HB2.out⟩
          rw [HBR.out, if_neg HBE.out, ← HTB.out]
          rfl
    · obtain ⟨pa, ca, rfl, -, -, -⟩ := hX.out.cells
      have hpos := Lw_pos (show 0 < X by omega)
      have hgt : (0 : Int) < Lw X := by omega
      have hcnt := HCNT.out ds X (by omega) hv.out
      have c1 := t144 _ X P wo hX.out (by omega) hP0 HPP.out
      have C1 := Lib.hid c1
      have HNAT := Lib.hid (natOf_eq hX.out)
      clear c1
      go_wp2_with fail
      refine C1.out.mono ?_
      rintro e w2 ⟨vq, rfl, hq, hb2⟩
      have hq2 := Lib.hid hq
      have hB2 := hbl.trans (hb2.mono hbl.size)
      have hrow2 := Lib.hid (ownsRow_below hrow.out hb2)
      have hpl : X % P < 4294967296 := Nat.lt_of_lt_of_le (Nat.mod_lt _ hP0) (Nat.le_of_lt HPP.out)
      have hXQ : X / P ≤ N := Nat.le_trans (Nat.div_le_self _ _) hXN
      have HXQ : Hid (X / P < X) := Nat.div_lt_self (by omega) (by
        have h1 := HP.out
        have h2 : b ^ 1 ≤ b ^ p := Nat.pow_le_pow_right (by omega) hp1
        rw [h1, Nat.pow_one] at h2
        omega)
      clear hq hb2
      go_wp2_with fail
      go_loopw [26, 7, 9] (fun i v q wr => ∃ (j pt : Nat) (es : List Nat), j ≤ p ∧ i = .int .i64 j ∧ q = .int .u32 pt ∧ pt < 4294967296 ∧ Hid (es.length = j) ∧ Hid (∀ d ∈ es, d < b) ∧ Hid (val b es + b ^ es.length * pt = X % P) ∧ Hid (wr.ownsRow w.heap.size 5 1 v (ds ++ es).length (c8 ((ds ++ es).map chr))) ∧ Hid (Nt wr vq (X / P)) ∧ Below w.heap.size w wr) (fun i _ _ _ => p - (intOf i).toNat)
      case atStart => exact ⟨0, X % P, [], by omega, rfl, rfl, hpl, rfl, by first | (intro d hd; cases hd) | trivial, by show _ = _; simp, by rw [List.append_nil]; exact hrow2, hq2, hB2⟩
      case round =>
        obtain ⟨j, pt, es, hj, rfl, rfl, hpt, hel, hed, hev, hrow3, hq3, hbl3⟩ := hrel
        by_cases hjp : j < p
        · have hdm : pt % b < b := Nat.mod_lt _ (by omega)
          have hsy := syms_at (pt % b) (by omega)
          have hidx : ((pt : Int) % (b : Int)) = ((pt % b : Nat) : Int) := (Int.natCast_emod pt b).symm
          have hi1 : ((pt : Int) % (b : Int)) < 36 := by rw [hidx]; omega
          have hi0 : 0 ≤ ((pt : Int) % (b : Int)) := by rw [hidx]; omega
          have hbz : ((b : Int) == 0) = false := by simp; omega
          have HIDX := Lib.hid hidx
          have HSY := Lib.hid hsy
          have hcnt2 : (ds ++ es).length ≤ 1000000000 := by rw [List.length_append, hel.out]; omega
          clear hidx hsy
          have hmore := digit_more (b := b) es pt (X % P) hev.out
          have HMORE := Lib.hid hmore
          have HQI : Hid ((pt : Int) / (b : Int) = ((pt / b : Nat) : Int)) := (Int.natCast_ediv pt b).symm
          have hptb : pt / b < 4294967296 := Nat.lt_of_le_of_lt (Nat.div_le_self _ _) hpt
          have hbs3 := hbl3.size
          clear hmore
          go_wp2_with (at_builtin; refine app8 rfl _ _ rfl w.heap.size u7 _ ((ds ++ es).map chr) rfl (hrow3.out.alloc _) wr.heap.size 1 (chr (pt % b)) rfl ((Blk.new wr _ 5).cell 0 (congrArg some (congrArg (fun c : UInt8 => Value.int .u8 (c.toNat : Int)) HSY.out))) hcnt2 (Nat.le_trans hbs3 (by simp)) ?_; intro v' w4 hown' hgrow)
          have hgr4 := hgrow.out
          have hnt4 := (hq3.out.below ((Below.refl _ _).alloc (Nat.le_refl _) _)).keptBy (hrow3.out.alloc _) hgr4
          have hb4 : Below w.heap.size w w4 := (hbl3.alloc hbs3 _).grown hgr4 (Nat.le_trans hbs3 (by simp)) (fun q hq => (hrow3.out.lt q hq).1)
          have HNT4 := Lib.hid hnt4
          have HB4 := Lib.hid hb4
          clear hnt4 hb4 hgr4 hgrow
          go_wp2
          go_roundw
          case rel => exact ⟨j + 1, pt / b, es ++ [pt % b], by omega, by go_num, congrArg (Value.int .u32) (by rw [HQI.out]; exact Int.emod_eq_of_lt (Int.natCast_nonneg _) (Int.ofNat_lt.2 hptb)), hptb, by show _ = _; rw [List.length_append, hel.out]; rfl, fun d hd => by
            rcases List.mem_append.1 hd with h | h
            · exact hed.out d h
            · rw [List.mem_singleton.1 h]; exact hdm, HMORE.out, by
            have h9 := hown'.out
            rw [← List.map_singleton, ← List.map_append, List.append_assoc] at h9
            show World.ownsRow _ _ _ _ _ _ _
            rw [← List.append_assoc, List.length_append, List.append_assoc]
            exact h9, HNT4.out, HB4.out⟩
          case measure => first | (simp [intOf]; omega) | simp [intOf]
        · obtain rfl : j = p := by omega
          have hv2 : pt = 0 ∧ val b es = X % P := by
            have h1 := hev.out
            have h2 := Nat.mod_lt X hP0
            rw [hel.out, HP.out] at h1
            rcases Nat.eq_zero_or_pos pt with h3 | h3
            · subst h3; omega
            · have : P * 1 ≤ P * pt := Nat.mul_le_mul_left _ h3
              omega
          have hpc := piece (b := b) ds es j (X / P) (X % P) N hel.out (by rw [HP.out, Nat.mul_comm (X / P), Nat.div_add_mod]; exact hv.out) hv2.2
          have HPC := Lib.hid hpc
          clear hpc hv2
          go_wp2
          go_roundw
          case rel => exact ⟨X / P, ds ++ es, hq3, hXQ, fun d hd => by
            rcases List.mem_append.1 hd with h | h
            · exact hds.out d h
            · exact hed.out d h, HPC.out, hrow3, by rw [List.length_append, hel.out]; omega, hbl3⟩
          case measure => rw [natOf_eq hq3.out, HNAT.out]; exact HXQ.out
end Go.Proofs.YtifhiefdhhmdeaaGreatDoor
