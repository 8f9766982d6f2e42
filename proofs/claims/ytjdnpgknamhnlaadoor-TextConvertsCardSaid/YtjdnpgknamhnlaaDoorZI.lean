/- Contracts of chars and Of. -/
import Derived.Test.YtjdnpgknamhnlaaDoorZH
namespace Go.Proofs.YtjdnpgknamhnlaaDoor
open Go Go.RowKit Go.Shelf

def chrS (e c : Int) : ByteArray := (chrOf e c).getD ⟨#[]⟩
def allOk (e : Int) (cs : List Int) : Bool := cs.all fun c => (chrOf e c).isSome
def ofT (e : Int) (cs : List Int) : ByteArray := glue (cs.map (chrS e))
theorem chrS_size (e c : Int) : (chrS e c).size ≤ 4 := by
  unfold chrS
  cases h : chrOf e c with
  | none => decide
  | some x => exact chr_size e c x h
theorem ofT_sum (e : Int) (cs : List Int) (h : cs.length ≤ 100000) : sumS (cs.map (chrS e)) ≤ 140737488355328 := by
  have := sumS_le (cs.map (chrS e)) 4 (fun p hp => by
    obtain ⟨c, _, rfl⟩ := List.mem_map.1 hp
    exact chrS_size e c)
  simp at this
  omega
def CharsRes (B : Nat) (e : Int) (cs : List Int) (r : Ending) (W' : World) : Prop :=
  (allOk e cs = true ∧ ∃ v, r = .returned (.tuple #[v, .bool true]) ∧ W'.ownsRow B 9 1 v cs.length ((cs.map (chrS e)).map Value.string)) ∨
  (allOk e cs = false ∧ r = .returned (.tuple #[.slice none 0 0, .bool false]))

set_option maxRecDepth 100000 in
set_option maxHeartbeats 2000000 in
theorem t53 {w0 : World} {e : Int} {kv kn kc : Nat} {lb : Array Value} (hC : CodOk w0 e kv kn kc lb) (c1 c2 : Value) (cs : List Int) (v : Value) (w : World) (hb0 : Below w0.heap.size w0 w) (hv : IntsRead w v cs) (hl : cs.length ≤ 100000) :
    Calls Tryd.prog 53 #[.agg #[c1, c2, .func (.func kc) #[] lb], v] w fun r W' => CharsRes w.heap.size e cs r W' ∧ Below w.heap.size w W' := by
  obtain ⟨ao, cap, rfl, hcells⟩ := hv
  have HC := Lib.hid hcells
  clear hcells
  have hent := hC.entersC
  obtain ⟨i0, hi, hz0, hz1, hz2⟩ := info_parts infoStr
  obtain ⟨W1, hW1⟩ : ∃ W1, w.alloc (.cells #[c1, c2, .func (.func kc) #[] lb] 64) = W1 := ⟨_, rfl⟩
  have hsz1 : W1.heap.size = w.heap.size + 1 := by rw [← hW1]; simp
  have hB1 : Below w.heap.size w W1 := by rw [← hW1]; exact (Below.refl _ _).alloc (Nat.le_refl _) _
  have kfn : W1.cell? ⟨w.heap.size, 2, none⟩ = some (.func (.func kc) #[] lb) := by rw [← hW1]; simp
  have hb01 : Below w0.heap.size w0 W1 := by rw [← hW1]; exact hb0.alloc hb0.size _
  go_enter Tryd.func53, Tryd.ntmps53
  go_wp2_with (at_make; refine wpList_make_own _ rfl _ _ 76 rfl (w.heap.size + 1) 9 i0 (.string ⟨#[]⟩) 1 Tryd.underlying76 hi hz0 hz1 _ _ _ cs.length rfl rfl (by omega) (by rw [hz2]; omega) (by unfold maxLen; omega) (by omega) ?_; intro w4 hown hgrow)
  have hB4 : Below (w.heap.size + 1) W1 w4 := (Below.refl _ W1).grown hgrow (by omega) (fun j hj => by cases hj)
  rw [hsz1] at hown
  have hgl : ∀ (W : World), Below (w.heap.size + 1) W1 W → W.cell? ⟨w.heap.size, 2, none⟩ = some (.func (.func kc) #[] lb) := fun W hb => (hb.cell (p := ⟨w.heap.size, 2, none⟩) (by show w.heap.size < _; omega)).trans kfn
  have HK := Lib.hid hgl
  clear kfn hgl hgrow
  go_loopw [6, 8, 9, 10, 16] (fun v _ _ _ i wr => ∃ k : Nat, k ≤ cs.length ∧ i = .int .i64 k ∧ wr.ownsRow (w.heap.size + 1) 9 1 v k (((cs.take k).map (chrS e)).map Value.string) ∧ Go.RowKit.Hid (∀ c ∈ cs.take k, (chrOf e c).isSome = true) ∧ Below (w.heap.size + 1) W1 wr) (fun _ _ _ _ i _ => cs.length - (Go.RowKit.intOf i).toNat)
  case atStart => exact ⟨0, Nat.zero_le _, rfl, hown, (by show ∀ c ∈ _, _; simp), hB4⟩
  case round =>
    obtain ⟨k, hk, rfl, hrow, hok, hB⟩ := hrel
    obtain ⟨ao', cap', rfl⟩ := row_slice hrow
    have hBw : Below w.heap.size w wr := hB1.trans (hB.mono (by omega))
    have hsz := hB.size
    by_cases hlt : k < cs.length
    · have hki : (k : Int) < cs.length := by omega
      obtain ⟨g, off, rfl, hgs, x1⟩ := HC.out k hlt
      have y1 := (hBw.cell (p := ⟨g, off + k, none⟩) hgs).trans x1
      have yk := HK.out _ hB
      have htk := Lib.hid (List.take_succ_eq_append_getElem hlt)
      have hmem := Lib.hid (List.getElem_mem hlt)
      obtain ⟨c, hc⟩ : ∃ c, cs[k] = c := ⟨_, rfl⟩
      rw [hc] at y1 htk hmem
      clear x1 hc
      have hchar := fun W hb => hC.char W c hb
      cases ho : chrOf e c with
      | none =>
        rw [ho] at hchar
        simp only [Option.getD_none, Option.isSome_none] at hchar
        have Ho := Lib.hid ho
        have HCh := Lib.hid hchar
        clear ho hchar
        go_wp2_with fail
        refine (HCh.out _ (hb01.trans (hB.mono (by have := hb0.size; omega)))).mono ?_
        rintro r1 w5 ⟨rfl, hb5⟩
        go_wp2
        go_ret2
        refine ⟨.inr ⟨?_, rfl⟩, hBw.trans (hb5.mono hBw.size)⟩
        cases hx : allOk e cs with
        | false => rfl
        | true =>
          have := List.all_eq_true.1 hx c hmem.out
          rw [Ho.out] at this
          cases this
      | some y =>
        rw [ho] at hchar
        simp only [Option.getD_some, Option.isSome_some] at hchar
        have Ho := Lib.hid ho
        have HCh := Lib.hid hchar
        clear ho hchar
        have hok2 : Go.RowKit.Hid (∀ c ∈ cs.take (k + 1), (chrOf e c).isSome = true) := by
          show ∀ q ∈ _, _
          rw [htk.out]
          intro q hq
          rcases List.mem_append.1 hq with hq | hq
          · exact hok.out q hq
          · rw [List.mem_singleton.1 hq, Ho.out]; rfl
        go_wp2_with fail
        refine (HCh.out _ (hb01.trans (hB.mono (by have := hb0.size; omega)))).mono ?_
        rintro r1 w5 ⟨rfl, hb5⟩
        have hrow5 := ownsRow_below hrow hb5
        have hB5 := hB.trans (hb5.mono (by omega))
        go_wp2_with (at_builtin; refine wpList_append_own _ rfl _ _ 76 rfl (w.heap.size + 1) 9 i0 (.string ⟨#[]⟩) 1 16 Tryd.underlying76 hi hz0 hz1 hz2 rfl (by decide) _ _ _ rfl (hrow5.alloc _) ⟨w5.heap.size, 0, none⟩ 1 1 [.string y] rfl rfl (cell_one_new _ _ _) (by simp [Value.oneCell']) (by unfold maxLen; omega) (by omega) (by have := hB5.size; simp; omega) ?_; intro v' w6 hown' hgrow _; obtain ⟨g', cap'', rfl⟩ := ownsRow_succ hown')
        have hB6 : Below (w.heap.size + 1) W1 w6 := (hB5.alloc (by have := hB5.size; omega) _).grown hgrow (by have := hB5.size; simp; omega) (fun j hj => (hrow5.lt j hj).1)
        go_roundw
        case rel =>
          refine ⟨k + 1, by omega, by go_num, ?_, hok2, hB6⟩
          rw [htk.out, List.map_append, List.map_append]
          have : chrS e c = y := by unfold chrS; rw [Ho.out]; rfl
          simp only [List.map_cons, List.map_nil, this]
          exact hown'
        case measure => simp [Go.RowKit.intOf]; omega
    · have hki : (cs.length : Int) ≤ k := by omega
      have htk : Go.RowKit.Hid (cs.take k = cs) := by show _ = _; rw [List.take_of_length_le (by omega)]
      have hkl : k = cs.length := by omega
      subst hkl
      go_wp2
      go_ret2
      rw [htk.out] at hrow
      have h1 := hok.out
      rw [htk.out] at h1
      exact ⟨.inl ⟨List.all_eq_true.2 h1, _, rfl, ownsRow_mono hrow (by omega)⟩, hBw⟩

set_option maxRecDepth 100000 in
set_option maxHeartbeats 1000000 in
theorem t23_arg (v : Value) (e : Int) (w : World) (he : isEnc e = false) :
    Calls Tryd.prog 23 #[v, .int .i64 e] w fun e' w' => e' = .returned (.tuple #[.string ⟨#[]⟩, .int .i64 1]) ∧ Below w.heap.size w w' := by
  have cc := c47_no e w he
  clear he
  go_enter Tryd.func23, Tryd.ntmps23
  go_wp2_with (go_at_call 47; refine cc.mono ?_; rintro e' w1 ⟨rfl, hb1⟩)
  go_ret2
  exact ⟨rfl, hb1.alloc hb1.size _⟩

set_option maxRecDepth 100000 in
set_option maxHeartbeats 2000000 in
theorem t23 (cs : List Int) (v : Value) (e : Int) (w : World) (hT : Lib.Utf8Tabs 0 1 w) (he : isEnc e = true) (hv : IntsRead w v cs) (hl : cs.length ≤ 100000) (hall : allOk e cs = true) :
    Calls Tryd.prog 23 #[v, .int .i64 e] w fun e' w' => e' = .returned (.tuple #[.string (ofT e cs), .int .i64 0]) ∧ Below w.heap.size w w' := by
  have cc := c47 e w hT he
  have hsum := Lib.hid (ofT_sum e cs hl)
  have HV := Lib.hid hv
  have Hok := Lib.hid hall
  clear he hv hall
  go_enter Tryd.func23, Tryd.ntmps23
  go_wp2_with fail
  refine cc.mono ?_
  rintro e' w1 ⟨⟨c, rfl, kv, kn, kc, lb, rfl, hcod⟩, hb1⟩
  have hB1 : Below w.heap.size w (w1.alloc (.cells #[.func (.func kv) #[] #[], .func (.func kn) #[] lb, .func (.func kc) #[] lb] 64)) := hb1.alloc hb1.size _
  have hB0 : Below w1.heap.size w1 (w1.alloc (.cells #[.func (.func kv) #[] #[], .func (.func kn) #[] lb, .func (.func kc) #[] lb] 64)) := (Below.refl _ w1).alloc (Nat.le_refl _) _
  have c5 := t53 hcod (.func (.func kv) #[] #[]) (.func (.func kn) #[] lb) cs v _ hB0 (HV.out.below hB1) hl
  go_wp2_with fail
  refine c5.mono ?_
  rintro e' w2 ⟨hres, hb2⟩
  have hB2 := hB1.trans (hb2.mono hB1.size)
  rcases hres with ⟨hok, v2, rfl, hrow⟩ | ⟨hno, rfl⟩
  · have hlen : ((cs.map (chrS e))).length = cs.length := by simp
    have cJ := c54 (cs.map (chrS e)) v2 w2 (joinRead_of_row (by rw [hlen]; exact hrow)) hsum.out (by omega)
    clear hok hrow hlen
    go_wp2_with fail
    refine cJ.mono ?_
    rintro e' w3 ⟨rfl, hb3⟩
    go_wp2
    go_ret2
    exact ⟨rfl, hB2.trans (hb3.mono hB2.size)⟩
  · rw [Hok.out] at hno; cases hno

set_option maxRecDepth 100000 in
set_option maxHeartbeats 2000000 in
theorem t23_no (cs : List Int) (v : Value) (e : Int) (w : World) (hT : Lib.Utf8Tabs 0 1 w) (he : isEnc e = true) (hv : IntsRead w v cs) (hl : cs.length ≤ 100000) (hall : allOk e cs = false) :
    Calls Tryd.prog 23 #[v, .int .i64 e] w fun e' w' => e' = .returned (.tuple #[.string ⟨#[]⟩, .int .i64 5]) ∧ Below w.heap.size w w' := by
  have cc := c47 e w hT he
  skip
  have HV := Lib.hid hv
  have Hok := Lib.hid hall
  clear he hv hall
  go_enter Tryd.func23, Tryd.ntmps23
  go_wp2_with fail
  refine cc.mono ?_
  rintro e' w1 ⟨⟨c, rfl, kv, kn, kc, lb, rfl, hcod⟩, hb1⟩
  have hB1 : Below w.heap.size w (w1.alloc (.cells #[.func (.func kv) #[] #[], .func (.func kn) #[] lb, .func (.func kc) #[] lb] 64)) := hb1.alloc hb1.size _
  have hB0 : Below w1.heap.size w1 (w1.alloc (.cells #[.func (.func kv) #[] #[], .func (.func kn) #[] lb, .func (.func kc) #[] lb] 64)) := (Below.refl _ w1).alloc (Nat.le_refl _) _
  have c5 := t53 hcod (.func (.func kv) #[] #[]) (.func (.func kn) #[] lb) cs v _ hB0 (HV.out.below hB1) hl
  go_wp2_with fail
  refine c5.mono ?_
  rintro e' w2 ⟨hres, hb2⟩
  have hB2 := hB1.trans (hb2.mono hB1.size)
  rcases hres with ⟨hok, v2, rfl, hrow⟩ | ⟨hno, rfl⟩
  · rw [Hok.out] at hok; cases hok
  · clear hno
    go_wp2
    go_ret2
    exact ⟨rfl, hB2⟩

theorem byte_chr (e : Int) (h2 : e ≠ 2) (s : ByteArray) (hs : 0 < s.size) (hc : 0 ≤ (nxOf e s).2) : chrOf e (nxOf e s).2 = some (s.extract 0 (nxOf e s).1) := by
  have hx : nxOf e s = (1, bcode (limOf e) (s.get! 0)) := by unfold nxOf; rw [if_neg h2]
  rw [hx] at hc ⊢
  have hb : (s.get! 0).toNat < limOf e := by
    rcases Nat.lt_or_ge (s.get! 0).toNat (limOf e) with h | h
    · exact h
    · exfalso
      have : bcode (limOf e) (s.get! 0) = -1 := by unfold bcode; rw [if_neg (by omega)]
      rw [this] at hc
      simp at hc
  have hbc : bcode (limOf e) (s.get! 0) = ((s.get! 0).toNat : Int) := by unfold bcode; rw [if_pos hb]
  show chrOf e (bcode (limOf e) (s.get! 0)) = some (s.extract 0 1)
  rw [hbc]
  unfold chrOf
  rw [if_neg h2, if_pos ⟨by omega, by omega⟩]
  congr 1
  refine bytes_ext ?_
  rw [Utf8W.get!_of_lt s 0 hs, ByteArray.data_extract, Array.toList_extract]
  obtain ⟨⟨l⟩⟩ := s
  cases l with
  | nil => simp [ByteArray.size] at hs
  | cons b t =>
    have e1 : (ByteArray.mk ⟨b :: t⟩)[0] = b := rfl
    rw [e1]
    simp [List.extract_eq_take_drop]
theorem parts_chr_all (e : Int) (s : ByteArray) (p : ByteArray × Int) (hp : p ∈ parts (nxOf e) s) (h0 : 0 ≤ p.2) : chrOf e p.2 = some p.1 := by
  by_cases h2 : e = 2
  · subst h2
    rw [parts_chr s.size s rfl p hp, if_pos h0]
  · have : ∀ (n : Nat) (u : ByteArray), u.size = n → ∀ p ∈ parts (nxOf e) u, 0 ≤ p.2 → chrOf e p.2 = some p.1 := fun n => by
      induction n using Nat.strongRecOn with
      | _ n ih =>
        intro u hu p hp h0
        by_cases hz : u.size = 0
        · rw [parts_nil _ u hz] at hp; cases hp
        · have h1 : 0 < u.size := by omega
          have hlo := (nxOf_ok e).lo u h1
          rw [parts_cons (nxOf_ok e) u h1] at hp
          rcases List.mem_cons.1 hp with rfl | hp
          · exact byte_chr e h2 u h1 h0
          · exact ih _ (by simp; omega) (u.extract (nxOf e u).1 u.size) rfl p hp h0
    exact this s.size s rfl p hp h0
def codesP (ps : List (ByteArray × Int)) : List Int := ps.map (·.2)
theorem codes_back (e : Int) (s : ByteArray) (h : ∀ p ∈ parts (nxOf e) s, p.2 ≠ -1) : allOk e (codesP (parts (nxOf e) s)) = true ∧ ofT e (codesP (parts (nxOf e) s)) = s ∧ vldOf e s = true := by
  have h0 : ∀ p ∈ parts (nxOf e) s, 0 ≤ p.2 := fun p hp => by
    have h1 := parts_code e s.size s rfl p hp
    have h2 := h p hp
    omega
  refine ⟨?_, ?_, ?_⟩
  · refine List.all_eq_true.2 fun c hc => ?_
    obtain ⟨p, hp, rfl⟩ := List.mem_map.1 hc
    rw [parts_chr_all e s p hp (h0 p hp)]; rfl
  · have e1 : (codesP (parts (nxOf e) s)).map (chrS e) = textsP (parts (nxOf e) s) := by
      unfold codesP textsP
      rw [List.map_map]
      refine List.map_congr_left fun p hp => ?_
      show chrS e p.2 = p.1
      unfold chrS
      rw [parts_chr_all e s p hp (h0 p hp)]; rfl
    unfold ofT
    rw [e1, glue_parts (nxOf_ok e)]
  · unfold vldOf
    by_cases h2 : e = 2
    · rw [if_pos h2]
      subst h2
      exact (valid_parts s.size s rfl).2 h0
    · rw [if_neg h2]
theorem codesP_row {w : World} {B : Nat} {v : Value} {ps : List (ByteArray × Int)} (h : w.ownsRow B 3 1 v ps.length (ps.map fun p => Value.int .i64 p.2)) : IntsRead w v (codesP ps) := by
  refine intsRead_of_row (B := B) ?_
  have e1 : (codesP ps).length = ps.length := by simp [codesP]
  have e2 : (codesP ps).map (fun x => Value.int .i64 x) = ps.map fun p => Value.int .i64 p.2 := by simp [codesP]
  rw [e1, e2]
  exact h

/-! The law. -/
set_option maxRecDepth 100000 in
set_option maxHeartbeats 2000000 in
theorem c3_big (s : ByteArray) (e : Int) (w : World) (hb : 3000 < s.size) (HE : Go.RowKit.Hid (∀ W, Below w.heap.size w W → Calls Tryd.prog 15 #[] W fun e' w' => e' = .returned (.bool true) ∧ Below W.heap.size W w')) :
    Calls Tryd.prog 3 #[.string s, .int .i64 e] w fun e' w' => e' = .returned (.bool true) ∧ Below w.heap.size w w' := by
  have g1 : (3000 : Int) < s.size := by omega
  have d1 : decide ((3000 : Int) < s.size) = true := by simp; omega
  go_enter Tryd.func3, Tryd.ntmps3
  go_wp2_with fail
  refine (HE.out _ (Below.refl _ _)).mono ?_
  rintro e1 w2 ⟨rfl, hb2⟩
  go_wp2
  go_ret
  exact ⟨rfl, hb2⟩

set_option maxRecDepth 100000 in
set_option maxHeartbeats 2000000 in
theorem c3_arg (s : ByteArray) (e : Int) (w : World) (hT : Lib.Utf8Tabs 0 1 w) (hs : s.size ≤ 3000) (he : isEnc e = false) (HE : Go.RowKit.Hid (∀ W, Below w.heap.size w W → Calls Tryd.prog 15 #[] W fun e' w' => e' = .returned (.bool true) ∧ Below W.heap.size W w')) :
    Calls Tryd.prog 3 #[.string s, .int .i64 e] w fun e' w' => e' = .returned (.bool true) ∧ Below w.heap.size w w' := by
  have g1 : (s.size : Int) ≤ 3000 := by omega
  have d1 : decide ((3000 : Int) < s.size) = false := by simp; omega
  have H1 := Lib.hid (t16_arg s e w hT (by omega) (.inl he))
  have H2 := Lib.hid (fun W => r17_arg s e W (by omega) (.inl he))
  have H3 := Lib.hid (fun W (hb : Below w.heap.size w W) => t18_arg s e W (Utf8Tabs_below hT hb) (by omega) (.inl he))
  have H4 := Lib.hid (fun W => r19_arg s e W (by omega) (.inl he))
  have H5 := Lib.hid (fun W (hb : Below w.heap.size w W) => t20_arg s e W (Utf8Tabs_below hT hb) (by omega) (.inl he))
  have H6 := Lib.hid (fun W => r21_arg s e W (by omega) (.inl he))
  clear he hT
  go_enter Tryd.func3, Tryd.ntmps3
  go_wp2_with fail
  refine (H1.out).mono ?_
  rintro e1 w2 ⟨rfl, hb2⟩
  go_wp2_with fail
  refine (H2.out _).mono ?_
  rintro e1 w3 ⟨rfl, hb3⟩
  have hB3 := hb2.trans (hb3.mono hb2.size)
  go_wp2_with fail
  refine (H3.out _ hB3).mono ?_
  rintro e1 w4 ⟨rfl, hb4⟩
  have hB4 := hB3.trans (hb4.mono hB3.size)
  go_wp2_with fail
  refine (H4.out _).mono ?_
  rintro e1 w5 ⟨rfl, hb5⟩
  have hB5 := hB4.trans (hb5.mono hB4.size)
  go_wp2_with fail
  refine (H5.out _ hB5).mono ?_
  rintro e1 w6 ⟨rfl, hb6⟩
  have hB6 := hB5.trans (hb6.mono hB5.size)
  go_wp2_with fail
  refine (H6.out _).mono ?_
  rintro e1 w7 ⟨rfl, hb7⟩
  have hB7 := hB6.trans (hb7.mono hB6.size)
  go_wp2_with fail
  refine (c22_same [] _ _ _ (intsRead_nil _) (intsRead_nil _) (by decide)).mono ?_
  rintro e1 w8 ⟨rfl, hb8⟩
  have hB8 := hB7.trans (hb8.mono hB7.size)
  go_wp2_with fail
  refine (HE.out _ hB8).mono ?_
  rintro e1 w9 ⟨rfl, hb9⟩
  go_wp2
  go_ret
  exact ⟨rfl, hB8.trans (hb9.mono hB8.size)⟩

set_option maxRecDepth 100000 in
set_option maxHeartbeats 4000000 in
theorem c3_good (s : ByteArray) (e : Int) (w : World) (hT : Lib.Utf8Tabs 0 1 w) (hs : s.size ≤ 3000) (he : isEnc e = true) (HE : Go.RowKit.Hid (∀ W, Below w.heap.size w W → Calls Tryd.prog 15 #[] W fun e' w' => e' = .returned (.bool true) ∧ Below W.heap.size W w')) :
    Calls Tryd.prog 3 #[.string s, .int .i64 e] w fun e' w' => e' = .returned (.bool true) ∧ Below w.heap.size w w' := by
  have g1 : (s.size : Int) ≤ 3000 := by omega
  have d1 : decide ((3000 : Int) < s.size) = false := by simp; omega
  have hpl := parts_length (nxOf_ok e) s.size s rfl
  have hback := Lib.hid (codes_back e s)
  have H1 := Lib.hid (t16 s e w hT (by omega) he)
  have H2 := Lib.hid (fun W => r17 s e W (by omega) he)
  have H3 := Lib.hid (fun W (hb : Below w.heap.size w W) => t18 s e W (Utf8Tabs_below hT hb) (by omega) he)
  have H4 := Lib.hid (fun W => r19 s e W (by omega) he)
  have H5 := Lib.hid (fun W (hb : Below w.heap.size w W) => t20 s e W (Utf8Tabs_below hT hb) (by omega) he)
  have H6 := Lib.hid (fun W => r21 s e W (by omega) he)
  have H7 := Lib.hid (fun W v (hb : Below w.heap.size w W) (hv : IntsRead W v (codesP (parts (nxOf e) s))) (hall : allOk e (codesP (parts (nxOf e) s)) = true) => t23 (codesP (parts (nxOf e) s)) v e W (Utf8Tabs_below hT hb) he hv (by simp [codesP]; omega) hall)
  have hcl : (codesP (parts (nxOf e) s)).length = (parts (nxOf e) s).length := by simp [codesP]
  have HL := Lib.hid hcl
  clear he hT hcl
  generalize vldOf e s = vl at *
  go_enter Tryd.func3, Tryd.ntmps3
  go_wp2_with fail
  refine (H1.out).mono ?_
  rintro e1 w2 ⟨rfl, hb2⟩
  go_wp2_with fail
  refine (H2.out _).mono ?_
  rintro e1 w3 ⟨rfl, hb3⟩
  have hB3 := hb2.trans (hb3.mono hb2.size)
  go_wp2_with fail
  refine (H3.out _ hB3).mono ?_
  rintro e1 w4 ⟨hres4, hb4⟩
  have hB4 := hB3.trans (hb4.mono hB3.size)
  rcases hres4 with ⟨hok, v4, rfl, hrow4⟩ | ⟨hbad, rfl⟩
  · obtain ⟨ok1, ok2, ok3⟩ := hback.out hok
    have Hok1 := Lib.hid ok1
    have Hok2 := Lib.hid ok2
    have Hok := Lib.hid hok
    subst ok3
    clear ok1 ok2 hok
    have hv4 := codesP_row hrow4
    obtain ⟨ao4, cap4, rfl⟩ := row_slice hrow4
    have HV4 := Lib.hid hv4
    clear hv4 hrow4
    go_wp2_with fail
    refine (H4.out _).mono ?_
    rintro e1 w5 ⟨hres5, hb5⟩
    have hB5 := hB4.trans (hb5.mono hB4.size)
    rcases hres5 with ⟨_, v5, rfl, hrow5⟩ | ⟨⟨p, hp, hp1⟩, _⟩
    · have hv5 := codesP_row hrow5
      obtain ⟨ao5, cap5, rfl⟩ := row_slice hrow5
      have HV5 := Lib.hid hv5
      clear hv5 hrow5
      have HV45 := Lib.hid (HV4.out.below hb5)
      go_wp2_with fail
      refine (H5.out _ hB5).mono ?_
      rintro e1 w6 ⟨rfl, hb6⟩
      have hB6 := hB5.trans (hb6.mono hB5.size)
      have HV46 := Lib.hid (HV45.out.below hb6)
      have HV56 := Lib.hid (HV5.out.below hb6)
      go_wp2_with fail
      refine (H6.out _).mono ?_
      rintro e1 w7 ⟨rfl, hb7⟩
      have hB7 := hB6.trans (hb7.mono hB6.size)
      have HV47 := Lib.hid (HV46.out.below hb7)
      have HV57 := Lib.hid (HV56.out.below hb7)
      go_wp2_with fail
      refine (c22_same _ _ _ _ HV47.out HV57.out (by rw [HL.out]; omega)).mono ?_
      rintro e1 w8 ⟨rfl, hb8⟩
      have hB8 := hB7.trans (hb8.mono hB7.size)
      have HV48 := Lib.hid (HV47.out.below hb8)
      go_wp2_with fail
      refine (H7.out _ _ hB8 HV48.out Hok1.out).mono ?_
      rintro e1 w9 ⟨rfl, hb9⟩
      have hB9 := hB8.trans (hb9.mono hB8.size)
      rw [Hok2.out]
      go_wp2_with fail
      refine (HE.out _ hB9).mono ?_
      rintro e1 w10 ⟨rfl, hb10⟩
      go_wp2
      go_ret
      exact ⟨rfl, hB9.trans (hb10.mono hB9.size)⟩
    · exact absurd hp1 (Hok.out p hp)
  · have Hbad := Lib.hid hbad
    clear hbad
    go_wp2_with fail
    refine (H4.out _).mono ?_
    rintro e1 w5 ⟨hres5, hb5⟩
    have hB5 := hB4.trans (hb5.mono hB4.size)
    rcases hres5 with ⟨hok, _⟩ | ⟨_, rfl⟩
    · obtain ⟨p, hp, hp1⟩ := Hbad.out
      exact absurd hp1 (hok p hp)
    · go_wp2_with fail
      refine (H5.out _ hB5).mono ?_
      rintro e1 w6 ⟨rfl, hb6⟩
      have hB6 := hB5.trans (hb6.mono hB5.size)
      go_wp2_with fail
      refine (H6.out _).mono ?_
      rintro e1 w7 ⟨rfl, hb7⟩
      have hB7 := hB6.trans (hb7.mono hB6.size)
      go_wp2_with fail
      refine (c22_same [] _ _ _ (intsRead_nil _) (intsRead_nil _) (by decide)).mono ?_
      rintro e1 w8 ⟨rfl, hb8⟩
      have hB8 := hB7.trans (hb8.mono hB7.size)
      go_wp2_with fail
      refine (HE.out _ hB8).mono ?_
      rintro e1 w9 ⟨rfl, hb9⟩
      go_wp2
      go_ret
      exact ⟨rfl, hB8.trans (hb9.mono hB8.size)⟩

theorem c3 (s : ByteArray) (e : Int) (w : World) (hT : Lib.Utf8Tabs 0 1 w) :
    Calls Tryd.prog 3 #[.string s, .int .i64 e] w fun e' w' => e' = .returned (.bool true) ∧ Below w.heap.size w w' := by
  have HE := Lib.hid (fun W (hb : Below w.heap.size w W) => c15 W (Utf8Tabs_below hT hb))
  by_cases hb : 3000 < s.size
  · exact c3_big s e w hb HE
  · cases he : isEnc e with
    | false => exact c3_arg s e w hT (by omega) he HE
    | true => exact c3_good s e w hT (by omega) he HE
end Go.Proofs.YtjdnpgknamhnlaaDoor
