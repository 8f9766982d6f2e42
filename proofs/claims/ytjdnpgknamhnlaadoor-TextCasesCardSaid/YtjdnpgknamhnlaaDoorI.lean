/- Contracts of Clone, fromStart, tooLong, codingOf. -/
import Derived.Test.YtjdnpgknamhnlaaDoorH
namespace Go.Proofs.YtjdnpgknamhnlaaDoor
open Go Go.RowKit Go.Shelf

set_option maxRecDepth 100000 in
theorem c58 (s : ByteArray) (w : World) (hs : s.size ≤ 281474976710656) :
    Calls Tryd.prog 58 #[.string s] w fun e w' => e = .returned (.string s) ∧ Below w.heap.size w w' := by
  have c77 := Tryd.stringslite_Clone s w hs
  go_enter Tryd.func58, Tryd.ntmps58
  go_wp2_with (go_at_call 77; refine c77.mono ?_; rintro e w1 ⟨rfl, hb1⟩)
  go_ret
  exact ⟨rfl, hb1⟩

theorem c57 (i n : Int) (w : World) (hi : -9223372036854775808 ≤ i) (hi2 : i ≤ 9223372036854775807) (hn : 0 ≤ n) (hn2 : n ≤ 100000) :
    Calls Tryd.prog 57 #[.int .i64 i, .int .i64 n] w fun e w' => e = .returned (.int .i64 (if i < 0 then i + n else i)) ∧ w = w' := by
  by_cases h0 : i < 0
  · rw [if_pos h0]
    go_enter Tryd.func57, Tryd.ntmps57
    go_wp2
    go_ret
    exact ⟨rfl, rfl⟩
  · rw [if_neg h0]
    go_enter Tryd.func57, Tryd.ntmps57
    go_wp2
    go_ret
    exact ⟨rfl, rfl⟩

def tooB (ps : List ByteArray) : Bool := ps.any fun p => decide (100000 < p.size)
set_option maxRecDepth 100000 in
set_option maxHeartbeats 2000000 in
theorem c48 (ps : List ByteArray) (v : Value) (w : World) (hv : JoinRead w v ps) (hlen : ps.length ≤ 140737488355328) (hsz : ∀ p ∈ ps, p.size ≤ 9223372036854775807) :
    Calls Tryd.prog 48 #[v] w fun e w' => e = .returned (.bool (tooB ps)) ∧ w = w' := by
  obtain ⟨ao, cap, rfl, hcells⟩ := hv
  have HC := Lib.hid hcells
  clear hcells
  have HZ := Lib.hid hsz
  clear hsz
  go_enter Tryd.func48, Tryd.ntmps48
  go_wp2
  go_loop [7] (fun i => ∃ k : Nat, k ≤ ps.length ∧ i = .int .i64 k ∧ Go.RowKit.Hid (tooB ps = tooB (ps.drop k))) (fun i => ps.length - (Go.RowKit.intOf i).toNat)
  case atStart => exact ⟨0, Nat.zero_le _, rfl, rfl⟩
  case round =>
    obtain ⟨k, hk, rfl, hR⟩ := hrel
    by_cases hlt : k < ps.length
    · obtain ⟨g, rfl, hgs, hcell⟩ := HC.out k hlt
      have hd := Lib.hid (List.drop_eq_getElem_cons hlt)
      have hz := HZ.out ps[k] (List.getElem_mem _)
      have hkl : (k : Int) < ps.length := by omega
      by_cases hbig : 100000 < ps[k].size
      · have hb' : (100000 : Int) < ps[k].size := by omega
        have hT : Go.RowKit.Hid (tooB ps = true) := by
          show _ = _
          rw [hR.out, hd.out]; unfold tooB; rw [List.any_cons, decide_eq_true hbig]; rfl
        go_wp2
        go_ret
        exact ⟨by rw [hT.out]; rfl, rfl⟩
      · have hb' : (ps[k].size : Int) ≤ 100000 := by omega
        have hT : Go.RowKit.Hid (tooB ps = tooB (ps.drop (k + 1))) := by
          show _ = _
          rw [hR.out, hd.out]; unfold tooB; rw [List.any_cons, decide_eq_false hbig, Bool.false_or]
        go_wp2
        go_round
        case rel => exact ⟨k + 1, by omega, by go_num, hT⟩
        case measure => simp [Go.RowKit.intOf]; omega
    · have hkl : (ps.length : Int) ≤ k := by omega
      have hT : Go.RowKit.Hid (tooB ps = false) := by
        show _ = _
        rw [hR.out, List.drop_of_length_le (by omega)]; rfl
      go_wp2
      go_ret
      exact ⟨by rw [hT.out]; rfl, rfl⟩

/-! The encodings. -/
def limOf (e : Int) : Nat := if e = 0 then 128 else 256
def nxOf (e : Int) (s : ByteArray) : Nat × Int := if e = 2 then one s else (1, bcode (limOf e) (s.get! 0))
def chrOf (e : Int) (c : Int) : Option ByteArray :=
  if e = 2 then (if 0 ≤ c ∧ c ≤ 1114111 ∧ ¬ (55296 ≤ c ∧ c ≤ 57343) then some (Utf8.encode c) else none)
  else (if 0 ≤ c ∧ c < limOf e then some ⟨#[UInt8.ofNat c.toNat]⟩ else none)
def vldOf (e : Int) (s : ByteArray) : Bool := if e = 2 then Lib.validD s.data.toList else true
theorem nxOf_ok (e : Int) : NxOk (nxOf e) := by
  constructor
  · intro s h; unfold nxOf; split
    · exact (one_bounds s h).1
    · exact Nat.le_refl _
  · intro s h; unfold nxOf; split
    · exact (one_bounds s h).2.1
    · exact h
structure CodOk (w0 : World) (e : Int) (kv kn kc : Nat) (lb : Array Value) : Prop extends NextOk w0 (nxOf e) kn lb where
  char : ∀ (W : World) (c : Int), Below w0.heap.size w0 W →
    Calls Tryd.prog kc (#[.int .i64 c] ++ lb) W fun e' W' => e' = .returned (.tuple #[.string ((chrOf e c).getD ⟨#[]⟩), .bool (chrOf e c).isSome]) ∧ Below W.heap.size W W'
  valid : ∀ (W : World) (s : ByteArray), Below w0.heap.size w0 W → s.size ≤ 9223372036854775807 →
    Calls Tryd.prog kv #[.string s] W fun e' W' => e' = .returned (.bool (vldOf e s)) ∧ Below W.heap.size W W'
  entersC : ∀ args w, (callFunc kc args).run Tryd.prog w = .ok (.enter kc args) w
  entersV : ∀ args w, (callFunc kv args).run Tryd.prog w = .ok (.enter kv args) w

theorem cod_utf8 (w0 : World) (hT : Lib.Utf8Tabs 0 1 w0) : CodOk w0 2 69 70 71 #[] where
  toNxOk := nxOf_ok 2
  call W s hb h0 hs := c70 s W (Utf8Tabs_below hT hb) h0 hs
  enters := enters_of Tryd.func70 (by kernel_rfl) rfl
  char W c hb := by
    unfold chrOf
    rw [if_pos rfl]
    by_cases h : 0 ≤ c ∧ c ≤ 1114111 ∧ ¬ (55296 ≤ c ∧ c ≤ 57343)
    · rw [if_pos h]; exact c71_yes c W h.1 h.2.1 h.2.2
    · rw [if_neg h]; exact c71_no c W (by omega)
  valid W s hb hs := by
    have := Tryd.utf8_ValidString s W hs (Utf8Tabs_below hT hb)
    simpa [vldOf] using this
  entersC := enters_of Tryd.func71 (by kernel_rfl) rfl
  entersV := enters_of Tryd.func69 (by kernel_rfl) rfl

theorem cod_byte (w0 : World) (e : Int) (he : e = 0 ∨ e = 1) (b : Nat) (hbl : b < w0.heap.size) (hc : w0.cell? ⟨b, 0, none⟩ = some (.int .i64 (limOf e))) : CodOk w0 e 81 82 83 #[.pointer (some ⟨b, 0, none⟩)] where
  toNxOk := nxOf_ok e
  call W s hb h0 hs := by
    have := c82 s ⟨b, 0, none⟩ (limOf e) W ((hb.cell (p := ⟨b, 0, none⟩) hbl).trans hc) h0
    refine this.mono ?_
    rintro e' W' ⟨rfl, rfl⟩
    refine ⟨?_, Below.refl _ _⟩
    have h2 : ¬ e = 2 := by omega
    have hg : s.get! 0 = s[0]'h0 := Utf8W.get!_of_lt s 0 h0
    simp [nxOf, h2, hg]
  enters := enters_of Tryd.func82 (by kernel_rfl) rfl
  char W c hb := by
    have h2 : ¬ e = 2 := by omega
    have hl : limOf e ≤ 256 := by unfold limOf; split <;> omega
    have hcc := (hb.cell (p := ⟨b, 0, none⟩) hbl).trans hc
    unfold chrOf
    rw [if_neg h2]
    by_cases h : 0 ≤ c ∧ c < limOf e
    · rw [if_pos h]; exact c83_yes c ⟨b, 0, none⟩ (limOf e) W hcc h.1 h.2 hl
    · rw [if_neg h]; exact c83_no c ⟨b, 0, none⟩ (limOf e) W hcc (by omega)
  valid W s hb hs := by
    have h2 : ¬ e = 2 := by omega
    refine (c81 s W).mono ?_
    rintro e' W' ⟨rfl, rfl⟩
    exact ⟨by simp [vldOf, h2], Below.refl _ _⟩
  entersC := enters_of Tryd.func83 (by kernel_rfl) rfl
  entersV := enters_of Tryd.func81 (by kernel_rfl) rfl

/-- c is what codingOf hands back for the encoding e. -/
def IsCod (w0 : World) (e : Int) (c : Value) : Prop := ∃ kv kn kc lb, c = .agg #[.func (.func kv) #[] #[], .func (.func kn) #[] lb, .func (.func kc) #[] lb] ∧ CodOk w0 e kv kn kc lb
def isEnc (e : Int) : Bool := decide (0 ≤ e) && decide (e ≤ 2)

set_option maxRecDepth 100000 in
set_option maxHeartbeats 2000000 in
theorem c47_no (e : Int) (w : World) (he : isEnc e = false) :
    Calls Tryd.prog 47 #[.int .i64 e] w fun e' w' => e' = .returned (.tuple #[.agg #[.nilFunc, .nilFunc, .nilFunc], .bool false]) ∧ Below w.heap.size w w' := by
  have h3 : ¬ (0 ≤ e ∧ e ≤ 2) := by simpa [isEnc] using he
  have h0 : (e == 0) = false := by rw [beq_eq_false_iff_ne]; omega
  have h1 : (e == 1) = false := by rw [beq_eq_false_iff_ne]; omega
  have h2 : (e == 2) = false := by rw [beq_eq_false_iff_ne]; omega
  clear h3 he
  go_enter Tryd.func47, Tryd.ntmps47
  go_wp2
  refine bodyPost_ret (v := .tuple #[.agg #[.nilFunc, .nilFunc, .nilFunc], .bool false]) (by simp [results, Tryd.results47, go_sem]) rfl ⟨rfl, ?_⟩
  go_grown
set_option maxRecDepth 100000 in
set_option maxHeartbeats 2000000 in
theorem c47_2 (w : World) (hT : Lib.Utf8Tabs 0 1 w) :
    Calls Tryd.prog 47 #[.int .i64 2] w fun e' w' => (∃ c, e' = .returned (.tuple #[c, .bool true]) ∧ IsCod w' 2 c) ∧ Below w.heap.size w w' := by
  have HT := Lib.hid hT
  clear hT
  go_enter Tryd.func47, Tryd.ntmps47
  go_wp2
  have hB : Below w.heap.size w (w.alloc (.cells #[.func (.func 69) #[] #[], .func (.func 70) #[] #[], .func (.func 71) #[] #[]] 64)) := by go_grown
  refine bodyPost_ret (v := .tuple #[.agg #[.func (.func 69) #[] #[], .func (.func 70) #[] #[], .func (.func 71) #[] #[]], .bool true]) (by simp [results, Tryd.results47, go_sem]) rfl ⟨⟨_, rfl, ?_⟩, ?_⟩
  · exact ⟨69, 70, 71, #[], rfl, cod_utf8 _ (Utf8Tabs_below HT.out hB)⟩
  · exact hB

set_option maxRecDepth 100000 in
set_option maxHeartbeats 2000000 in
theorem c47_0 (w : World) :
    Calls Tryd.prog 47 #[.int .i64 0] w fun e' w' => (∃ c, e' = .returned (.tuple #[c, .bool true]) ∧ IsCod w' 0 c) ∧ Below w.heap.size w w' := by
  have c68' := c68 128
  go_enter Tryd.func47, Tryd.ntmps47
  go_wp2_with fail
  refine (c68' _).mono ?_
  rintro e w1 ⟨rfl, hb1, hc1, hl1⟩
  rw [World.size_alloc] at hb1 hc1 hl1
  have hB1 : Below w.heap.size w w1 := ((Below.refl _ w).alloc (Nat.le_refl _) _).trans (hb1.mono (by simp))
  have hcell : ∀ j, w1.cell? ⟨w.heap.size, j, none⟩ = (w.alloc (.cells #[.nilFunc, .nilFunc, .nilFunc] 64)).cell? ⟨w.heap.size, j, none⟩ := fun j => hb1.cell (p := ⟨w.heap.size, j, none⟩) (by simp)
  have hfr : ∀ j, w1.frozen? ⟨w.heap.size, j, none⟩ = false := fun j => (hb1.frozen (p := ⟨w.heap.size, j, none⟩) (by simp)).trans (by simp)
  have g0 : w1.cell? ⟨w.heap.size, 0, none⟩ = some .nilFunc := (hcell 0).trans (by simp)
  have g1 : w1.cell? ⟨w.heap.size, 1, none⟩ = some .nilFunc := (hcell 1).trans (by simp)
  have g2 : w1.cell? ⟨w.heap.size, 2, none⟩ = some .nilFunc := (hcell 2).trans (by simp)
  have f0 := hfr 0
  have f1 := hfr 1
  have f2 := hfr 2
  clear hcell hfr
  have hblk : w1.heap[w.heap.size]? = some (.cells #[.nilFunc, .nilFunc, .nilFunc] 64 (0, 0)) := (hb1.block w.heap.size (by simp)).trans (World.alloc_heap_new w _)
  obtain ⟨W3, hW3⟩ : ∃ W3, ((w1.setCell ⟨w.heap.size, 0, none⟩ (.func (.func 81) #[] #[])).setCell ⟨w.heap.size, 1, none⟩ (.func (.func 82) #[] #[.pointer (some ⟨w.heap.size + 1, 0, none⟩)])).setCell ⟨w.heap.size, 2, none⟩ (.func (.func 83) #[] #[.pointer (some ⟨w.heap.size + 1, 0, none⟩)]) = W3 := ⟨_, rfl⟩
  have hblk3 : W3.heap[w.heap.size]? = some (.cells #[.func (.func 81) #[] #[], .func (.func 82) #[] #[.pointer (some ⟨w.heap.size + 1, 0, none⟩)], .func (.func 83) #[] #[.pointer (some ⟨w.heap.size + 1, 0, none⟩)]] 64 (0, 0)) := by
    rw [← hW3]; simp [World.setCell, Array.getElem?_modify, hblk]
  have hc3 : W3.cell? ⟨w.heap.size + 1, 0, none⟩ = some (.int .i64 (limOf 0)) := by
    have e1 : W3.heap[w.heap.size + 1]? = w1.heap[w.heap.size + 1]? := by
      rw [← hW3, Below.heap_setCell _ _ _ _ (by simp), Below.heap_setCell _ _ _ _ (by simp), Below.heap_setCell _ _ _ _ (by simp)]
    exact (World.cell?_of_block (w := w1) (a := ⟨w.heap.size + 1, 0, none⟩) e1).trans hc1
  have hs3 : w.heap.size + 1 < W3.heap.size := by rw [← hW3]; simp; omega
  have hB3 : Below w.heap.size w W3 := by
    rw [← hW3]
    exact ((hB1.setCell (p := ⟨w.heap.size, 0, none⟩) (Nat.le_refl _) _).setCell (p := ⟨w.heap.size, 1, none⟩) (Nat.le_refl _) _).setCell (p := ⟨w.heap.size, 2, none⟩) (Nat.le_refl _) _
  have d0 : W3.cell? ⟨w.heap.size, 0, none⟩ = some (.func (.func 81) #[] #[]) := by rw [Lib.cell_of_heap hblk3]; rfl
  have d1 : W3.cell? ⟨w.heap.size, 1, none⟩ = some (.func (.func 82) #[] #[.pointer (some ⟨w.heap.size + 1, 0, none⟩)]) := by rw [Lib.cell_of_heap hblk3]; rfl
  have d2 : W3.cell? ⟨w.heap.size, 2, none⟩ = some (.func (.func 83) #[] #[.pointer (some ⟨w.heap.size + 1, 0, none⟩)]) := by rw [Lib.cell_of_heap hblk3]; rfl
  have HW3 := Lib.hid hW3
  clear hW3 hblk hblk3
  go_wp2
  rw [HW3.out]
  refine bodyPost_ret (v := .tuple #[.agg #[.func (.func 81) #[] #[], .func (.func 82) #[] #[.pointer (some ⟨w.heap.size + 1, 0, none⟩)], .func (.func 83) #[] #[.pointer (some ⟨w.heap.size + 1, 0, none⟩)]], .bool true]) (by simp [results, Tryd.results47, go_sem, d0, d1, d2]) rfl ⟨⟨_, rfl, ?_⟩, hB3⟩
  exact ⟨81, 82, 83, _, rfl, cod_byte W3 0 (by omega) _ hs3 hc3⟩
set_option maxRecDepth 100000 in
set_option maxHeartbeats 2000000 in
theorem c47_1 (w : World) :
    Calls Tryd.prog 47 #[.int .i64 1] w fun e' w' => (∃ c, e' = .returned (.tuple #[c, .bool true]) ∧ IsCod w' 1 c) ∧ Below w.heap.size w w' := by
  have c68' := c68 256
  go_enter Tryd.func47, Tryd.ntmps47
  go_wp2_with fail
  refine (c68' _).mono ?_
  rintro e w1 ⟨rfl, hb1, hc1, hl1⟩
  rw [World.size_alloc] at hb1 hc1 hl1
  have hB1 : Below w.heap.size w w1 := ((Below.refl _ w).alloc (Nat.le_refl _) _).trans (hb1.mono (by simp))
  have hcell : ∀ j, w1.cell? ⟨w.heap.size, j, none⟩ = (w.alloc (.cells #[.nilFunc, .nilFunc, .nilFunc] 64)).cell? ⟨w.heap.size, j, none⟩ := fun j => hb1.cell (p := ⟨w.heap.size, j, none⟩) (by simp)
  have hfr : ∀ j, w1.frozen? ⟨w.heap.size, j, none⟩ = false := fun j => (hb1.frozen (p := ⟨w.heap.size, j, none⟩) (by simp)).trans (by simp)
  have g0 : w1.cell? ⟨w.heap.size, 0, none⟩ = some .nilFunc := (hcell 0).trans (by simp)
  have g1 : w1.cell? ⟨w.heap.size, 1, none⟩ = some .nilFunc := (hcell 1).trans (by simp)
  have g2 : w1.cell? ⟨w.heap.size, 2, none⟩ = some .nilFunc := (hcell 2).trans (by simp)
  have f0 := hfr 0
  have f1 := hfr 1
  have f2 := hfr 2
  clear hcell hfr
  have hblk : w1.heap[w.heap.size]? = some (.cells #[.nilFunc, .nilFunc, .nilFunc] 64 (0, 0)) := (hb1.block w.heap.size (by simp)).trans (World.alloc_heap_new w _)
  obtain ⟨W3, hW3⟩ : ∃ W3, ((w1.setCell ⟨w.heap.size, 0, none⟩ (.func (.func 81) #[] #[])).setCell ⟨w.heap.size, 1, none⟩ (.func (.func 82) #[] #[.pointer (some ⟨w.heap.size + 1, 0, none⟩)])).setCell ⟨w.heap.size, 2, none⟩ (.func (.func 83) #[] #[.pointer (some ⟨w.heap.size + 1, 0, none⟩)]) = W3 := ⟨_, rfl⟩
  have hblk3 : W3.heap[w.heap.size]? = some (.cells #[.func (.func 81) #[] #[], .func (.func 82) #[] #[.pointer (some ⟨w.heap.size + 1, 0, none⟩)], .func (.func 83) #[] #[.pointer (some ⟨w.heap.size + 1, 0, none⟩)]] 64 (0, 0)) := by
    rw [← hW3]; simp [World.setCell, Array.getElem?_modify, hblk]
  have hc3 : W3.cell? ⟨w.heap.size + 1, 0, none⟩ = some (.int .i64 (limOf 1)) := by
    have e1 : W3.heap[w.heap.size + 1]? = w1.heap[w.heap.size + 1]? := by
      rw [← hW3, Below.heap_setCell _ _ _ _ (by simp), Below.heap_setCell _ _ _ _ (by simp), Below.heap_setCell _ _ _ _ (by simp)]
    exact (World.cell?_of_block (w := w1) (a := ⟨w.heap.size + 1, 0, none⟩) e1).trans hc1
  have hs3 : w.heap.size + 1 < W3.heap.size := by rw [← hW3]; simp; omega
  have hB3 : Below w.heap.size w W3 := by
    rw [← hW3]
    exact ((hB1.setCell (p := ⟨w.heap.size, 0, none⟩) (Nat.le_refl _) _).setCell (p := ⟨w.heap.size, 1, none⟩) (Nat.le_refl _) _).setCell (p := ⟨w.heap.size, 2, none⟩) (Nat.le_refl _) _
  have d0 : W3.cell? ⟨w.heap.size, 0, none⟩ = some (.func (.func 81) #[] #[]) := by rw [Lib.cell_of_heap hblk3]; rfl
  have d1 : W3.cell? ⟨w.heap.size, 1, none⟩ = some (.func (.func 82) #[] #[.pointer (some ⟨w.heap.size + 1, 0, none⟩)]) := by rw [Lib.cell_of_heap hblk3]; rfl
  have d2 : W3.cell? ⟨w.heap.size, 2, none⟩ = some (.func (.func 83) #[] #[.pointer (some ⟨w.heap.size + 1, 0, none⟩)]) := by rw [Lib.cell_of_heap hblk3]; rfl
  have HW3 := Lib.hid hW3
  clear hW3 hblk hblk3
  go_wp2
  rw [HW3.out]
  refine bodyPost_ret (v := .tuple #[.agg #[.func (.func 81) #[] #[], .func (.func 82) #[] #[.pointer (some ⟨w.heap.size + 1, 0, none⟩)], .func (.func 83) #[] #[.pointer (some ⟨w.heap.size + 1, 0, none⟩)]], .bool true]) (by simp [results, Tryd.results47, go_sem, d0, d1, d2]) rfl ⟨⟨_, rfl, ?_⟩, hB3⟩
  exact ⟨81, 82, 83, _, rfl, cod_byte W3 1 (by omega) _ hs3 hc3⟩
theorem c47 (e : Int) (w : World) (hT : Lib.Utf8Tabs 0 1 w) (he : isEnc e = true) :
    Calls Tryd.prog 47 #[.int .i64 e] w fun e' w' => (∃ c, e' = .returned (.tuple #[c, .bool true]) ∧ IsCod w' e c) ∧ Below w.heap.size w w' := by
  have h3 : 0 ≤ e ∧ e ≤ 2 := by simpa [isEnc] using he
  rcases (by omega : e = 0 ∨ e = 1 ∨ e = 2) with rfl | rfl | rfl
  · exact c47_0 w
  · exact c47_1 w
  · exact c47_2 w hT
end Go.Proofs.YtjdnpgknamhnlaaDoor
