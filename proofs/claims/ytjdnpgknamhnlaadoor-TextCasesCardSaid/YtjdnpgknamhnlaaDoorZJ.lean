/- Contracts of the reference's Has, Bytes, Of. -/
import Derived.Test.YtjdnpgknamhnlaaDoorZI
namespace Go.Proofs.YtjdnpgknamhnlaaDoor
open Go Go.RowKit Go.Shelf

theorem chr_none_neg (e c : Int) (h : c < 0) : chrOf e c = none := by
  unfold chrOf
  split
  · rw [if_neg (by omega)]
  · rw [if_neg (by omega)]

set_option maxRecDepth 100000 in
set_option maxHeartbeats 2000000 in
theorem r55 (e c : Int) (w : World) (he : isEnc e = true) :
    Calls Tryd.prog 55 #[.int .i64 c, .int .i64 e] w fun e' w' => e' = .returned (.bool (chrOf e c).isSome) ∧ w' = w := by
  have h3 : 0 ≤ e ∧ e ≤ 2 := by simpa [isEnc] using he
  clear he
  by_cases hn : c < 0
  · have hr : Go.RowKit.Hid ((chrOf e c).isSome = false) := by show _ = _; rw [chr_none_neg e c hn]; rfl
    have d1 : decide (0 ≤ c) = false := by simp; omega
    rcases (by omega : e = 0 ∨ e = 1 ∨ e = 2) with rfl | rfl | rfl
    all_goals
      go_enter Tryd.func55, Tryd.ntmps55
      go_wp2
      go_ret
      exact ⟨by rw [hr.out]; rfl, rfl⟩
  · have d1 : decide (0 ≤ c) = true := by simp; omega
    have d0 : 0 ≤ c := by omega
    rcases (by omega : e = 0 ∨ e = 1 ∨ e = 2) with rfl | rfl | rfl
    · have hr : Go.RowKit.Hid ((chrOf 0 c).isSome = decide (c ≤ 127)) := by
        show _ = _
        unfold chrOf
        rw [if_neg (by decide)]
        by_cases h : c ≤ 127
        · rw [if_pos ⟨d0, by unfold limOf; simp; omega⟩, decide_eq_true h]; rfl
        · rw [if_neg (fun k => by have := k.2; unfold limOf at this; simp at this; omega), decide_eq_false h]; rfl
      clear hn
      go_enter Tryd.func55, Tryd.ntmps55
      go_wp2
      go_ret
      exact ⟨by rw [hr.out]; rfl, rfl⟩
    · have hr : Go.RowKit.Hid ((chrOf 1 c).isSome = decide (c ≤ 255)) := by
        show _ = _
        unfold chrOf
        rw [if_neg (by decide)]
        by_cases h : c ≤ 255
        · rw [if_pos ⟨d0, by unfold limOf; simp; omega⟩, decide_eq_true h]; rfl
        · rw [if_neg (fun k => by have := k.2; unfold limOf at this; simp at this; omega), decide_eq_false h]; rfl
      clear hn
      go_enter Tryd.func55, Tryd.ntmps55
      go_wp2
      go_ret
      exact ⟨by rw [hr.out]; rfl, rfl⟩
    · by_cases h1 : c ≤ 1114111
      · have d2 : decide (c ≤ 1114111) = true := by simp; omega
        by_cases h2 : c < 55296
        · have d3 : decide (c < 55296) = true := by simp; omega
          have hr : Go.RowKit.Hid ((chrOf 2 c).isSome = true) := by
            show _ = _
            unfold chrOf
            rw [if_pos rfl, if_pos (by omega)]; rfl
          clear hn
          go_enter Tryd.func55, Tryd.ntmps55
          go_wp2
          go_ret
          exact ⟨by rw [hr.out]; rfl, rfl⟩
        · have d3 : decide (c < 55296) = false := by simp; omega
          have d3' : 55296 ≤ c := by omega
          have hr : Go.RowKit.Hid ((chrOf 2 c).isSome = decide (57343 < c)) := by
            show _ = _
            unfold chrOf
            rw [if_pos rfl]
            by_cases h : 57343 < c
            · rw [if_pos (by omega), decide_eq_true h]; rfl
            · rw [if_neg (by omega), decide_eq_false h]; rfl
          clear hn
          go_enter Tryd.func55, Tryd.ntmps55
          go_wp2
          go_ret
          exact ⟨by rw [hr.out]; rfl, rfl⟩
      · have d2 : decide (c ≤ 1114111) = false := by simp; omega
        have d2' : 1114111 < c := by omega
        have hr : Go.RowKit.Hid ((chrOf 2 c).isSome = false) := by
          show _ = _
          unfold chrOf
          rw [if_pos rfl, if_neg (by omega)]; rfl
        clear hn
        go_enter Tryd.func55, Tryd.ntmps55
        go_wp2
        go_ret
        exact ⟨by rw [hr.out]; rfl, rfl⟩

/-- string(b) of bytes that lie in a block. -/
theorem conv_cells (W : World) (g cap : Nat) (l : List UInt8) (h : ∀ j u, (Lib.byteCells l)[j]? = some u → W.cell? ⟨g, j, none⟩ = some u) :
    (convert 58 9 (.slice (some ⟨g, 0, none⟩) l.length cap)).run Tryd.prog W = .ok (.string ⟨l.toArray⟩) W := by
  rw [run_convert_bytes_string _ 58 9 5 _ _ _ Tryd.underlying58 Tryd.underlying5 Tryd.underlying9, run_bytesToString _ _ _ _ (l.map fun b => (b.toNat : Int)) ?_, fold_push]
  · simp [ByteArray.empty, ByteArray.emptyWithCapacity]; rfl
  · have := run_loadCells_list (P := Tryd.prog) (w := W) ⟨g, 0, none⟩ (Lib.byteCells l) (fun j u hj => by
      have e : (⟨g, 0, none⟩ : Addr).add j = ⟨g, j, none⟩ := by simp [Addr.add]; intro h; exact h.symm
      rw [e]
      exact h j u hj)
    rw [Lib.byteCells_length] at this
    rw [this]
    simp [Lib.byteCells]
theorem conv_new (w : World) (l : List UInt8) (cs : Array Value) (hcs : cs = (Lib.byteCells l).toArray) :
    (convert 58 9 (.slice (some ⟨w.heap.size, 0, none⟩) l.length l.length)).run Tryd.prog (w.alloc (.cells cs 5)) = .ok (.string ⟨l.toArray⟩) (w.alloc (.cells cs 5)) := by
  subst hcs
  refine conv_cells _ _ _ _ (fun j u hj => ?_)
  simp
  exact hj

set_option maxRecDepth 100000 in
set_option maxHeartbeats 2000000 in
theorem r56_1 (e : Int) (n : Nat) (w : World) (hn : n < 256) (h : e ≠ 2 ∨ n < 128) :
    Calls Tryd.prog 56 #[.int .i64 n, .int .i64 e] w fun e' w' => e' = .returned (.string ⟨#[UInt8.ofNat n]⟩) ∧ Below w.heap.size w w' := by
  have hw : IntKind.u8.wrap (n : Int) = (n : Int) := wbu _ (by omega)
  have hb : ((UInt8.ofNat n).toNat : Int) = n := by rw [UInt8.toNat_ofNat']; omega
  have hcv : (convert 58 9 (.slice (some ⟨w.heap.size, 0, none⟩) 1 1)).run Tryd.prog (w.alloc (.cells #[.int .u8 n] 5)) = .ok (.string ⟨#[UInt8.ofNat n]⟩) (w.alloc (.cells #[.int .u8 n] 5)) := conv_new w [UInt8.ofNat n] #[.int .u8 n] (by simp [Lib.byteCells]; omega)
  by_cases h2 : e = 2
  · subst h2
    have h1 : (n : Int) < 128 := by rcases h with h | h; exact absurd rfl h; omega
    have d1 : decide ((n : Int) < 128) = true := by simp; omega
    clear h
    go_enter Tryd.func56, Tryd.ntmps56
    go_wp2
    go_ret
    exact ⟨rfl, (Below.refl _ _).alloc (Nat.le_refl _) _⟩
  · have hb2 : (e != 2) = true := by rw [bne_iff_ne]; exact h2
    clear h h2
    go_enter Tryd.func56, Tryd.ntmps56
    go_wp2
    go_ret
    exact ⟨rfl, (Below.refl _ _).alloc (Nat.le_refl _) _⟩

set_option maxRecDepth 100000 in
set_option maxHeartbeats 2000000 in
theorem r56_2 (n : Nat) (w : World) (h1 : 128 ≤ n) (h2 : n < 2048) :
    Calls Tryd.prog 56 #[.int .i64 n, .int .i64 2] w fun e' w' => e' = .returned (.string ⟨#[UInt8.ofNat (192 + n / 64), UInt8.ofNat (128 + n % 64)]⟩) ∧ Below w.heap.size w w' := by
  have hb0 : ((UInt8.ofNat (192 + n / 64)).toNat : Int) = 192 + (n : Int) / 64 := by rw [UInt8.toNat_ofNat']; omega
  have hb1 : ((UInt8.ofNat (128 + n % 64)).toNat : Int) = 128 + (n : Int) % 64 := by rw [UInt8.toNat_ofNat']; omega
  have hcv : (convert 58 9 (.slice (some ⟨w.heap.size, 0, none⟩) 2 2)).run Tryd.prog (w.alloc (.cells #[.int .u8 (192 + (n : Int) / 64), .int .u8 (128 + (n : Int) % 64)] 5)) = .ok (.string ⟨#[UInt8.ofNat (192 + n / 64), UInt8.ofNat (128 + n % 64)]⟩) (w.alloc (.cells #[.int .u8 (192 + (n : Int) / 64), .int .u8 (128 + (n : Int) % 64)] 5)) := conv_new w [UInt8.ofNat (192 + n / 64), UInt8.ofNat (128 + n % 64)] #[.int .u8 (192 + (n : Int) / 64), .int .u8 (128 + (n : Int) % 64)] (by simp only [Lib.byteCells, List.map_cons, List.map_nil, hb0, hb1])
  clear hb0 hb1
  have g1 : (128 : Int) ≤ n := by omega
  have d1 : decide ((n : Int) < 128) = false := by simp; omega
  have g2 : (n : Int) < 2048 := by omega
  have d2 : decide ((n : Int) < 2048) = true := by simp; omega
  generalize (⟨#[UInt8.ofNat (192 + n / 64), UInt8.ofNat (128 + n % 64)]⟩ : ByteArray) = y at hcv ⊢
  go_enter Tryd.func56, Tryd.ntmps56
  go_wp2
  go_ret
  exact ⟨rfl, (Below.refl _ _).alloc (Nat.le_refl _) _⟩

set_option maxRecDepth 100000 in
set_option maxHeartbeats 2000000 in
theorem r56_3 (n : Nat) (w : World) (h1 : 2048 ≤ n) (h2 : n < 65536) :
    Calls Tryd.prog 56 #[.int .i64 n, .int .i64 2] w fun e' w' => e' = .returned (.string ⟨#[UInt8.ofNat (224 + n / 4096), UInt8.ofNat (128 + n / 64 % 64), UInt8.ofNat (128 + n % 64)]⟩) ∧ Below w.heap.size w w' := by
  have hb0 : ((UInt8.ofNat (224 + n / 4096)).toNat : Int) = 224 + (n : Int) / 4096 := by rw [UInt8.toNat_ofNat']; omega
  have hb1 : ((UInt8.ofNat (128 + n / 64 % 64)).toNat : Int) = 128 + (n : Int) / 64 % 64 := by rw [UInt8.toNat_ofNat']; omega
  have hb2 : ((UInt8.ofNat (128 + n % 64)).toNat : Int) = 128 + (n : Int) % 64 := by rw [UInt8.toNat_ofNat']; omega
  have hcv : (convert 58 9 (.slice (some ⟨w.heap.size, 0, none⟩) 3 3)).run Tryd.prog (w.alloc (.cells #[.int .u8 (224 + (n : Int) / 4096), .int .u8 (128 + (n : Int) / 64 % 64), .int .u8 (128 + (n : Int) % 64)] 5)) = .ok (.string ⟨#[UInt8.ofNat (224 + n / 4096), UInt8.ofNat (128 + n / 64 % 64), UInt8.ofNat (128 + n % 64)]⟩) (w.alloc (.cells #[.int .u8 (224 + (n : Int) / 4096), .int .u8 (128 + (n : Int) / 64 % 64), .int .u8 (128 + (n : Int) % 64)] 5)) := conv_new w [UInt8.ofNat (224 + n / 4096), UInt8.ofNat (128 + n / 64 % 64), UInt8.ofNat (128 + n % 64)] #[.int .u8 (224 + (n : Int) / 4096), .int .u8 (128 + (n : Int) / 64 % 64), .int .u8 (128 + (n : Int) % 64)] (by simp only [Lib.byteCells, List.map_cons, List.map_nil, hb0, hb1, hb2])
  clear hb0 hb1 hb2
  have g1 : (128 : Int) ≤ n := by omega
  have d1 : decide ((n : Int) < 128) = false := by simp; omega
  have g2 : (2048 : Int) ≤ n := by omega
  have d2 : decide ((n : Int) < 2048) = false := by simp; omega
  have g3 : (n : Int) < 65536 := by omega
  have d3 : decide ((n : Int) < 65536) = true := by simp; omega
  generalize (⟨#[UInt8.ofNat (224 + n / 4096), UInt8.ofNat (128 + n / 64 % 64), UInt8.ofNat (128 + n % 64)]⟩ : ByteArray) = y at hcv ⊢
  go_enter Tryd.func56, Tryd.ntmps56
  go_wp2
  go_ret
  exact ⟨rfl, (Below.refl _ _).alloc (Nat.le_refl _) _⟩

set_option maxRecDepth 100000 in
set_option maxHeartbeats 2000000 in
theorem r56_4 (n : Nat) (w : World) (h1 : 65536 ≤ n) (h2 : n < 1114112) :
    Calls Tryd.prog 56 #[.int .i64 n, .int .i64 2] w fun e' w' => e' = .returned (.string ⟨#[UInt8.ofNat (240 + n / 262144), UInt8.ofNat (128 + n / 4096 % 64), UInt8.ofNat (128 + n / 64 % 64), UInt8.ofNat (128 + n % 64)]⟩) ∧ Below w.heap.size w w' := by
  have hb0 : ((UInt8.ofNat (240 + n / 262144)).toNat : Int) = 240 + (n : Int) / 262144 := by rw [UInt8.toNat_ofNat']; omega
  have hb1 : ((UInt8.ofNat (128 + n / 4096 % 64)).toNat : Int) = 128 + (n : Int) / 4096 % 64 := by rw [UInt8.toNat_ofNat']; omega
  have hb2 : ((UInt8.ofNat (128 + n / 64 % 64)).toNat : Int) = 128 + (n : Int) / 64 % 64 := by rw [UInt8.toNat_ofNat']; omega
  have hb3 : ((UInt8.ofNat (128 + n % 64)).toNat : Int) = 128 + (n : Int) % 64 := by rw [UInt8.toNat_ofNat']; omega
  have hcv : (convert 58 9 (.slice (some ⟨w.heap.size, 0, none⟩) 4 4)).run Tryd.prog (w.alloc (.cells #[.int .u8 (240 + (n : Int) / 262144), .int .u8 (128 + (n : Int) / 4096 % 64), .int .u8 (128 + (n : Int) / 64 % 64), .int .u8 (128 + (n : Int) % 64)] 5)) = .ok (.string ⟨#[UInt8.ofNat (240 + n / 262144), UInt8.ofNat (128 + n / 4096 % 64), UInt8.ofNat (128 + n / 64 % 64), UInt8.ofNat (128 + n % 64)]⟩) (w.alloc (.cells #[.int .u8 (240 + (n : Int) / 262144), .int .u8 (128 + (n : Int) / 4096 % 64), .int .u8 (128 + (n : Int) / 64 % 64), .int .u8 (128 + (n : Int) % 64)] 5)) := conv_new w [UInt8.ofNat (240 + n / 262144), UInt8.ofNat (128 + n / 4096 % 64), UInt8.ofNat (128 + n / 64 % 64), UInt8.ofNat (128 + n % 64)] #[.int .u8 (240 + (n : Int) / 262144), .int .u8 (128 + (n : Int) / 4096 % 64), .int .u8 (128 + (n : Int) / 64 % 64), .int .u8 (128 + (n : Int) % 64)] (by simp only [Lib.byteCells, List.map_cons, List.map_nil, hb0, hb1, hb2, hb3])
  clear hb0 hb1 hb2 hb3
  have g1 : (128 : Int) ≤ n := by omega
  have d1 : decide ((n : Int) < 128) = false := by simp; omega
  have g2 : (2048 : Int) ≤ n := by omega
  have d2 : decide ((n : Int) < 2048) = false := by simp; omega
  have g3 : (65536 : Int) ≤ n := by omega
  have d3 : decide ((n : Int) < 65536) = false := by simp; omega
  generalize (⟨#[UInt8.ofNat (240 + n / 262144), UInt8.ofNat (128 + n / 4096 % 64), UInt8.ofNat (128 + n / 64 % 64), UInt8.ofNat (128 + n % 64)]⟩ : ByteArray) = y at hcv ⊢
  go_enter Tryd.func56, Tryd.ntmps56
  go_wp2
  go_ret
  exact ⟨rfl, (Below.refl _ _).alloc (Nat.le_refl _) _⟩

theorem r56 (e c : Int) (y : ByteArray) (w : World) (_he : isEnc e = true) (h : chrOf e c = some y) :
    Calls Tryd.prog 56 #[.int .i64 c, .int .i64 e] w fun e' w' => e' = .returned (.string y) ∧ Below w.heap.size w w' := by
  have h0 : 0 ≤ c := by
    rcases (by omega : c < 0 ∨ 0 ≤ c) with h1 | h1
    · rw [chr_none_neg e c h1] at h; cases h
    · exact h1
  obtain ⟨n, rfl⟩ := Int.eq_ofNat_of_zero_le h0
  unfold chrOf at h
  by_cases h2 : e = 2
  · subst h2
    rw [if_pos rfl] at h
    by_cases hs : 0 ≤ (n : Int) ∧ (n : Int) ≤ 1114111 ∧ ¬ (55296 ≤ (n : Int) ∧ (n : Int) ≤ 57343)
    · rw [if_pos hs] at h
      obtain rfl := Option.some.inj h
      have hv : Utf8.valid (n : Int) = true := by
        unfold Utf8.valid
        simp
        omega
      unfold Utf8.encode
      simp only [hv, if_true, Int.toNat_natCast]
      by_cases c1 : n < 128
      · rw [if_pos c1]; exact r56_1 2 n w (by omega) (.inr c1)
      · rw [if_neg c1]
        by_cases c2 : n < 2048
        · rw [if_pos c2]; exact r56_2 n w (by omega) c2
        · rw [if_neg c2]
          by_cases c3 : n < 65536
          · rw [if_pos c3]; exact r56_3 n w (by omega) c3
          · rw [if_neg c3]; exact r56_4 n w (by omega) (by omega)
    · rw [if_neg hs] at h; cases h
  · rw [if_neg h2] at h
    by_cases hs : 0 ≤ (n : Int) ∧ (n : Int) < limOf e
    · rw [if_pos hs] at h
      obtain rfl := Option.some.inj h
      have hl : limOf e ≤ 256 := by unfold limOf; split <;> omega
      exact r56_1 e n w (by omega) (.inl h2)
    · rw [if_neg hs] at h; cases h

def OfRes (e : Int) (cs : List Int) (r : Ending) : Prop :=
  (allOk e cs = true ∧ r = .returned (.tuple #[.string (ofT e cs), .int .i64 0])) ∨ (allOk e cs = false ∧ r = .returned (.tuple #[.string ⟨#[]⟩, .int .i64 5]))
set_option maxRecDepth 100000 in
set_option maxHeartbeats 2000000 in
theorem r24_arg (v : Value) (e : Int) (w : World) (he : isEnc e = false) :
    Calls Tryd.prog 24 #[v, .int .i64 e] w fun e' w' => e' = .returned (.tuple #[.string ⟨#[]⟩, .int .i64 1]) ∧ Below w.heap.size w w' := by
  have c0 := fun W => c49_0 e W
  rw [he] at c0
  clear he
  go_enter Tryd.func24, Tryd.ntmps24
  go_wp2_with fail
  refine (c0 _).mono ?_
  rintro e' w2 ⟨rfl, rfl⟩
  go_wp2
  go_ret2
  exact ⟨rfl, Below.refl _ _⟩

set_option maxRecDepth 100000 in
set_option maxHeartbeats 2000000 in
theorem r24 (cs : List Int) (v : Value) (e : Int) (w : World) (he : isEnc e = true) (hv : IntsRead w v cs) (hl : cs.length ≤ 100000) :
    Calls Tryd.prog 24 #[v, .int .i64 e] w fun e' w' => OfRes e cs e' ∧ Below w.heap.size w w' := by
  obtain ⟨ao, cap, rfl, hcells⟩ := hv
  have HC := Lib.hid hcells
  clear hcells
  have c0 := fun W => c49_0 e W
  rw [he] at c0
  have H55 := Lib.hid (fun c W => r55 e c W he)
  have H56 := Lib.hid (fun c y W h => r56 e c y W he h)
  have hsum := ofT_sum e cs hl
  have hlm : (cs.map (chrS e)).length = cs.length := by simp
  have HLm := Lib.hid hlm
  have HSum := Lib.hid hsum
  clear he hlm hsum
  obtain ⟨i0, hi, hz0, hz1, hz2⟩ := info_parts infoByte
  go_enter Tryd.func24, Tryd.ntmps24
  go_wp2_with fail
  refine (c0 _).mono ?_
  rintro e' w2 ⟨rfl, rfl⟩
  go_wp2
  go_loopw [6, 7] (fun b i wr => ∃ k : Nat, k ≤ cs.length ∧ i = .int .i64 k ∧ wr.ownsRow w.heap.size 5 1 b (cat ((cs.map (chrS e)).take k)).length (Lib.byteCells (cat ((cs.map (chrS e)).take k))) ∧ Go.RowKit.Hid (∀ c ∈ cs.take k, (chrOf e c).isSome = true) ∧ Below w.heap.size w wr) (fun _ i _ => cs.length - (Go.RowKit.intOf i).toNat)
  case atStart => exact ⟨0, Nat.zero_le _, rfl, World.ownsRow_nil _ _ _ _, (by show ∀ c ∈ _, _; simp), Below.refl _ _⟩
  case round =>
    obtain ⟨k, hk, rfl, hrow, hok, hB⟩ := hrel
    by_cases hlt : k < cs.length
    · obtain ⟨g, off, rfl, hgs, x1⟩ := HC.out k hlt
      have y1 := (hB.cell (p := ⟨g, off + k, none⟩) hgs).trans x1
      have hki : (k : Int) < cs.length := by omega
      have htk := Lib.hid (List.take_succ_eq_append_getElem hlt)
      have hmem := Lib.hid (List.getElem_mem hlt)
      have hk' : k < (cs.map (chrS e)).length := by rw [HLm.out]; exact hlt
      have hs1 := Lib.hid (cat_take_succ (cs.map (chrS e)) k hk')
      have hs2 := sumS_take_succ (cs.map (chrS e)) k hk'
      have hs3 := sumS_take_le (cs.map (chrS e)) (k + 1)
      have hgk : (cs.map (chrS e))[k] = chrS e cs[k] := by simp
      obtain ⟨c, hc⟩ : ∃ c, cs[k] = c := ⟨_, rfl⟩
      rw [hc] at y1 htk hmem hgk
      have HGK := Lib.hid hgk
      clear x1 hc
      have q55 := H55.out c
      cases ho : chrOf e c with
      | none =>
        rw [ho] at q55
        have Ho := Lib.hid ho
        have Q55 := Lib.hid q55
        clear ho q55 hs2 hs3 hgk
        go_wp2_with fail
        refine (Q55.out _).mono ?_
        rintro r1 w5 ⟨rfl, rfl⟩
        go_wp2
        go_ret2
        refine ⟨.inr ⟨?_, rfl⟩, hB⟩
        cases hx : allOk e cs with
        | false => rfl
        | true =>
          have := List.all_eq_true.1 hx c hmem.out
          rw [Ho.out] at this
          cases this
      | some y =>
        have hcy : chrS e c = y := by unfold chrS; rw [ho]; rfl
        rw [ho] at q55
        have Q56 := Lib.hid (fun W => H56.out c y W ho)
        have Q55 := Lib.hid q55
        have hok2 : Go.RowKit.Hid (∀ c ∈ cs.take (k + 1), (chrOf e c).isSome = true) := by
          show ∀ q ∈ _, _
          rw [htk.out]
          intro q hq
          rcases List.mem_append.1 hq with hq | hq
          · exact hok.out q hq
          · rw [List.mem_singleton.1 hq, ho]; rfl
        have hsz : (cat ((cs.map (chrS e)).take k)).length + y.size ≤ 140737488355328 := by
          rw [hgk, hcy] at hs2
          have hsm := HSum.out
          unfold sumS at hs2 hs3 hsm
          omega
        have Hcy := Lib.hid hcy
        clear ho q55 hs2 hs3 hgk hcy
        go_wp2_with fail
        refine (Q55.out _).mono ?_
        rintro r1 w5 ⟨rfl, rfl⟩
        go_wp2_with fail
        refine (Q56.out _).mono ?_
        rintro r1 w5 ⟨rfl, hb5⟩
        have hrow5 := ownsRow_below hrow hb5
        have hB5 := hB.trans (hb5.mono hB.size)
        go_wp2_with (at_builtin; refine Lib.wpList_append_own_string _ rfl _ _ 58 9 rfl w.heap.size 5 i0 Tryd.underlying58 Tryd.underlying9 hi hz0 hz1 hz2 _ _ _ rfl hrow5 y rfl ?c3 ?c4 ?c5 ?_)
        case c3 => unfold maxLen; omega
        case c4 => omega
        case c5 => exact hB5.size
        intro v' w6 hown' hgrow _
        have hB6 : Below w.heap.size w w6 := hB5.grown hgrow hB5.size (fun j hj => (hrow5.lt j hj).1)
        have hown2 : w6.ownsRow w.heap.size 5 1 v' (cat ((cs.map (chrS e)).take (k + 1))).length (Lib.byteCells (cat ((cs.map (chrS e)).take (k + 1)))) := by
          rw [hs1.out, HGK.out, Hcy.out]
          have e1 : Lib.byteCells (cat ((cs.map (chrS e)).take k) ++ y.data.toList) = Lib.byteCells (cat ((cs.map (chrS e)).take k)) ++ Lib.strCells y := by
            rw [Lib.strCells_eq]; simp [Lib.byteCells]
          have e2 : (cat ((cs.map (chrS e)).take k) ++ y.data.toList).length = (cat ((cs.map (chrS e)).take k)).length + y.size := by rw [List.length_append]; rfl
          rw [e1, e2]
          exact hown'
        obtain ⟨ao', cap', rfl⟩ := row_slice hown'
        go_wp2
        go_roundw
        case rel => exact ⟨k + 1, by omega, by go_num, hown2, hok2, hB6⟩
        case measure => simp [Go.RowKit.intOf]; omega
    · have hki : (cs.length : Int) ≤ k := by omega
      have htk : Go.RowKit.Hid ((cs.map (chrS e)).take k = cs.map (chrS e)) := by show _ = _; rw [List.take_of_length_le (by rw [HLm.out]; omega)]
      have htk2 : Go.RowKit.Hid (cs.take k = cs) := by show _ = _; rw [List.take_of_length_le (by omega)]
      have hcv := conv_row wr w.heap.size _ _ hrow
      obtain ⟨ao', cap', rfl⟩ := row_slice hrow
      go_wp2
      go_ret2
      refine ⟨.inl ⟨?_, ?_⟩, hB⟩
      · have h1 := hok.out
        rw [htk2.out] at h1
        exact List.all_eq_true.2 h1
      · rw [htk.out]; rfl
end Go.Proofs.YtjdnpgknamhnlaaDoor
