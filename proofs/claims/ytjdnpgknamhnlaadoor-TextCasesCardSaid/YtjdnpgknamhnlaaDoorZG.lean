/- The law TextScrubs: Scrub is that of 1.3; a string that is valid stays; what is scrubbed by a valid string is valid. -/
import Derived.Test.YtjdnpgknamhnlaaDoorZ
import Derived.Test.YtjdnpgknamhnlaaDoorN
import Derived.Lib.MapLaws
import Derived.Laws.World
import Derived.Lib.BufferMore
namespace Go.Proofs.YtjdnpgknamhnlaaDoor
open Go Go.RowKit Go.Shelf

/-- A code that is read is that of a character. -/
theorem oneN_scalar (n b0 b1 b2 b3 : Nat) (h : 0 ≤ (oneN n b0 b1 b2 b3).2) : (oneN n b0 b1 b2 b3).2 ≤ 1114111 ∧ ¬ (55296 ≤ (oneN n b0 b1 b2 b3).2 ∧ (oneN n b0 b1 b2 b3).2 ≤ 57343) := by
  have hL := lo2_cases b0
  have hH := hi2_cases b0
  revert h
  unfold oneN ok2 okC
  simp only [Bool.and_eq_true, decide_eq_true_eq]
  generalize lo2 b0 = L at hL ⊢
  generalize hi2 b0 = H at hH ⊢
  repeat' split
  all_goals (intro _; dsimp only at *; omega)
theorem byte_eq (n : Nat) (r : Int) (h : r = n) : r.toNat.toUInt8 = UInt8.ofNat n := by subst h; rfl
theorem encode_list (r : Int) (h0 : 0 ≤ r) (h1 : r ≤ 1114111) (h2 : ¬ (55296 ≤ r ∧ r ≤ 57343)) : (Utf8.encode r).data.toList = Lib.encodeRune r := by
  obtain ⟨n, rfl⟩ := Int.eq_ofNat_of_zero_le h0
  have hv : Utf8.valid (n : Int) = true := by
    unfold Utf8.valid
    simp
    omega
  unfold Utf8.encode Lib.encodeRune
  simp only [hv, if_true, Int.toNat_natCast]
  by_cases c1 : n < 128
  · rw [if_pos c1, Lib.encodeRuneZ_one (by omega) (by omega)]
    simp only [List.map_cons, List.map_nil]
    rw [byte_eq n _ rfl]
  · rw [if_neg c1]
    by_cases c2 : n < 2048
    · rw [if_pos c2, Lib.encodeRuneZ_two (by omega) (by omega)]
      simp only [List.map_cons, List.map_nil]
      rw [byte_eq (192 + n / 64) _ (by omega), byte_eq (128 + n % 64) _ (by omega)]
    · rw [if_neg c2]
      by_cases c3 : n < 65536
      · rw [if_pos c3, Lib.encodeRuneZ_three (by omega)]
        simp only [List.map_cons, List.map_nil]
        rw [byte_eq (224 + n / 4096) _ (by omega), byte_eq (128 + n / 64 % 64) _ (by omega), byte_eq (128 + n % 64) _ (by omega)]
      · rw [if_neg c3, Lib.encodeRuneZ_four (by omega) (by omega)]
        simp only [List.map_cons, List.map_nil]
        rw [byte_eq (240 + n / 262144) _ (by omega), byte_eq (128 + n / 4096 % 64) _ (by omega), byte_eq (128 + n / 64 % 64) _ (by omega), byte_eq (128 + n % 64) _ (by omega)]
theorem bytes_ext {x y : ByteArray} (h : x.data.toList = y.data.toList) : x = y := by
  have h3 : x.data = y.data := Array.toList_inj.1 h
  cases x; cases y
  simpa using h3
/-- A character that is read is written back as its bytes. -/
theorem one_chr (s : ByteArray) (hs : 0 < s.size) : chrOf 2 (one s).2 = if 0 ≤ (one s).2 then some (s.extract 0 (one s).1) else none := by
  by_cases hc : 0 ≤ (one s).2
  · have b0 := (s.get! 0).toNat_lt
    have b1 := (s.get! 1).toNat_lt
    have b2 := (s.get! 2).toNat_lt
    have b3 := (s.get! 3).toNat_lt
    have hsc := oneN_scalar s.size _ _ _ _ hc
    have hd := decode_one s.size _ _ _ _ hs b0 b1 b2 b3 hc
    have hne : s.data.toList ≠ [] := fun h => by
      have e1 : s.data.toList.length = 0 := by rw [h]; rfl
      have e2 : s.data.toList.length = s.size := rfl
      omega
    rw [if_pos hc]
    unfold chrOf
    rw [if_pos rfl, if_pos ⟨hc, hsc.1, hsc.2⟩]
    congr 1
    refine bytes_ext ?_
    rw [encode_list _ hc hsc.1 hsc.2]
    have he := Lib.encode_decode s.data.toList hne (by rw [decodeL_one]; exact hd.2)
    rw [decodeL_one, hd.1.1, hd.1.2] at he
    show Lib.encodeRune (one s).2 = _
    have he' : Lib.encodeRune (one s).2 = s.data.toList.take (one s).1 := he
    rw [he', ByteArray.data_extract, Array.toList_extract]
    simp [List.extract_eq_take_drop]
  · rw [if_neg hc]
    unfold chrOf
    rw [if_pos rfl, if_neg (fun h => hc h.1)]
theorem parts_chr : ∀ (n : Nat) (s : ByteArray), s.size = n → ∀ p ∈ parts (nxOf 2) s, chrOf 2 p.2 = if 0 ≤ p.2 then some p.1 else none := fun n => by
  induction n using Nat.strongRecOn with
  | _ n ih =>
    intro s hs p hp
    by_cases h0 : s.size = 0
    · rw [parts_nil _ s h0] at hp; cases hp
    · have h1 : 0 < s.size := by omega
      have hlo := (nxOf_ok 2).lo s h1
      rw [parts_cons (nxOf_ok 2) s h1] at hp
      rcases List.mem_cons.1 hp with rfl | hp
      · exact one_chr s h1
      · exact ih _ (by simp; omega) (s.extract (nxOf 2 s).1 s.size) rfl p hp

/-- A character, or what replaces it. -/
def put (by' : ByteArray) (p : ByteArray × Int) : ByteArray := if p.2 < 0 then by' else p.1
theorem pcs_put (s by' : ByteArray) : pcs 2 by' (parts (nxOf 2) s) = (parts (nxOf 2) s).map (put by') := by
  unfold pcs
  refine List.map_congr_left fun p hp => ?_
  rw [parts_chr s.size s rfl p hp]
  unfold put
  by_cases h : 0 ≤ p.2
  · rw [if_pos h, if_neg (by omega)]; rfl
  · rw [if_neg h, if_pos (by omega)]; rfl
def scrubS (s by' : ByteArray) : ByteArray := glue ((parts (nxOf 2) s).map (put by'))
theorem t29s (s by' : ByteArray) (w : World) (hT : Lib.Utf8Tabs 0 1 w) (hs : s.size ≤ 100000) (hby : by'.size ≤ 100000) :
    Calls Tryd.prog 29 #[.string s, .string by'] w fun e' w' => e' = .returned (.tuple #[.string (scrubS s by'), .int .i64 0]) ∧ Below w.heap.size w w' := by
  have h := t29 s by' w hT hs hby
  rw [pcs_put] at h
  exact h

theorem scrub_stays (s by' : ByteArray) (h : ∀ p ∈ parts (nxOf 2) s, 0 ≤ p.2) : scrubS s by' = s := by
  unfold scrubS
  have e : (parts (nxOf 2) s).map (put by') = textsP (parts (nxOf 2) s) := by
    unfold textsP
    refine List.map_congr_left fun p hp => ?_
    have := h p hp
    unfold put
    rw [if_neg (by omega)]
  rw [e, glue_parts (nxOf_ok 2)]
theorem glue_append (a b : List ByteArray) : glue (a ++ b) = glue a ++ glue b := by
  induction a with
  | nil => refine bytes_ext ?_; simp [glue, cat]
  | cons x a ih =>
    rw [List.cons_append, glue_cons, glue_cons, ih]
    refine bytes_ext ?_
    simp
def spread (by' : ByteArray) (p : ByteArray × Int) : List (ByteArray × Int) := if p.2 < 0 then parts (nxOf 2) by' else [p]
theorem glue_spread (by' : ByteArray) (l : List (ByteArray × Int)) : glue (textsP (l.flatMap (spread by'))) = glue (l.map (put by')) := by
  induction l with
  | nil => rfl
  | cons p l ih =>
    have e1 : textsP ((p :: l).flatMap (spread by')) = textsP (spread by' p) ++ textsP (l.flatMap (spread by')) := by simp [textsP]
    rw [e1, glue_append, ih, List.map_cons, glue_cons]
    congr 1
    unfold spread put
    by_cases h : p.2 < 0
    · rw [if_pos h, if_pos h, glue_parts (nxOf_ok 2)]
    · rw [if_neg h, if_neg h]
      refine bytes_ext ?_
      simp [textsP, glue, cat]
theorem scrub_fine (s by' : ByteArray) (hv : vldOf 2 by' = true) : vldOf 2 (scrubS s by') = true := by
  have hb := (valid_parts by'.size by' rfl).1 hv
  have hfb := firm_parts 2 by'.size by' rfl (fun _ => hb)
  have hall : ∀ p ∈ (parts (nxOf 2) s).flatMap (spread by'), Firm (nxOf 2) p ∧ 0 ≤ p.2 := by
    have hfirst : ∀ (n : Nat) (u : ByteArray), u.size = n → ∀ p ∈ parts (nxOf 2) u, 0 ≤ p.2 → Firm (nxOf 2) p := fun n => by
      induction n using Nat.strongRecOn with
      | _ n ih =>
        intro u hu p hp h0
        by_cases hz : u.size = 0
        · rw [parts_nil _ u hz] at hp; cases hp
        · have h1 : 0 < u.size := by omega
          have hlo := (nxOf_ok 2).lo u h1
          rw [parts_cons (nxOf_ok 2) u h1] at hp
          rcases List.mem_cons.1 hp with rfl | hp
          · exact firm_first 2 u h1 (fun _ => h0)
          · exact ih _ (by simp; omega) (u.extract (nxOf 2 u).1 u.size) rfl p hp h0
    intro p hp
    obtain ⟨q, hq, hpq⟩ := List.mem_flatMap.1 hp
    unfold spread at hpq
    by_cases h : q.2 < 0
    · rw [if_pos h] at hpq
      exact ⟨hfb p hpq, hb p hpq⟩
    · rw [if_neg h] at hpq
      obtain rfl := List.mem_singleton.1 hpq
      exact ⟨hfirst s.size s rfl p hq (by omega), by omega⟩
  show Lib.validD (scrubS s by').data.toList = true
  rw [valid_parts (scrubS s by').size (scrubS s by') rfl]
  have hp : parts one (scrubS s by') = (parts (nxOf 2) s).flatMap (spread by') := by
    unfold scrubS
    rw [← glue_spread]
    exact parts_glue (nxOf_ok 2) _ (fun p hp => (hall p hp).1)
  rw [hp]
  exact fun p hp => (hall p hp).2
theorem scrub_size (s by' : ByteArray) (hs : s.size ≤ 3000) (hby : by'.size ≤ 100) : (scrubS s by').size ≤ 9223372036854775807 := by
  have hpl := parts_length (nxOf_ok 2) s.size s rfl
  have h := pcs_sum 2 by' (by omega) (parts (nxOf 2) s) (by omega)
  rw [pcs_put] at h
  have : (scrubS s by').size = sumS ((parts (nxOf 2) s).map (put by')) := rfl
  omega

/-- The cells of the characters, the first k of them put right. -/
def RowsAt (cs : Array Value) (ps : List (ByteArray × Int)) (by' : ByteArray) (k : Nat) : Prop :=
  ∀ j (h : j < ps.length), cs[j * 2]? = some (.string (if j < k then put by' ps[j] else ps[j].1)) ∧ cs[j * 2 + 1]? = some (.int .i64 ps[j].2)
theorem rows_keep {cs : Array Value} {ps : List (ByteArray × Int)} {by' : ByteArray} {k : Nat} (h : RowsAt cs ps by' k) (hk : k < ps.length) (hc : ¬ ps[k].2 < 0) : RowsAt cs ps by' (k + 1) := fun j hj => by
  obtain ⟨h1, h2⟩ := h j hj
  refine ⟨?_, h2⟩
  rw [h1]
  by_cases e : j = k
  · subst e
    rw [if_neg (by omega), if_pos (by omega)]
    unfold put
    rw [if_neg hc]
  · by_cases l : j < k
    · rw [if_pos l, if_pos (by omega)]
    · rw [if_neg l, if_neg (by omega)]
theorem rows_set {cs : Array Value} {ps : List (ByteArray × Int)} {by' : ByteArray} {k : Nat} (h : RowsAt cs ps by' k) (hk : k < ps.length) (hc : ps[k].2 < 0) : RowsAt (cs.setIfInBounds (k * 2) (.string by')) ps by' (k + 1) := fun j hj => by
  obtain ⟨h1, h2⟩ := h j hj
  have hz : k * 2 < cs.size := by
    have := (h k hk).1
    rcases Nat.lt_or_ge (k * 2) cs.size with h' | h'
    · exact h'
    · rw [Array.getElem?_eq_none h'] at this; cases this
  refine ⟨?_, by rw [Array.getElem?_setIfInBounds, if_neg (by omega)]; exact h2⟩
  rw [Array.getElem?_setIfInBounds]
  by_cases e : j = k
  · subst e
    rw [if_pos rfl, if_pos hz, if_pos (by omega)]
    unfold put
    rw [if_pos hc]
  · rw [if_neg (by omega), h1]
    by_cases l : j < k
    · rw [if_pos l, if_pos (by omega)]
    · rw [if_neg l, if_neg (by omega)]
def putP (by' : ByteArray) (ps : List (ByteArray × Int)) : List (ByteArray × Int) := ps.map fun p => (put by' p, p.2)
theorem putP_texts (by' : ByteArray) (ps : List (ByteArray × Int)) : textsP (putP by' ps) = ps.map (put by') := by simp [textsP, putP]
theorem putP_sum (s by' : ByteArray) (hs : s.size ≤ 100000) (hby : by'.size ≤ 100000) : sumS (textsP (putP by' (parts (nxOf 2) s))) ≤ 140737488355328 := by
  have hpl := parts_length (nxOf_ok 2) s.size s rfl
  have h := pcs_sum 2 by' hby (parts (nxOf 2) s) (by omega)
  rw [pcs_put] at h
  rw [putP_texts]
  exact h

set_option maxRecDepth 100000 in
set_option maxHeartbeats 2000000 in
theorem r30 (s by' : ByteArray) (w : World) (hs : s.size ≤ 100000) (hby : by'.size ≤ 100000) :
    Calls Tryd.prog 30 #[.string s, .string by'] w fun e' w' => e' = .returned (.tuple #[.string (scrubS s by'), .int .i64 0]) ∧ Below w.heap.size w w' := by
  have hb : Go.RowKit.Hid ((!isEnc 2 || (decide (100000 < s.size) || decide (100000 < by'.size))) = false) := by
    show _ = _
    rw [decide_eq_false (show ¬ 100000 < s.size by omega), decide_eq_false (show ¬ 100000 < by'.size by omega)]; rfl
  have hB1 : Below w.heap.size w (w.alloc (.cells #[.string s, .string by'] 9)) := (Below.refl _ _).alloc (Nat.le_refl _) _
  have cP := c50 2 rfl s hs (w.alloc (.cells #[.string s, .string by'] 9))
  have hpl := parts_length (nxOf_ok 2) s.size s rfl
  have hsum := putP_sum s by' hs hby
  have hS : scrubS s by' = glue (textsP (putP by' (parts (nxOf 2) s))) := by rw [putP_texts]; rfl
  go_enter Tryd.func30, Tryd.ntmps30
  go_wp2_with fail
  refine (c49_2 2 s by' false hb.out _ _ (by omega) (by omega) (by simp) (by simp) (by simp)).mono ?_
  rintro e' w2 ⟨rfl, rfl⟩
  go_wp2_with fail
  refine cP.mono ?_
  rintro e' w3 ⟨v, rfl, hrow, hb3⟩
  have hB3 := hB1.trans (hb3.mono hB1.size)
  generalize parts (nxOf 2) s = ps at *
  have HS := Lib.hid hS
  have HSum := Lib.hid hsum
  clear hS hsum cP
  rcases hrow.2 with ⟨hv, h0⟩ | ⟨g, cap, cs, hv, hgB, hg, hrest⟩
  · subst hv
    have hps : ps = [] := List.eq_nil_of_length_eq_zero h0
    subst hps
    have hpr : PartsRead w3 (.slice none 0 0) ([] : List (ByteArray × Int)) := ⟨none, 0, rfl, fun k hk => by simp at hk⟩
    have cJ := c59 [] _ w3 hpr (by decide) (by decide)
    clear hrow hpr
    go_wp2
    go_loop [7] (fun i => i = .int .i64 0) (fun _ => 0)
    case atStart => rfl
    case round =>
      subst hrel
      go_wp2_with fail
      refine cJ.mono ?_
      rintro e1 w4 ⟨rfl, hb4⟩
      go_wp2
      go_ret2
      exact ⟨by rw [HS.out]; rfl, hB3.trans (hb4.mono hB3.size)⟩
  · subst hv
    have hrows : RowsAt cs ps by' 0 := fun j hj => by
      have h1 := hrow.cellAt (j * 2) (by omega)
      have h2 := hrow.cellAt (j * 2 + 1) (by omega)
      rw [(cellsP_get ps j hj).1] at h1
      rw [(cellsP_get ps j hj).2] at h2
      simp [World.cell?, hg] at h1 h2
      exact ⟨by rw [h1]; simp, h2⟩
    have hgB' : w.heap.size ≤ g := by have h := hgB; simp at h; omega
    have HR := Lib.hid hrows
    clear hrows hrow hrest
    go_wp2
    go_loopw [7] (fun i wr => ∃ (k : Nat) (cs : Array Value), k ≤ ps.length ∧ i = .int .i64 k ∧ wr.heap[g]? = some (.cells cs 72 (0, 0)) ∧ Go.RowKit.Hid (RowsAt cs ps by' k) ∧ Below w.heap.size w wr) (fun i _ => ps.length - (Go.RowKit.intOf i).toNat)
    case atStart => exact ⟨0, cs, Nat.zero_le _, rfl, hg, HR, hB3⟩
    case round =>
      obtain ⟨k, cs', hk, rfl, hblk, hro, hB⟩ := hrel
      by_cases hlt : k < ps.length
      · have hkl : (k : Int) < ps.length := by omega
        obtain ⟨q1, q2⟩ := hro.out k hlt
        rw [if_neg (by omega)] at q1
        have k1 : wr.cell? ⟨g, k * 2, none⟩ = some (.string ps[k].1) := by simp [World.cell?, hblk, q1]
        have k2 : wr.cell? ⟨g, k * 2 + 1, none⟩ = some (.int .i64 ps[k].2) := by simp [World.cell?, hblk, q2]
        have k3 : wr.frozen? ⟨g, k * 2, none⟩ = false := by simp [World.frozen?, hblk]
        by_cases hc : ps[k].2 < 0
        · have hnew := Lib.hid (rows_set hro.out hlt hc)
          have hblk2 := Lib.hid (Lib.heap_setCell_same (i := k * 2) hblk (.string by'))
          have hd : decide (ps[k].2 < 0) = true := by simp; omega
          clear hblk q1 q2
          generalize ps[k] = p at *
          go_wp2
          go_roundw
          case rel => exact ⟨k + 1, _, by omega, by go_num, hblk2.out, hnew, hB.setCell hgB' _⟩
          case measure => simp [Go.RowKit.intOf]; omega
        · have hnew := Lib.hid (rows_keep hro.out hlt hc)
          have hblk2 := Lib.hid hblk
          have hd : decide (ps[k].2 < 0) = false := by simp; omega
          have hd2 : 0 ≤ ps[k].2 := by omega
          clear hblk q1 q2 hc
          generalize ps[k] = p at *
          go_wp2
          go_roundw
          case rel => exact ⟨k + 1, _, by omega, by go_num, hblk2.out, hnew, hB⟩
          case measure => simp [Go.RowKit.intOf]; omega
      · have hkl : (ps.length : Int) ≤ k := by omega
        have hlen : (putP by' ps).length = ps.length := by simp [putP]
        have hgl : g < wr.heap.size := (Array.getElem?_eq_some_iff.1 hblk).1
        have hpr : PartsRead wr (.slice (some ⟨g, 0, none⟩) ps.length cap) (putP by' ps) := ⟨_, cap, by rw [hlen], fun j hj => by
          rw [hlen] at hj
          obtain ⟨q1, q2⟩ := hro.out j hj
          rw [if_pos (by omega)] at q1
          exact ⟨g, 0, rfl, hgl, by simp [World.cell?, hblk, q1, putP], by simp [World.cell?, hblk, q2, putP]⟩⟩
        have cJ := c59 (putP by' ps) _ wr hpr HSum.out (by rw [hlen]; omega)
        clear hblk hlen hpr
        go_wp2_with fail
        refine cJ.mono ?_
        rintro e1 w4 ⟨rfl, hb4⟩
        go_wp2
        go_ret2
        exact ⟨by rw [HS.out]; rfl, hB.trans (hb4.mono hB.size)⟩

set_option maxRecDepth 100000 in
set_option maxHeartbeats 2000000 in
theorem c7_long (s by' : ByteArray) (A : ByteArray) (w : World) (b1 b2 : Bool) (g1 : (s.size : Int) ≤ 3000) (g2 : (by'.size : Int) ≤ 100) (g3 : (100000 : Int) < A.size)
    (HA : Go.RowKit.Hid (Calls Tryd.prog 29 #[.string s, .string by'] w fun e' w' => e' = .returned (.tuple #[.string A, .int .i64 0]) ∧ Below w.heap.size w w'))
    (HB : Go.RowKit.Hid (∀ W, Calls Tryd.prog 30 #[.string s, .string by'] W fun e' w' => e' = .returned (.tuple #[.string A, .int .i64 0]) ∧ Below W.heap.size W w'))
    (H1 : Go.RowKit.Hid (∀ W, Below w.heap.size w W → Calls Tryd.prog 16 #[.string s, .int .i64 2] W fun e' w' => e' = .returned (.tuple #[.bool b1, .int .i64 0]) ∧ Below W.heap.size W w'))
    (H2 : Go.RowKit.Hid (∀ W, Below w.heap.size w W → Calls Tryd.prog 16 #[.string by', .int .i64 2] W fun e' w' => e' = .returned (.tuple #[.bool b2, .int .i64 0]) ∧ Below W.heap.size W w'))
    (H3 : Go.RowKit.Hid (∀ W, Below w.heap.size w W → Calls Tryd.prog 16 #[.string A, .int .i64 2] W fun e' w' => e' = .returned (.tuple #[.bool false, .int .i64 1]) ∧ Below W.heap.size W w'))
    (HE : Go.RowKit.Hid (∀ W, Below w.heap.size w W → Calls Tryd.prog 15 #[] W fun e' w' => e' = .returned (.bool true) ∧ Below W.heap.size W w')) :
    Calls Tryd.prog 7 #[.string s, .string by'] w fun e' w' => e' = .returned (.bool true) ∧ Below w.heap.size w w' := by
  have d1 : decide ((3000 : Int) < s.size) = false := by simp; omega
  have d2 : decide ((100 : Int) < by'.size) = false := by simp; omega
  have d3 : decide ((100000 : Int) < A.size) = true := by simp; omega
  go_enter Tryd.func7, Tryd.ntmps7
  go_wp2_with fail
  refine (HA.out).mono ?_
  rintro e1 w2 ⟨rfl, hb2⟩
  go_wp2_with fail
  refine (HB.out _).mono ?_
  rintro e1 w3 ⟨rfl, hb3⟩
  have hB3 := hb2.trans (hb3.mono hb2.size)
  go_wp2_with fail
  refine (H1.out _ hB3).mono ?_
  rintro e1 w4 ⟨rfl, hb4⟩
  have hB4 := hB3.trans (hb4.mono hB3.size)
  go_wp2_with fail
  refine (H2.out _ hB4).mono ?_
  rintro e1 w5 ⟨rfl, hb5⟩
  have hB5 := hB4.trans (hb5.mono hB4.size)
  go_wp2_with fail
  refine (H3.out _ hB5).mono ?_
  rintro e1 w6 ⟨rfl, hb6⟩
  have hB6 := hB5.trans (hb6.mono hB5.size)
  go_wp2_with fail
  refine (HE.out _ hB6).mono ?_
  rintro e1 w7 ⟨rfl, hb7⟩
  go_wp2
  go_ret
  exact ⟨rfl, hB6.trans (hb7.mono hB6.size)⟩

set_option maxRecDepth 100000 in
set_option maxHeartbeats 2000000 in
theorem c7_tt (s by' : ByteArray) (w : World) (g1 : (s.size : Int) ≤ 3000) (g2 : (by'.size : Int) ≤ 100) 
    (HA : Go.RowKit.Hid (Calls Tryd.prog 29 #[.string s, .string by'] w fun e' w' => e' = .returned (.tuple #[.string s, .int .i64 0]) ∧ Below w.heap.size w w'))
    (HB : Go.RowKit.Hid (∀ W, Calls Tryd.prog 30 #[.string s, .string by'] W fun e' w' => e' = .returned (.tuple #[.string s, .int .i64 0]) ∧ Below W.heap.size W w'))
    (H1 : Go.RowKit.Hid (∀ W, Below w.heap.size w W → Calls Tryd.prog 16 #[.string s, .int .i64 2] W fun e' w' => e' = .returned (.tuple #[.bool true, .int .i64 0]) ∧ Below W.heap.size W w'))
    (H2 : Go.RowKit.Hid (∀ W, Below w.heap.size w W → Calls Tryd.prog 16 #[.string by', .int .i64 2] W fun e' w' => e' = .returned (.tuple #[.bool true, .int .i64 0]) ∧ Below W.heap.size W w'))
    (H3 : Go.RowKit.Hid (∀ W, Below w.heap.size w W → Calls Tryd.prog 16 #[.string s, .int .i64 2] W fun e' w' => e' = .returned (.tuple #[.bool true, .int .i64 0]) ∧ Below W.heap.size W w'))
    (HE : Go.RowKit.Hid (∀ W, Below w.heap.size w W → Calls Tryd.prog 15 #[] W fun e' w' => e' = .returned (.bool true) ∧ Below W.heap.size W w')) :
    Calls Tryd.prog 7 #[.string s, .string by'] w fun e' w' => e' = .returned (.bool true) ∧ Below w.heap.size w w' := by
  have d1 : decide ((3000 : Int) < s.size) = false := by simp; omega
  have d2 : decide ((100 : Int) < by'.size) = false := by simp; omega
  have d3 : decide ((100000 : Int) < s.size) = false := by simp; omega
  have g3 : (s.size : Int) ≤ 100000 := by omega
  go_enter Tryd.func7, Tryd.ntmps7
  go_wp2_with fail
  refine (HA.out).mono ?_
  rintro e1 w2 ⟨rfl, hb2⟩
  go_wp2_with fail
  refine (HB.out _).mono ?_
  rintro e1 w3 ⟨rfl, hb3⟩
  have hB3 := hb2.trans (hb3.mono hb2.size)
  go_wp2_with fail
  refine (H1.out _ hB3).mono ?_
  rintro e1 w4 ⟨rfl, hb4⟩
  have hB4 := hB3.trans (hb4.mono hB3.size)
  go_wp2_with fail
  refine (H2.out _ hB4).mono ?_
  rintro e1 w5 ⟨rfl, hb5⟩
  have hB5 := hB4.trans (hb5.mono hB4.size)
  go_wp2_with fail
  refine (H3.out _ hB5).mono ?_
  rintro e1 w6 ⟨rfl, hb6⟩
  have hB6 := hB5.trans (hb6.mono hB5.size)
  go_wp2_with fail
  refine (HE.out _ hB6).mono ?_
  rintro e1 w7 ⟨rfl, hb7⟩
  go_wp2
  go_ret
  exact ⟨rfl, hB6.trans (hb7.mono hB6.size)⟩

set_option maxRecDepth 100000 in
set_option maxHeartbeats 2000000 in
theorem c7_tf (s by' : ByteArray) (w : World) (g1 : (s.size : Int) ≤ 3000) (g2 : (by'.size : Int) ≤ 100) 
    (HA : Go.RowKit.Hid (Calls Tryd.prog 29 #[.string s, .string by'] w fun e' w' => e' = .returned (.tuple #[.string s, .int .i64 0]) ∧ Below w.heap.size w w'))
    (HB : Go.RowKit.Hid (∀ W, Calls Tryd.prog 30 #[.string s, .string by'] W fun e' w' => e' = .returned (.tuple #[.string s, .int .i64 0]) ∧ Below W.heap.size W w'))
    (H1 : Go.RowKit.Hid (∀ W, Below w.heap.size w W → Calls Tryd.prog 16 #[.string s, .int .i64 2] W fun e' w' => e' = .returned (.tuple #[.bool true, .int .i64 0]) ∧ Below W.heap.size W w'))
    (H2 : Go.RowKit.Hid (∀ W, Below w.heap.size w W → Calls Tryd.prog 16 #[.string by', .int .i64 2] W fun e' w' => e' = .returned (.tuple #[.bool false, .int .i64 0]) ∧ Below W.heap.size W w'))
    (H3 : Go.RowKit.Hid (∀ W, Below w.heap.size w W → Calls Tryd.prog 16 #[.string s, .int .i64 2] W fun e' w' => e' = .returned (.tuple #[.bool true, .int .i64 0]) ∧ Below W.heap.size W w'))
    (HE : Go.RowKit.Hid (∀ W, Below w.heap.size w W → Calls Tryd.prog 15 #[] W fun e' w' => e' = .returned (.bool true) ∧ Below W.heap.size W w')) :
    Calls Tryd.prog 7 #[.string s, .string by'] w fun e' w' => e' = .returned (.bool true) ∧ Below w.heap.size w w' := by
  have d1 : decide ((3000 : Int) < s.size) = false := by simp; omega
  have d2 : decide ((100 : Int) < by'.size) = false := by simp; omega
  have d3 : decide ((100000 : Int) < s.size) = false := by simp; omega
  have g3 : (s.size : Int) ≤ 100000 := by omega
  go_enter Tryd.func7, Tryd.ntmps7
  go_wp2_with fail
  refine (HA.out).mono ?_
  rintro e1 w2 ⟨rfl, hb2⟩
  go_wp2_with fail
  refine (HB.out _).mono ?_
  rintro e1 w3 ⟨rfl, hb3⟩
  have hB3 := hb2.trans (hb3.mono hb2.size)
  go_wp2_with fail
  refine (H1.out _ hB3).mono ?_
  rintro e1 w4 ⟨rfl, hb4⟩
  have hB4 := hB3.trans (hb4.mono hB3.size)
  go_wp2_with fail
  refine (H2.out _ hB4).mono ?_
  rintro e1 w5 ⟨rfl, hb5⟩
  have hB5 := hB4.trans (hb5.mono hB4.size)
  go_wp2_with fail
  refine (H3.out _ hB5).mono ?_
  rintro e1 w6 ⟨rfl, hb6⟩
  have hB6 := hB5.trans (hb6.mono hB5.size)
  go_wp2_with fail
  refine (HE.out _ hB6).mono ?_
  rintro e1 w7 ⟨rfl, hb7⟩
  go_wp2
  go_ret
  exact ⟨rfl, hB6.trans (hb7.mono hB6.size)⟩

set_option maxRecDepth 100000 in
set_option maxHeartbeats 2000000 in
theorem c7_ft (s by' : ByteArray) (A : ByteArray) (w : World) (g1 : (s.size : Int) ≤ 3000) (g2 : (by'.size : Int) ≤ 100) (g3 : (A.size : Int) ≤ 100000)
    (HA : Go.RowKit.Hid (Calls Tryd.prog 29 #[.string s, .string by'] w fun e' w' => e' = .returned (.tuple #[.string A, .int .i64 0]) ∧ Below w.heap.size w w'))
    (HB : Go.RowKit.Hid (∀ W, Calls Tryd.prog 30 #[.string s, .string by'] W fun e' w' => e' = .returned (.tuple #[.string A, .int .i64 0]) ∧ Below W.heap.size W w'))
    (H1 : Go.RowKit.Hid (∀ W, Below w.heap.size w W → Calls Tryd.prog 16 #[.string s, .int .i64 2] W fun e' w' => e' = .returned (.tuple #[.bool false, .int .i64 0]) ∧ Below W.heap.size W w'))
    (H2 : Go.RowKit.Hid (∀ W, Below w.heap.size w W → Calls Tryd.prog 16 #[.string by', .int .i64 2] W fun e' w' => e' = .returned (.tuple #[.bool true, .int .i64 0]) ∧ Below W.heap.size W w'))
    (H3 : Go.RowKit.Hid (∀ W, Below w.heap.size w W → Calls Tryd.prog 16 #[.string A, .int .i64 2] W fun e' w' => e' = .returned (.tuple #[.bool true, .int .i64 0]) ∧ Below W.heap.size W w'))
    (HE : Go.RowKit.Hid (∀ W, Below w.heap.size w W → Calls Tryd.prog 15 #[] W fun e' w' => e' = .returned (.bool true) ∧ Below W.heap.size W w')) :
    Calls Tryd.prog 7 #[.string s, .string by'] w fun e' w' => e' = .returned (.bool true) ∧ Below w.heap.size w w' := by
  have d1 : decide ((3000 : Int) < s.size) = false := by simp; omega
  have d2 : decide ((100 : Int) < by'.size) = false := by simp; omega
  have d3 : decide ((100000 : Int) < A.size) = false := by simp; omega
  go_enter Tryd.func7, Tryd.ntmps7
  go_wp2_with fail
  refine (HA.out).mono ?_
  rintro e1 w2 ⟨rfl, hb2⟩
  go_wp2_with fail
  refine (HB.out _).mono ?_
  rintro e1 w3 ⟨rfl, hb3⟩
  have hB3 := hb2.trans (hb3.mono hb2.size)
  go_wp2_with fail
  refine (H1.out _ hB3).mono ?_
  rintro e1 w4 ⟨rfl, hb4⟩
  have hB4 := hB3.trans (hb4.mono hB3.size)
  go_wp2_with fail
  refine (H2.out _ hB4).mono ?_
  rintro e1 w5 ⟨rfl, hb5⟩
  have hB5 := hB4.trans (hb5.mono hB4.size)
  go_wp2_with fail
  refine (H3.out _ hB5).mono ?_
  rintro e1 w6 ⟨rfl, hb6⟩
  have hB6 := hB5.trans (hb6.mono hB5.size)
  go_wp2_with fail
  refine (HE.out _ hB6).mono ?_
  rintro e1 w7 ⟨rfl, hb7⟩
  go_wp2
  go_ret
  exact ⟨rfl, hB6.trans (hb7.mono hB6.size)⟩

set_option maxRecDepth 100000 in
set_option maxHeartbeats 2000000 in
theorem c7_ff (s by' : ByteArray) (A : ByteArray) (w : World) (b3 : Bool) (g1 : (s.size : Int) ≤ 3000) (g2 : (by'.size : Int) ≤ 100) (g3 : (A.size : Int) ≤ 100000)
    (HA : Go.RowKit.Hid (Calls Tryd.prog 29 #[.string s, .string by'] w fun e' w' => e' = .returned (.tuple #[.string A, .int .i64 0]) ∧ Below w.heap.size w w'))
    (HB : Go.RowKit.Hid (∀ W, Calls Tryd.prog 30 #[.string s, .string by'] W fun e' w' => e' = .returned (.tuple #[.string A, .int .i64 0]) ∧ Below W.heap.size W w'))
    (H1 : Go.RowKit.Hid (∀ W, Below w.heap.size w W → Calls Tryd.prog 16 #[.string s, .int .i64 2] W fun e' w' => e' = .returned (.tuple #[.bool false, .int .i64 0]) ∧ Below W.heap.size W w'))
    (H2 : Go.RowKit.Hid (∀ W, Below w.heap.size w W → Calls Tryd.prog 16 #[.string by', .int .i64 2] W fun e' w' => e' = .returned (.tuple #[.bool false, .int .i64 0]) ∧ Below W.heap.size W w'))
    (H3 : Go.RowKit.Hid (∀ W, Below w.heap.size w W → Calls Tryd.prog 16 #[.string A, .int .i64 2] W fun e' w' => e' = .returned (.tuple #[.bool b3, .int .i64 0]) ∧ Below W.heap.size W w'))
    (HE : Go.RowKit.Hid (∀ W, Below w.heap.size w W → Calls Tryd.prog 15 #[] W fun e' w' => e' = .returned (.bool true) ∧ Below W.heap.size W w')) :
    Calls Tryd.prog 7 #[.string s, .string by'] w fun e' w' => e' = .returned (.bool true) ∧ Below w.heap.size w w' := by
  have d1 : decide ((3000 : Int) < s.size) = false := by simp; omega
  have d2 : decide ((100 : Int) < by'.size) = false := by simp; omega
  have d3 : decide ((100000 : Int) < A.size) = false := by simp; omega
  go_enter Tryd.func7, Tryd.ntmps7
  go_wp2_with fail
  refine (HA.out).mono ?_
  rintro e1 w2 ⟨rfl, hb2⟩
  go_wp2_with fail
  refine (HB.out _).mono ?_
  rintro e1 w3 ⟨rfl, hb3⟩
  have hB3 := hb2.trans (hb3.mono hb2.size)
  go_wp2_with fail
  refine (H1.out _ hB3).mono ?_
  rintro e1 w4 ⟨rfl, hb4⟩
  have hB4 := hB3.trans (hb4.mono hB3.size)
  go_wp2_with fail
  refine (H2.out _ hB4).mono ?_
  rintro e1 w5 ⟨rfl, hb5⟩
  have hB5 := hB4.trans (hb5.mono hB4.size)
  go_wp2_with fail
  refine (H3.out _ hB5).mono ?_
  rintro e1 w6 ⟨rfl, hb6⟩
  have hB6 := hB5.trans (hb6.mono hB5.size)
  go_wp2_with fail
  refine (HE.out _ hB6).mono ?_
  rintro e1 w7 ⟨rfl, hb7⟩
  go_wp2
  go_ret
  exact ⟨rfl, hB6.trans (hb7.mono hB6.size)⟩

set_option maxRecDepth 100000 in
set_option maxHeartbeats 2000000 in
theorem c7_big (s by' : ByteArray) (w : World) (hb : 3000 < s.size ∨ 100 < by'.size) (HE : Go.RowKit.Hid (∀ W, Below w.heap.size w W → Calls Tryd.prog 15 #[] W fun e' w' => e' = .returned (.bool true) ∧ Below W.heap.size W w')) :
    Calls Tryd.prog 7 #[.string s, .string by'] w fun e' w' => e' = .returned (.bool true) ∧ Below w.heap.size w w' := by
  by_cases h1 : 3000 < s.size
  · have g1 : (3000 : Int) < s.size := by omega
    have d1 : decide ((3000 : Int) < s.size) = true := by simp; omega
    clear hb
    go_enter Tryd.func7, Tryd.ntmps7
    go_wp2_with fail
    refine (HE.out _ (Below.refl _ _)).mono ?_
    rintro e1 w2 ⟨rfl, hb2⟩
    go_wp2
    go_ret
    exact ⟨rfl, hb2⟩
  · have g1 : (s.size : Int) ≤ 3000 := by omega
    have d1 : decide ((3000 : Int) < s.size) = false := by simp; omega
    have g2 : (100 : Int) < by'.size := by omega
    have d2 : decide ((100 : Int) < by'.size) = true := by simp; omega
    clear hb
    go_enter Tryd.func7, Tryd.ntmps7
    go_wp2_with fail
    refine (HE.out _ (Below.refl _ _)).mono ?_
    rintro e1 w2 ⟨rfl, hb2⟩
    go_wp2
    go_ret
    exact ⟨rfl, hb2⟩

theorem c7 (s by' : ByteArray) (w : World) (hT : Lib.Utf8Tabs 0 1 w) (_hs : s.size ≤ 9223372036854775807) (_hby : by'.size ≤ 9223372036854775807) :
    Calls Tryd.prog 7 #[.string s, .string by'] w fun e' w' => e' = .returned (.bool true) ∧ Below w.heap.size w w' := by
  have HE := Lib.hid (fun W (hb : Below w.heap.size w W) => c15 W (Utf8Tabs_below hT hb))
  by_cases hb : 3000 < s.size ∨ 100 < by'.size
  · exact c7_big s by' w hb HE
  · have hs3 : s.size ≤ 3000 := by omega
    have hb1 : by'.size ≤ 100 := by omega
    have g1 : (s.size : Int) ≤ 3000 := by omega
    have g2 : (by'.size : Int) ≤ 100 := by omega
    have HA := Lib.hid (t29s s by' w hT (by omega) (by omega))
    have HB := Lib.hid (fun W => r30 s by' W (by omega) (by omega))
    have H1 := Lib.hid (fun W (hb : Below w.heap.size w W) => t16 s 2 W (Utf8Tabs_below hT hb) (by omega) rfl)
    have H2 := Lib.hid (fun W (hb : Below w.heap.size w W) => t16 by' 2 W (Utf8Tabs_below hT hb) (by omega) rfl)
    have hz := scrub_size s by' hs3 hb1
    by_cases hA : 100000 < (scrubS s by').size
    · have H3 := Lib.hid (fun W (hb : Below w.heap.size w W) => t16_arg (scrubS s by') 2 W (Utf8Tabs_below hT hb) hz (.inr hA))
      exact c7_long s by' _ w _ _ g1 g2 (by omega) HA HB H1 H2 H3 HE
    · have H3 := Lib.hid (fun W (hb : Below w.heap.size w W) => t16 (scrubS s by') 2 W (Utf8Tabs_below hT hb) (by omega) rfl)
      cases h1 : vldOf 2 s with
      | true =>
        have hst := scrub_stays s by' (vldOf_parts 2 s h1 rfl)
        rw [hst] at HA HB H3
        rw [h1] at H1 H3
        cases h2 : vldOf 2 by' with
        | true => rw [h2] at H2; exact c7_tt s by' w g1 g2 HA HB H1 H2 H3 HE
        | false => rw [h2] at H2; exact c7_tf s by' w g1 g2 HA HB H1 H2 H3 HE
      | false =>
        rw [h1] at H1
        cases h2 : vldOf 2 by' with
        | true =>
          rw [h2] at H2
          rw [scrub_fine s by' h2] at H3
          exact c7_ft s by' _ w g1 g2 (by omega) HA HB H1 H2 H3 HE
        | false => rw [h2] at H2; exact c7_ff s by' _ w _ g1 g2 (by omega) HA HB H1 H2 H3 HE
end Go.Proofs.YtjdnpgknamhnlaaDoor
