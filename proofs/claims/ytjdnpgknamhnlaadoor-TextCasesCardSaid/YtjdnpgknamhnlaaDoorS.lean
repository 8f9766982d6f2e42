/- Contracts of the reference's Is, bad, Parts. -/
import Derived.Test.YtjdnpgknamhnlaaDoorR
import Derived.WalkSmall
namespace Go.Proofs.YtjdnpgknamhnlaaDoor
open Go Go.RowKit Go.Shelf

set_option maxRecDepth 100000 in
theorem c72 (e : Int) (w : World) : Calls Tryd.prog 72 #[.int .i64 e] w fun e' w' => e' = .returned (.bool (isEnc e)) ∧ w = w' := by
  unfold isEnc
  by_cases h0 : 0 ≤ e
  · have d0 : decide (0 ≤ e) = true := by simp [h0]
    by_cases h1 : e ≤ 2
    · have d1 : decide (e ≤ 2) = true := by simp [h1]
      go_enter Tryd.func72, Tryd.ntmps72
      go_wp2
      go_ret
      exact ⟨bret2 (by simp [h0, h1]), rfl⟩
    · have h1' : 2 < e := by omega
      have d1 : decide (e ≤ 2) = false := by simp; omega
      go_enter Tryd.func72, Tryd.ntmps72
      go_wp2
      go_ret
      exact ⟨bret2 (by simp), rfl⟩
  · have h0' : e < 0 := by omega
    have d0 : decide (0 ≤ e) = false := by simp; omega
    go_enter Tryd.func72, Tryd.ntmps72
    go_wp2
    go_ret
    exact ⟨bret2 (by simp), rfl⟩

set_option maxRecDepth 100000 in
set_option maxHeartbeats 1000000 in
theorem c49 (e : Int) (ps : List ByteArray) (v : Value) (w : World) (hv : JoinRead w v ps) (hlen : ps.length ≤ 140737488355328) (hsz : ∀ p ∈ ps, p.size ≤ 9223372036854775807) :
    Calls Tryd.prog 49 #[.int .i64 e, v] w fun e' w' => e' = .returned (.bool (!isEnc e || tooB ps)) ∧ w = w' := by
  obtain ⟨ao, cap, rfl, hcells⟩ := hv
  have HC := Lib.hid hcells
  clear hcells
  have HZ := Lib.hid hsz
  clear hsz
  have cI := c72 e w
  cases he : isEnc e with
  | false =>
    rw [he] at cI
    clear he
    go_enter Tryd.func49, Tryd.ntmps49
    go_wp2_with (go_at_call 72; refine cI.mono ?_; rintro e' w1 ⟨rfl, rfl⟩)
    go_ret
    exact ⟨rfl, rfl⟩
  | true =>
    rw [he] at cI
    clear he
    go_enter Tryd.func49, Tryd.ntmps49
    go_wp2_with (go_at_call 72; refine cI.mono ?_; rintro e' w1 ⟨rfl, rfl⟩)
    go_loop [5] (fun i => ∃ k : Nat, k ≤ ps.length ∧ i = .int .i64 k ∧ Go.RowKit.Hid (tooB ps = tooB (ps.drop k))) (fun i => ps.length - (Go.RowKit.intOf i).toNat)
    case atStart => exact ⟨0, Nat.zero_le _, rfl, rfl⟩
    case round =>
      obtain ⟨k, hk, rfl, hR⟩ := hrel
      by_cases hlt : k < ps.length
      · obtain ⟨g, rfl, hgs, hcell⟩ := HC.out k hlt
        have hd := Lib.hid (List.drop_eq_getElem_cons hlt)
        have hz := HZ.out ps[k] (List.getElem_mem _)
        have hkl : (k : Int) < ps.length := by omega
        by_cases hbig : 100000 < ps[k].size
        · have hb' : (100000 : Int) < ps[k].size := by omega
          have hT : Go.RowKit.Hid (tooB ps = true) := by
            show _ = _
            rw [hR.out, hd.out]; unfold tooB; rw [List.any_cons, decide_eq_true hbig]; rfl
          go_wp2
          go_ret
          exact ⟨by rw [hT.out]; rfl, rfl⟩
        · have hb' : (ps[k].size : Int) ≤ 100000 := by omega
          have hT : Go.RowKit.Hid (tooB ps = tooB (ps.drop (k + 1))) := by
            show _ = _
            rw [hR.out, hd.out]; unfold tooB; rw [List.any_cons, decide_eq_false hbig, Bool.false_or]
          go_wp2
          go_round
          case rel => exact ⟨k + 1, by omega, by go_num, hT⟩
          case measure => simp [Go.RowKit.intOf]; omega
      · have hkl : (ps.length : Int) ≤ k := by omega
        have hT : Go.RowKit.Hid (tooB ps = false) := by
          show _ = _
          rw [hR.out, List.drop_of_length_le (by omega)]; rfl
        go_wp2
        go_ret
        exact ⟨by rw [hT.out]; rfl, rfl⟩
theorem c49_0 (e : Int) (w : World) : Calls Tryd.prog 49 #[.int .i64 e, .slice none 0 0] w fun e' w' => e' = .returned (.bool (!isEnc e)) ∧ w = w' := by
  have := c49 e [] (.slice none 0 0) w ⟨none, 0, rfl, fun k hk => by simp at hk⟩ (by simp) (by simp)
  simpa [tooB] using this
theorem c49_1 (e : Int) (s : ByteArray) (b : Bool) (hb : (!isEnc e || decide (100000 < s.size)) = b) (W : World) (g : Nat) (hs : s.size ≤ 9223372036854775807) (hc : W.cell? ⟨g, 0, none⟩ = some (.string s)) (hg : g < W.heap.size) :
    Calls Tryd.prog 49 #[.int .i64 e, .slice (some ⟨g, 0, none⟩) 1 1] W fun e w' => e = .returned (.bool b) ∧ W = w' := by
  have := c49 e [s] (.slice (some ⟨g, 0, none⟩) 1 1) W ⟨_, _, rfl, fun k hk => by
    obtain rfl : k = 0 := by simpa using hk
    exact ⟨g, rfl, hg, hc⟩⟩ (by simp) (by simpa using hs)
  rw [tooB1, hb] at this
  exact this
theorem c49_2 (e : Int) (s t : ByteArray) (b : Bool) (hb : (!isEnc e || (decide (100000 < s.size) || decide (100000 < t.size))) = b) (W : World) (g : Nat) (hs : s.size ≤ 9223372036854775807) (ht : t.size ≤ 9223372036854775807) (hc : W.cell? ⟨g, 0, none⟩ = some (.string s)) (hc1 : W.cell? ⟨g, 1, none⟩ = some (.string t)) (hg : g < W.heap.size) :
    Calls Tryd.prog 49 #[.int .i64 e, .slice (some ⟨g, 0, none⟩) 2 2] W fun e w' => e = .returned (.bool b) ∧ W = w' := by
  have := c49 e [s, t] (.slice (some ⟨g, 0, none⟩) 2 2) W ⟨_, _, rfl, fun k hk => by
    have : k < 2 := by simpa using hk
    rcases (by omega : k = 0 ∨ k = 1) with rfl | rfl
    · exact ⟨g, rfl, hg, hc⟩
    · exact ⟨g, rfl, hg, hc1⟩⟩ (by simp) (by simp; exact ⟨hs, ht⟩)
  rw [tooB2, hb] at this
  exact this

/-! The reference's Parts. -/
theorem infoPart : (Tryd.prog.info? 72).map (fun i => (i.zero, i.size, i.bytes)) = some (some (.agg #[.string ⟨#[]⟩, .int .i64 0]), 2, 24) := by kernel_rfl
def cellsP (ps : List (ByteArray × Int)) : List Value := ps.flatMap fun p => [.string p.1, .int .i64 p.2]
theorem cellsP_snoc (pre : List (ByteArray × Int)) (x : ByteArray × Int) : cellsP (pre ++ [x]) = cellsP pre ++ [.string x.1, .int .i64 x.2] := by simp [cellsP]
def strLenV : Value → Nat | .string s => s.size | _ => 0

set_option maxRecDepth 100000 in
set_option maxHeartbeats 2000000 in
theorem c50_2 (s : ByteArray) (hs : s.size ≤ 100000) (w : World) :
    Calls Tryd.prog 50 #[.string s, .int .i64 2] w fun e W' => ∃ v, e = .returned v ∧ W'.ownsRow w.heap.size 72 2 v (parts (nxOf 2) s).length (cellsP (parts (nxOf 2) s)) ∧ Below w.heap.size w W' := by
  have hpl := parts_length (nxOf_ok 2) s.size s rfl
  obtain ⟨i0, hi, hz0, hz1, hz2⟩ := info_parts infoPart
  go_enter Tryd.func50, Tryd.ntmps50
  go_wp2
  go_loopw [0, 5] (fun t v wr => ∃ (pre : List (ByteArray × Int)) (rest : ByteArray), t = .string rest ∧ Go.RowKit.Hid (parts (nxOf 2) s = pre ++ parts (nxOf 2) rest) ∧ rest.size ≤ 100000 ∧ wr.ownsRow w.heap.size 72 2 v pre.length (cellsP pre) ∧ Below w.heap.size w wr)
    (fun t _ _ => strLenV t)
  case atStart => exact ⟨[], s, rfl, rfl, hs, World.ownsRow_nil _ _ _ _, Below.refl _ _⟩
  case round =>
    obtain ⟨pre, rest, rfl, hx, hrs, hrow, hB⟩ := hrel
    by_cases hr0 : rest.size = 0
    · have hpn : Go.RowKit.Hid (parts (nxOf 2) s = pre) := by
        have := hx.out
        rw [parts_nil _ rest hr0, List.append_nil] at this
        exact this
      have hr1 : (rest.size : Int) ≤ 0 := by omega
      clear hr0
      obtain ⟨ao, cap, rfl⟩ := row_slice hrow
      go_wp2
      go_ret
      exact ⟨_, rfl, by rw [hpn.out]; exact hrow, hB⟩
    · have hr1 : 0 < rest.size := by omega
      have hr2 : (0 : Int) < rest.size := by omega
      have hlo := (nxOf_ok 2).lo rest hr1
      have hhi := (nxOf_ok 2).hi rest hr1
      have hxr := parts_cons (nxOf_ok 2) rest hr1
      have hlen : pre.length < (parts (nxOf 2) s).length := by rw [hx.out, hxr]; simp
      obtain ⟨x0, hx0⟩ : ∃ x0, rest.get! 0 = x0 := ⟨_, rfl⟩
      have hs0 : rest[0]'hr1 = x0 := by rw [← hx0]; exact (Utf8W.get!_of_lt rest 0 hr1).symm
      have hw0 := wb x0
      have lx0 := x0.toNat_lt
      clear hr0
      have cO := fun W => c73 rest W hr1 (by omega)
      have e1 : oneRef rest = nxOf 2 rest := by rw [oneRef_eq]; rfl
      rw [e1] at cO
      obtain ⟨sz, hsz⟩ : ∃ sz, (nxOf 2 rest).1 = sz := ⟨_, rfl⟩
      obtain ⟨cd, hcd⟩ : ∃ cd, (nxOf 2 rest).2 = cd := ⟨_, rfl⟩
      rw [hsz, hcd] at cO
      have CO := Lib.hid cO
      clear cO e1
      rw [hsz] at hlo hhi
      rw [hsz, hcd] at hxr
      have Hxr := Lib.hid hxr
      clear hxr hsz hcd hx0
      have hx3 : Go.RowKit.Hid (parts (nxOf 2) s = (pre ++ [(rest.extract 0 sz, cd)]) ++ parts (nxOf 2) (rest.extract sz rest.size)) := by
        have h1 := hx.out
        rw [Hxr.out] at h1
        show _ = _
        rw [h1, List.append_assoc]
        rfl
      have hss : Go.RowKit.Hid ((rest.extract sz rest.size).size = rest.size - sz) := by show _ = _; simp
      go_wp2
      go_quiet (fail)
      go_wp2_with fail
      refine (CO.out _).mono ?_
      rintro e1 w1 ⟨rfl, hb1⟩
      have hb1' : Below wr.heap.size wr w1 := (below_drewN (Below.refl _ wr) nq).trans (hb1.mono (by simp))
      have hrow1 := ownsRow_below hrow hb1'
      have hB1 := hB.trans (hb1'.mono hB.size)
      go_wp2_with (at_builtin; refine wpList_append_own _ rfl _ _ 69 rfl w.heap.size 72 i0 (.agg #[.string ⟨#[]⟩, .int .i64 0]) 2 24 Tryd.underlying69 hi hz0 hz1 hz2 rfl (by decide) _ _ _ rfl (hrow1.alloc _) ⟨w1.heap.size, 0, none⟩ 1 1 [.string (rest.extract 0 sz), .int .i64 cd] rfl rfl (cell_two_new _ _ _ _) (by simp [Value.oneCell']) (by unfold maxLen; omega) (by omega) (by have := hB1.size; simp; omega) ?_; intro v' w4 hown' hgrow _; obtain ⟨g', cap', rfl⟩ := ownsRow_succ hown')
      have hB4 : Below w.heap.size w w4 := (hB1.alloc hB1.size _).grown hgrow (by have := hB1.size; simp; omega) (fun j hj => (hrow1.lt j hj).1)
      go_roundw
      case rel => exact ⟨pre ++ [(rest.extract 0 sz, cd)], rest.extract sz rest.size, rfl, hx3, by rw [hss.out]; omega, by rw [cellsP_snoc, List.length_append]; exact hown', hB4⟩
      case measure => show (rest.extract sz rest.size).size < rest.size; rw [hss.out]; omega

set_option maxRecDepth 100000 in
set_option maxHeartbeats 2000000 in
theorem c50_0 (s : ByteArray) (hs : s.size ≤ 100000) (w : World) :
    Calls Tryd.prog 50 #[.string s, .int .i64 0] w fun e W' => ∃ v, e = .returned v ∧ W'.ownsRow w.heap.size 72 2 v (parts (nxOf 0) s).length (cellsP (parts (nxOf 0) s)) ∧ Below w.heap.size w W' := by
  have hpl := parts_length (nxOf_ok 0) s.size s rfl
  obtain ⟨i0, hi, hz0, hz1, hz2⟩ := info_parts infoPart
  go_enter Tryd.func50, Tryd.ntmps50
  go_wp2
  go_loopw [0, 5] (fun t v wr => ∃ (pre : List (ByteArray × Int)) (rest : ByteArray), t = .string rest ∧ Go.RowKit.Hid (parts (nxOf 0) s = pre ++ parts (nxOf 0) rest) ∧ rest.size ≤ 100000 ∧ wr.ownsRow w.heap.size 72 2 v pre.length (cellsP pre) ∧ Below w.heap.size w wr)
    (fun t _ _ => strLenV t)
  case atStart => exact ⟨[], s, rfl, rfl, hs, World.ownsRow_nil _ _ _ _, Below.refl _ _⟩
  case round =>
    obtain ⟨pre, rest, rfl, hx, hrs, hrow, hB⟩ := hrel
    by_cases hr0 : rest.size = 0
    · have hpn : Go.RowKit.Hid (parts (nxOf 0) s = pre) := by
        have := hx.out
        rw [parts_nil _ rest hr0, List.append_nil] at this
        exact this
      have hr1 : (rest.size : Int) ≤ 0 := by omega
      clear hr0
      obtain ⟨ao, cap, rfl⟩ := row_slice hrow
      go_wp2
      go_ret
      exact ⟨_, rfl, by rw [hpn.out]; exact hrow, hB⟩
    · have hr1 : 0 < rest.size := by omega
      have hr2 : (0 : Int) < rest.size := by omega
      have hlo := (nxOf_ok 0).lo rest hr1
      have hhi := (nxOf_ok 0).hi rest hr1
      have hxr := parts_cons (nxOf_ok 0) rest hr1
      have hlen : pre.length < (parts (nxOf 0) s).length := by rw [hx.out, hxr]; simp
      obtain ⟨x0, hx0⟩ : ∃ x0, rest.get! 0 = x0 := ⟨_, rfl⟩
      have hs0 : rest[0]'hr1 = x0 := by rw [← hx0]; exact (Utf8W.get!_of_lt rest 0 hr1).symm
      have hw0 := wb x0
      have lx0 := x0.toNat_lt
      clear hr0
      have e1 : nxOf 0 rest = (1, bcode 128 x0) := by rw [← hx0]; rfl
      have hsz : (nxOf 0 rest).1 = 1 := by rw [e1]
      have hcd : (nxOf 0 rest).2 = bcode 128 x0 := by rw [e1]
      clear e1
      rw [hsz] at hlo hhi
      rw [hsz, hcd] at hxr
      have Hxr := Lib.hid hxr
      clear hxr hsz hcd hx0
      by_cases hbig : 127 < x0.toNat
      · have g1 : (127 : Int) < x0.toNat := by omega
        have d1 : decide ((127 : Int) < x0.toNat) = true := by simp; omega
        have hbc : Go.RowKit.Hid (bcode 128 x0 = -1) := by show _ = _; unfold bcode; rw [if_neg (by omega)]
        have hx3 : Go.RowKit.Hid (parts (nxOf 0) s = (pre ++ [(rest.extract 0 1, bcode 128 x0)]) ++ parts (nxOf 0) (rest.extract 1 rest.size)) := by
          have h1 := hx.out
          rw [Hxr.out] at h1
          show _ = _
          rw [h1, List.append_assoc]
          rfl
        have hss : Go.RowKit.Hid ((rest.extract 1 rest.size).size = rest.size - 1) := by show _ = _; simp
        go_wp2
        go_quiet (fail)
        have hb1' : Below wr.heap.size wr (wr.drewN nq) := below_drewN (Below.refl _ wr) nq
        have hrow1 := ownsRow_below hrow hb1'
        have hB1 := hB.trans (hb1'.mono hB.size)
        generalize wr.drewN nq = wq at hb1' hrow1 hB1 ⊢
        go_wp2_with (at_builtin; refine wpList_append_own _ rfl _ _ 69 rfl w.heap.size 72 i0 (.agg #[.string ⟨#[]⟩, .int .i64 0]) 2 24 Tryd.underlying69 hi hz0 hz1 hz2 rfl (by decide) _ _ _ rfl (hrow1.alloc _) ⟨wq.heap.size, 0, none⟩ 1 1 [.string (rest.extract 0 1), .int .i64 (-1)] rfl rfl (cell_two_new _ _ _ _) (by simp [Value.oneCell']) (by unfold maxLen; omega) (by omega) (by have := hB1.size; simp; omega) ?_; intro v' w4 hown' hgrow _; obtain ⟨g', cap', rfl⟩ := ownsRow_succ hown')
        have hB4 : Below w.heap.size w w4 := (hB1.alloc hB1.size _).grown hgrow (by have := hB1.size; simp; omega) (fun j hj => (hrow1.lt j hj).1)
        go_roundw
        case rel => exact ⟨pre ++ [(rest.extract 0 1, bcode 128 x0)], rest.extract 1 rest.size, rfl, hx3, by rw [hss.out]; omega, by rw [cellsP_snoc, List.length_append]; rw [hbc.out]; exact hown', hB4⟩
        case measure => show (rest.extract 1 rest.size).size < rest.size; rw [hss.out]; omega
      · have g1 : (x0.toNat : Int) ≤ 127 := by omega
        have d1 : decide ((127 : Int) < x0.toNat) = false := by simp; omega
        have hbc : Go.RowKit.Hid (bcode 128 x0 = x0.toNat) := by show _ = _; unfold bcode; rw [if_pos (by omega)]
        have hx3 : Go.RowKit.Hid (parts (nxOf 0) s = (pre ++ [(rest.extract 0 1, bcode 128 x0)]) ++ parts (nxOf 0) (rest.extract 1 rest.size)) := by
          have h1 := hx.out
          rw [Hxr.out] at h1
          show _ = _
          rw [h1, List.append_assoc]
          rfl
        have hss : Go.RowKit.Hid ((rest.extract 1 rest.size).size = rest.size - 1) := by show _ = _; simp
        go_wp2
        go_quiet (fail)
        have hb1' : Below wr.heap.size wr (wr.drewN nq) := below_drewN (Below.refl _ wr) nq
        have hrow1 := ownsRow_below hrow hb1'
        have hB1 := hB.trans (hb1'.mono hB.size)
        generalize wr.drewN nq = wq at hb1' hrow1 hB1 ⊢
        go_wp2_with (at_builtin; refine wpList_append_own _ rfl _ _ 69 rfl w.heap.size 72 i0 (.agg #[.string ⟨#[]⟩, .int .i64 0]) 2 24 Tryd.underlying69 hi hz0 hz1 hz2 rfl (by decide) _ _ _ rfl (hrow1.alloc _) ⟨wq.heap.size, 0, none⟩ 1 1 [.string (rest.extract 0 1), .int .i64 x0.toNat] rfl rfl (cell_two_new _ _ _ _) (by simp [Value.oneCell']) (by unfold maxLen; omega) (by omega) (by have := hB1.size; simp; omega) ?_; intro v' w4 hown' hgrow _; obtain ⟨g', cap', rfl⟩ := ownsRow_succ hown')
        have hB4 : Below w.heap.size w w4 := (hB1.alloc hB1.size _).grown hgrow (by have := hB1.size; simp; omega) (fun j hj => (hrow1.lt j hj).1)
        go_roundw
        case rel => exact ⟨pre ++ [(rest.extract 0 1, bcode 128 x0)], rest.extract 1 rest.size, rfl, hx3, by rw [hss.out]; omega, by rw [cellsP_snoc, List.length_append]; rw [hbc.out]; exact hown', hB4⟩
        case measure => show (rest.extract 1 rest.size).size < rest.size; rw [hss.out]; omega

set_option maxRecDepth 100000 in
set_option maxHeartbeats 2000000 in
theorem c50_1 (s : ByteArray) (hs : s.size ≤ 100000) (w : World) :
    Calls Tryd.prog 50 #[.string s, .int .i64 1] w fun e W' => ∃ v, e = .returned v ∧ W'.ownsRow w.heap.size 72 2 v (parts (nxOf 1) s).length (cellsP (parts (nxOf 1) s)) ∧ Below w.heap.size w W' := by
  have hpl := parts_length (nxOf_ok 1) s.size s rfl
  obtain ⟨i0, hi, hz0, hz1, hz2⟩ := info_parts infoPart
  go_enter Tryd.func50, Tryd.ntmps50
  go_wp2
  go_loopw [0, 5] (fun t v wr => ∃ (pre : List (ByteArray × Int)) (rest : ByteArray), t = .string rest ∧ Go.RowKit.Hid (parts (nxOf 1) s = pre ++ parts (nxOf 1) rest) ∧ rest.size ≤ 100000 ∧ wr.ownsRow w.heap.size 72 2 v pre.length (cellsP pre) ∧ Below w.heap.size w wr)
    (fun t _ _ => strLenV t)
  case atStart => exact ⟨[], s, rfl, rfl, hs, World.ownsRow_nil _ _ _ _, Below.refl _ _⟩
  case round =>
    obtain ⟨pre, rest, rfl, hx, hrs, hrow, hB⟩ := hrel
    by_cases hr0 : rest.size = 0
    · have hpn : Go.RowKit.Hid (parts (nxOf 1) s = pre) := by
        have := hx.out
        rw [parts_nil _ rest hr0, List.append_nil] at this
        exact this
      have hr1 : (rest.size : Int) ≤ 0 := by omega
      clear hr0
      obtain ⟨ao, cap, rfl⟩ := row_slice hrow
      go_wp2
      go_ret
      exact ⟨_, rfl, by rw [hpn.out]; exact hrow, hB⟩
    · have hr1 : 0 < rest.size := by omega
      have hr2 : (0 : Int) < rest.size := by omega
      have hlo := (nxOf_ok 1).lo rest hr1
      have hhi := (nxOf_ok 1).hi rest hr1
      have hxr := parts_cons (nxOf_ok 1) rest hr1
      have hlen : pre.length < (parts (nxOf 1) s).length := by rw [hx.out, hxr]; simp
      obtain ⟨x0, hx0⟩ : ∃ x0, rest.get! 0 = x0 := ⟨_, rfl⟩
      have hs0 : rest[0]'hr1 = x0 := by rw [← hx0]; exact (Utf8W.get!_of_lt rest 0 hr1).symm
      have hw0 := wb x0
      have lx0 := x0.toNat_lt
      clear hr0
      have e1 : nxOf 1 rest = (1, bcode 256 x0) := by rw [← hx0]; rfl
      have hsz : (nxOf 1 rest).1 = 1 := by rw [e1]
      have hcd : (nxOf 1 rest).2 = bcode 256 x0 := by rw [e1]
      clear e1
      rw [hsz] at hlo hhi
      rw [hsz, hcd] at hxr
      have Hxr := Lib.hid hxr
      clear hxr hsz hcd hx0
      have hbc : Go.RowKit.Hid (bcode 256 x0 = x0.toNat) := by show _ = _; unfold bcode; rw [if_pos (by omega)]
      have hx3 : Go.RowKit.Hid (parts (nxOf 1) s = (pre ++ [(rest.extract 0 1, bcode 256 x0)]) ++ parts (nxOf 1) (rest.extract 1 rest.size)) := by
        have h1 := hx.out
        rw [Hxr.out] at h1
        show _ = _
        rw [h1, List.append_assoc]
        rfl
      have hss : Go.RowKit.Hid ((rest.extract 1 rest.size).size = rest.size - 1) := by show _ = _; simp
      go_wp2
      go_quiet (fail)
      have hb1' : Below wr.heap.size wr (wr.drewN nq) := below_drewN (Below.refl _ wr) nq
      have hrow1 := ownsRow_below hrow hb1'
      have hB1 := hB.trans (hb1'.mono hB.size)
      generalize wr.drewN nq = wq at hb1' hrow1 hB1 ⊢
      go_wp2_with (at_builtin; refine wpList_append_own _ rfl _ _ 69 rfl w.heap.size 72 i0 (.agg #[.string ⟨#[]⟩, .int .i64 0]) 2 24 Tryd.underlying69 hi hz0 hz1 hz2 rfl (by decide) _ _ _ rfl (hrow1.alloc _) ⟨wq.heap.size, 0, none⟩ 1 1 [.string (rest.extract 0 1), .int .i64 x0.toNat] rfl rfl (cell_two_new _ _ _ _) (by simp [Value.oneCell']) (by unfold maxLen; omega) (by omega) (by have := hB1.size; simp; omega) ?_; intro v' w4 hown' hgrow _; obtain ⟨g', cap', rfl⟩ := ownsRow_succ hown')
      have hB4 : Below w.heap.size w w4 := (hB1.alloc hB1.size _).grown hgrow (by have := hB1.size; simp; omega) (fun j hj => (hrow1.lt j hj).1)
      go_roundw
      case rel => exact ⟨pre ++ [(rest.extract 0 1, bcode 256 x0)], rest.extract 1 rest.size, rfl, hx3, by rw [hss.out]; omega, by rw [cellsP_snoc, List.length_append]; rw [hbc.out]; exact hown', hB4⟩
      case measure => show (rest.extract 1 rest.size).size < rest.size; rw [hss.out]; omega
theorem c50 (e : Int) (he : isEnc e = true) (s : ByteArray) (hs : s.size ≤ 100000) (w : World) :
    Calls Tryd.prog 50 #[.string s, .int .i64 e] w fun e' W' => ∃ v, e' = .returned v ∧ W'.ownsRow w.heap.size 72 2 v (parts (nxOf e) s).length (cellsP (parts (nxOf e) s)) ∧ Below w.heap.size w W' := by
  have h3 : 0 ≤ e ∧ e ≤ 2 := by simpa [isEnc] using he
  rcases (by omega : e = 0 ∨ e = 1 ∨ e = 2) with rfl | rfl | rfl
  · exact c50_0 s hs w
  · exact c50_1 s hs w
  · exact c50_2 s hs w
end Go.Proofs.YtjdnpgknamhnlaaDoor
