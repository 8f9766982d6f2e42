/- Contracts of Upper and Lower: the program's and the reference's; the law TextCases. -/
import Derived.Test.YtjdnpgknamhnlaaDoorZN
import Derived.Lib.QuietBelowIn
namespace Go.Proofs.YtjdnpgknamhnlaaDoor
open Go Go.RowKit Go.Shelf
attribute [local go_sem] Oper.semAt_some

set_option maxRecDepth 100000 in
set_option maxHeartbeats 4000000 in
theorem c62 (c : Int) (W : World) : Calls Tryd.prog 62 #[.int .i64 c] W fun e' w' => e' = .returned (.int .i64 (upC c)) ∧ W = w' := by
  by_cases a1 : 97 ≤ c
  · by_cases a2 : c ≤ 122
    · have d1 : decide (97 ≤ c) = true := decide_eq_true a1
      have d2 : decide (c ≤ 122) = true := decide_eq_true a2
      have hr : Go.RowKit.Hid (upC c = c - 32) := by show _ = _; unfold upC; rw [if_pos (by omega)]
      go_enter Tryd.func62, Tryd.ntmps62
      go_wp2
      go_ret
      exact ⟨by rw [hr.out]; rfl, rfl⟩
    · have d1 : decide (97 ≤ c) = true := decide_eq_true a1
      have d2 : decide (c ≤ 122) = false := decide_eq_false a2
      have a2' : 122 < c := by omega
      by_cases a3 : 224 ≤ c
      · have d3 : decide (224 ≤ c) = true := decide_eq_true a3
        by_cases a4 : c ≤ 254
        · have d4 : decide (c ≤ 254) = true := decide_eq_true a4
          by_cases a5 : c = 247
          · subst a5
            have hr : Go.RowKit.Hid (upC 247 = 247) := by show _ = _; decide
            clear d1 d2 d3 d4
            go_enter Tryd.func62, Tryd.ntmps62
            go_wp2
            go_ret
            exact ⟨by rw [hr.out]; rfl, rfl⟩
          · have hr : Go.RowKit.Hid (upC c = c - 32) := by show _ = _; unfold upC; rw [if_pos (by omega)]
            have d5 : (c != 247) = true := by simpa using a5
            have d6 : (c == 247) = false := by simpa using a5
            clear a5
            go_enter Tryd.func62, Tryd.ntmps62
            go_wp2
            go_ret
            exact ⟨by rw [hr.out]; rfl, rfl⟩
        · have d4 : decide (c ≤ 254) = false := decide_eq_false a4
          have a4' : 254 < c := by omega
          have hr : Go.RowKit.Hid (upC c = c) := by show _ = _; unfold upC; rw [if_neg (by omega)]
          go_enter Tryd.func62, Tryd.ntmps62
          go_wp2
          go_ret
          exact ⟨by rw [hr.out]; rfl, rfl⟩
      · have d3 : decide (224 ≤ c) = false := decide_eq_false a3
        have a3' : c < 224 := by omega
        have hr : Go.RowKit.Hid (upC c = c) := by show _ = _; unfold upC; rw [if_neg (by omega)]
        go_enter Tryd.func62, Tryd.ntmps62
        go_wp2
        go_ret
        exact ⟨by rw [hr.out]; rfl, rfl⟩
  · have d1 : decide (97 ≤ c) = false := decide_eq_false a1
    have a1' : c < 97 := by omega
    have d3 : decide (224 ≤ c) = false := decide_eq_false (by omega)
    have a3' : c < 224 := by omega
    have hr : Go.RowKit.Hid (upC c = c) := by show _ = _; unfold upC; rw [if_neg (by omega)]
    go_enter Tryd.func62, Tryd.ntmps62
    go_wp2
    go_ret
    exact ⟨by rw [hr.out]; rfl, rfl⟩

set_option maxRecDepth 100000 in
set_option maxHeartbeats 4000000 in
theorem c64 (c : Int) (W : World) : Calls Tryd.prog 64 #[.int .i64 c] W fun e' w' => e' = .returned (.int .i64 (loC c)) ∧ W = w' := by
  by_cases a1 : 65 ≤ c
  · by_cases a2 : c ≤ 90
    · have d1 : decide (65 ≤ c) = true := decide_eq_true a1
      have d2 : decide (c ≤ 90) = true := decide_eq_true a2
      have hr : Go.RowKit.Hid (loC c = c + 32) := by show _ = _; unfold loC; rw [if_pos (by omega)]
      go_enter Tryd.func64, Tryd.ntmps64
      go_wp2
      go_ret
      exact ⟨by rw [hr.out]; rfl, rfl⟩
    · have d1 : decide (65 ≤ c) = true := decide_eq_true a1
      have d2 : decide (c ≤ 90) = false := decide_eq_false a2
      have a2' : 90 < c := by omega
      by_cases a3 : 192 ≤ c
      · have d3 : decide (192 ≤ c) = true := decide_eq_true a3
        by_cases a4 : c ≤ 222
        · have d4 : decide (c ≤ 222) = true := decide_eq_true a4
          by_cases a5 : c = 215
          · subst a5
            have hr : Go.RowKit.Hid (loC 215 = 215) := by show _ = _; decide
            clear d1 d2 d3 d4
            go_enter Tryd.func64, Tryd.ntmps64
            go_wp2
            go_ret
            exact ⟨by rw [hr.out]; rfl, rfl⟩
          · have hr : Go.RowKit.Hid (loC c = c + 32) := by show _ = _; unfold loC; rw [if_pos (by omega)]
            have d5 : (c != 215) = true := by simpa using a5
            have d6 : (c == 215) = false := by simpa using a5
            clear a5
            go_enter Tryd.func64, Tryd.ntmps64
            go_wp2
            go_ret
            exact ⟨by rw [hr.out]; rfl, rfl⟩
        · have d4 : decide (c ≤ 222) = false := decide_eq_false a4
          have a4' : 222 < c := by omega
          have hr : Go.RowKit.Hid (loC c = c) := by show _ = _; unfold loC; rw [if_neg (by omega)]
          go_enter Tryd.func64, Tryd.ntmps64
          go_wp2
          go_ret
          exact ⟨by rw [hr.out]; rfl, rfl⟩
      · have d3 : decide (192 ≤ c) = false := decide_eq_false a3
        have a3' : c < 192 := by omega
        have hr : Go.RowKit.Hid (loC c = c) := by show _ = _; unfold loC; rw [if_neg (by omega)]
        go_enter Tryd.func64, Tryd.ntmps64
        go_wp2
        go_ret
        exact ⟨by rw [hr.out]; rfl, rfl⟩
  · have d1 : decide (65 ≤ c) = false := decide_eq_false a1
    have a1' : c < 65 := by omega
    have d3 : decide (192 ≤ c) = false := decide_eq_false (by omega)
    have a3' : c < 192 := by omega
    have hr : Go.RowKit.Hid (loC c = c) := by show _ = _; unfold loC; rw [if_neg (by omega)]
    go_enter Tryd.func64, Tryd.ntmps64
    go_wp2
    go_ret
    exact ⟨by rw [hr.out]; rfl, rfl⟩

/-! The reference's. -/
theorem up_some (e : Int) (s : ByteArray) (p : ByteArray × Int) (hp : p ∈ parts (nxOf e) s) (hc : condC e 97 224 247 p.2 = true) : ∃ y, chrOf e (p.2 + -32) = some y := by
  have hb : e = 0 → p.2 < 128 := fun h => by subst h; exact bin_code s p hp
  unfold condC at hc
  simp at hc
  have hq : (97 ≤ p.2 ∧ p.2 ≤ 122) ∨ (224 ≤ p.2 ∧ p.2 ≤ 254 ∧ p.2 ≠ 247) := by omega
  obtain ⟨x, hx1, _⟩ := case_keep upC_ok e p.2 p.1 (parts_chr_all e s p hp (by omega))
  unfold upC at hx1
  rw [if_pos hq] at hx1
  exact ⟨x, by rw [show p.2 + -32 = p.2 - 32 by omega]; exact hx1⟩
theorem lo_some (e : Int) (s : ByteArray) (p : ByteArray × Int) (hp : p ∈ parts (nxOf e) s) (hc : condC e 65 192 215 p.2 = true) : ∃ y, chrOf e (p.2 + 32) = some y := by
  have hb : e = 0 → p.2 < 128 := fun h => by subst h; exact bin_code s p hp
  unfold condC at hc
  simp at hc
  have hq : (65 ≤ p.2 ∧ p.2 ≤ 90) ∨ (192 ≤ p.2 ∧ p.2 ≤ 222 ∧ p.2 ≠ 215) := by omega
  obtain ⟨x, hx1, _⟩ := case_keep loC_ok e p.2 p.1 (parts_chr_all e s p hp (by omega))
  unfold loC at hx1
  rw [if_pos hq] at hx1
  exact ⟨x, hx1⟩
theorem case_sum {g : Int → Int} (ok : CaseOk g) (e : Int) (s : ByteArray) (hs : s.size ≤ 100000) : sumS ((parts (nxOf e) s).map (caseT e g)) ≤ 140737488355328 := by
  have h := (case_parts ok e s).2
  have h2 : sumS ((parts (nxOf e) s).map (caseT e g)) = (caseS e g s).size := rfl
  omega

set_option maxRecDepth 100000 in
set_option maxHeartbeats 8000000 in
theorem r63 (s : ByteArray) (e first latin no by' : Int) (w : World) (hs : s.size ≤ 100000) (he : isEnc e = true) (b1 : 0 ≤ first) (b2 : first ≤ 100) (b3 : 0 ≤ latin) (b4 : latin ≤ 250) (b5 : -32 ≤ by') (b6 : by' ≤ 32)
    (hsum : sumS ((parts (nxOf e) s).map (refT e first latin no by')) ≤ 140737488355328) (hsome : ∀ p ∈ parts (nxOf e) s, condC e first latin no p.2 = true → ∃ y, chrOf e (p.2 + by') = some y) :
    Calls Tryd.prog 63 #[.string s, .int .i64 e, .int .i64 first, .int .i64 latin, .int .i64 no, .int .i64 by'] w fun e' w' => e' = .returned (.string (glue ((parts (nxOf e) s).map (refT e first latin no by')))) ∧ Below w.heap.size w w' := by
  have cP := c50 e he s hs w
  have hpl := parts_length (nxOf_ok e) s.size s rfl
  have hcd : ∀ p ∈ parts (nxOf e) s, -1 ≤ p.2 ∧ p.2 ≤ 1114111 := fun p hp => parts_code e s.size s rfl p hp
  have H56 := Lib.hid (fun c y W h => r56 e c y W he h)
  clear he
  go_enter Tryd.func63, Tryd.ntmps63
  go_wp2_with fail
  refine cP.mono ?_
  rintro e' w3 ⟨v, rfl, hrow, hB3⟩
  obtain ⟨ps, hps⟩ : ∃ ps, parts (nxOf e) s = ps := ⟨_, rfl⟩
  rw [hps] at hpl hsum hrow hsome hcd
  have HP := Lib.hid hps
  have HSum := Lib.hid hsum
  have HSome := Lib.hid hsome
  have HCd := Lib.hid hcd
  clear hps hsum hsome cP hcd
  rcases hrow.2 with ⟨hv, h0⟩ | ⟨g, cap, cs, hv, hgB, hg, hrest⟩
  · subst hv
    have hpe : ps = [] := List.eq_nil_of_length_eq_zero h0
    subst hpe
    have hpr : PartsRead w3 (.slice none 0 0) ([] : List (ByteArray × Int)) := ⟨none, 0, rfl, fun k hk => by simp at hk⟩
    have cJ := c59 [] _ w3 hpr (by decide) (by decide)
    clear hrow hpr
    go_wp2
    go_loop [14] (fun i => i = .int .i64 0) (fun _ => 0)
    case atStart => rfl
    case round =>
      subst hrel
      go_wp2_with fail
      refine cJ.mono ?_
      rintro e1 w4 ⟨rfl, hb4⟩
      go_wp2
      go_ret
      exact ⟨by rw [HP.out]; rfl, hB3.trans (hb4.mono hB3.size)⟩
  · subst hv
    have HR := Lib.hid (rowsG_start (refT e first latin no by') hrow hg)
    clear hrow hrest
    go_wp2
    go_loopw [14] (fun i wr => ∃ (k : Nat) (cs : Array Value), k ≤ ps.length ∧ i = .int .i64 k ∧ wr.heap[g]? = some (.cells cs 72 (0, 0)) ∧ Go.RowKit.Hid (RowsG (refT e first latin no by') cs ps k) ∧ Below w.heap.size w wr) (fun i _ => ps.length - (Go.RowKit.intOf i).toNat)
    case atStart => exact ⟨0, cs, Nat.zero_le _, rfl, hg, HR, hB3⟩
    case round =>
      obtain ⟨k, cs', hk, rfl, hblk, hro, hB⟩ := hrel
      by_cases hlt : k < ps.length
      · have hkl : (k : Int) < ps.length := by omega
        obtain ⟨q1, q2⟩ := hro.out k hlt
        rw [if_neg (by omega)] at q1
        have k2 : wr.cell? ⟨g, k * 2 + 1, none⟩ = some (.int .i64 ps[k].2) := by simp [World.cell?, hblk, q2]
        have hgl : g < wr.heap.size := (Array.getElem?_eq_some_iff.1 hblk).1
        have hcd := HCd.out ps[k] (List.getElem_mem hlt)
        have hno : condC e first latin no ps[k].2 = false → Go.RowKit.Hid (RowsG (refT e first latin no by') cs' ps (k + 1)) := fun hc => Lib.hid (rowsG_keep hro.out hlt (by unfold refT; rw [if_neg (by rw [hc]; decide)]))
        have hyes : condC e first latin no ps[k].2 = true → ∃ y, Go.RowKit.Hid (chrOf e (ps[k].2 + by') = some y) ∧ Go.RowKit.Hid (RowsG (refT e first latin no by') (cs'.setIfInBounds (k * 2) (.string y)) ps (k + 1)) := fun hc => by
          obtain ⟨y, hy⟩ := HSome.out ps[k] (List.getElem_mem hlt) hc
          exact ⟨y, Lib.hid hy, Lib.hid (rowsG_set hro.out hlt (by unfold refT; rw [if_pos hc]; unfold chrS; rw [hy]; rfl))⟩
        have q1' : ∃ z, cs'[k * 2]? = some z := ⟨_, q1⟩
        have HQ1 := Lib.hid q1'
        have Hblk := Lib.hid hblk
        clear q1 q2 q1' hblk
        generalize ps[k] = p at *
        obtain ⟨p1, c⟩ := p
        simp only at k2 hcd hno hyes
        by_cases t1 : first ≤ c
        · have d1 : decide (first ≤ c) = true := decide_eq_true t1
          by_cases t2 : c < first + 26
          · have d2 : decide (c < first + 26) = true := decide_eq_true t2
            obtain ⟨y, hy, hnew⟩ := hyes (by unfold condC; simp; omega)
            have Q56 := Lib.hid (fun W => H56.out _ y W hy.out)
            clear hno hyes
            go_wp2_with fail
            refine (Q56.out _).mono ?_
            rintro r1 w5 ⟨rfl, hb5⟩
            have hblk5 := (hb5.block g hgl).trans Hblk.out
            have hB5 := hB.trans (hb5.mono hB.size)
            obtain ⟨z, hz⟩ := HQ1.out
            have hz1 : w5.cell? ⟨g, k * 2, none⟩ = some z := by simp only [World.cell?, hblk5]; exact hz
            have k3 : w5.frozen? ⟨g, k * 2, none⟩ = false := by simp [World.frozen?, hblk5]
            have hblk2 := Lib.hid (Lib.heap_setCell_same (i := k * 2) hblk5 (.string y))
            clear hblk5 hz
            go_wp2
            go_roundw
            case rel => exact ⟨k + 1, _, by omega, by go_num, hblk2.out, hnew, hB5.setCell hgB _⟩
            case measure => simp [Go.RowKit.intOf]; omega
          · have d2 : decide (c < first + 26) = false := decide_eq_false t2
            have t2' : first + 26 ≤ c := by omega
            by_cases t3 : e = 0
            · have d3 : (e != 0) = false := by rw [t3]; rfl
              have d3' : (e == 0) = true := by rw [t3]; rfl
              have hn := hno (by unfold condC; rw [t3]; simp; omega)
              clear hno hyes
              go_wp2
              go_roundw
              case rel => exact ⟨k + 1, _, by omega, by go_num, Hblk.out, hn, hB⟩
              case measure => simp [Go.RowKit.intOf]; omega
            · have d3 : (e != 0) = true := by simpa using t3
              have d3' : (e == 0) = false := by simpa using t3
              by_cases t4 : latin ≤ c
              · have d4 : decide (latin ≤ c) = true := decide_eq_true t4
                by_cases t5 : c ≤ latin + 30
                · have d5 : decide (c ≤ latin + 30) = true := decide_eq_true t5
                  by_cases t6 : c = no
                  · have d6 : (c != no) = false := by rw [t6]; simp
                    have d6' : (c == no) = true := by rw [t6]; simp
                    have hn := hno (by unfold condC; simp; omega)
                    clear hno hyes t6 t3
                    go_wp2
                    go_roundw
                    case rel => exact ⟨k + 1, _, by omega, by go_num, Hblk.out, hn, hB⟩
                    case measure => simp [Go.RowKit.intOf]; omega
                  · have d6 : (c != no) = true := by simpa using t6
                    have d6' : (c == no) = false := by simpa using t6
                    obtain ⟨y, hy, hnew⟩ := hyes (by unfold condC; simp; omega)
                    have Q56 := Lib.hid (fun W => H56.out _ y W hy.out)
                    clear hno hyes t6 t3
                    go_wp2_with fail
                    refine (Q56.out _).mono ?_
                    rintro r1 w5 ⟨rfl, hb5⟩
                    have hblk5 := (hb5.block g hgl).trans Hblk.out
                    have hB5 := hB.trans (hb5.mono hB.size)
                    obtain ⟨z, hz⟩ := HQ1.out
                    have hz1 : w5.cell? ⟨g, k * 2, none⟩ = some z := by simp only [World.cell?, hblk5]; exact hz
                    have k3 : w5.frozen? ⟨g, k * 2, none⟩ = false := by simp [World.frozen?, hblk5]
                    have hblk2 := Lib.hid (Lib.heap_setCell_same (i := k * 2) hblk5 (.string y))
                    clear hblk5 hz
                    go_wp2
                    go_roundw
                    case rel => exact ⟨k + 1, _, by omega, by go_num, hblk2.out, hnew, hB5.setCell hgB _⟩
                    case measure => simp [Go.RowKit.intOf]; omega
                · have d5 : decide (c ≤ latin + 30) = false := decide_eq_false t5
                  have t5' : latin + 30 < c := by omega
                  have hn := hno (by unfold condC; simp; omega)
                  clear hno hyes t3 t5
                  go_wp2
                  go_roundw
                  case rel => exact ⟨k + 1, _, by omega, by go_num, Hblk.out, hn, hB⟩
                  case measure => simp [Go.RowKit.intOf]; omega
              · have d4 : decide (latin ≤ c) = false := decide_eq_false t4
                have t4' : c < latin := by omega
                have hn := hno (by unfold condC; simp; omega)
                clear hno hyes t3 t4
                go_wp2
                go_roundw
                case rel => exact ⟨k + 1, _, by omega, by go_num, Hblk.out, hn, hB⟩
                case measure => simp [Go.RowKit.intOf]; omega
        · have d1 : decide (first ≤ c) = false := decide_eq_false t1
          have t1' : c < first := by omega
          by_cases t3 : e = 0
          · have d3 : (e != 0) = false := by rw [t3]; rfl
            have d3' : (e == 0) = true := by rw [t3]; rfl
            have hn := hno (by unfold condC; rw [t3]; simp; omega)
            clear hno hyes
            go_wp2
            go_roundw
            case rel => exact ⟨k + 1, _, by omega, by go_num, Hblk.out, hn, hB⟩
            case measure => simp [Go.RowKit.intOf]; omega
          · have d3 : (e != 0) = true := by simpa using t3
            have d3' : (e == 0) = false := by simpa using t3
            by_cases t4 : latin ≤ c
            · have d4 : decide (latin ≤ c) = true := decide_eq_true t4
              by_cases t5 : c ≤ latin + 30
              · have d5 : decide (c ≤ latin + 30) = true := decide_eq_true t5
                by_cases t6 : c = no
                · have d6 : (c != no) = false := by rw [t6]; simp
                  have d6' : (c == no) = true := by rw [t6]; simp
                  have hn := hno (by unfold condC; simp; omega)
                  clear hno hyes t6 t3
                  go_wp2
                  go_roundw
                  case rel => exact ⟨k + 1, _, by omega, by go_num, Hblk.out, hn, hB⟩
                  case measure => simp [Go.RowKit.intOf]; omega
                · have d6 : (c != no) = true := by simpa using t6
                  have d6' : (c == no) = false := by simpa using t6
                  obtain ⟨y, hy, hnew⟩ := hyes (by unfold condC; simp; omega)
                  have Q56 := Lib.hid (fun W => H56.out _ y W hy.out)
                  clear hno hyes t6 t3
                  go_wp2_with fail
                  refine (Q56.out _).mono ?_
                  rintro r1 w5 ⟨rfl, hb5⟩
                  have hblk5 := (hb5.block g hgl).trans Hblk.out
                  have hB5 := hB.trans (hb5.mono hB.size)
                  obtain ⟨z, hz⟩ := HQ1.out
                  have hz1 : w5.cell? ⟨g, k * 2, none⟩ = some z := by simp only [World.cell?, hblk5]; exact hz
                  have k3 : w5.frozen? ⟨g, k * 2, none⟩ = false := by simp [World.frozen?, hblk5]
                  have hblk2 := Lib.hid (Lib.heap_setCell_same (i := k * 2) hblk5 (.string y))
                  clear hblk5 hz
                  go_wp2
                  go_roundw
                  case rel => exact ⟨k + 1, _, by omega, by go_num, hblk2.out, hnew, hB5.setCell hgB _⟩
                  case measure => simp [Go.RowKit.intOf]; omega
              · have d5 : decide (c ≤ latin + 30) = false := decide_eq_false t5
                have t5' : latin + 30 < c := by omega
                have hn := hno (by unfold condC; simp; omega)
                clear hno hyes t3 t5
                go_wp2
                go_roundw
                case rel => exact ⟨k + 1, _, by omega, by go_num, Hblk.out, hn, hB⟩
                case measure => simp [Go.RowKit.intOf]; omega
            · have d4 : decide (latin ≤ c) = false := decide_eq_false t4
              have t4' : c < latin := by omega
              have hn := hno (by unfold condC; simp; omega)
              clear hno hyes t3 t4
              go_wp2
              go_roundw
              case rel => exact ⟨k + 1, _, by omega, by go_num, Hblk.out, hn, hB⟩
              case measure => simp [Go.RowKit.intOf]; omega
      · have hkl : (ps.length : Int) ≤ k := by omega
        have cJ := c59 (turnP (refT e first latin no by') ps) _ wr (rowsG_end (cap := cap) hro.out (by omega) hblk) (by rw [turnP_texts]; exact HSum.out) (by rw [turnP_length]; omega)
        clear hblk
        go_wp2_with fail
        refine cJ.mono ?_
        rintro e1 w4 ⟨rfl, hb4⟩
        go_wp2
        go_ret
        exact ⟨by rw [HP.out, turnP_texts]; rfl, hB.trans (hb4.mono hB.size)⟩

theorem map_ref {e first latin no by' : Int} {g : Int → Int} {s : ByteArray} (h : ∀ p ∈ parts (nxOf e) s, refT e first latin no by' p = caseT e g p) : (parts (nxOf e) s).map (refT e first latin no by') = (parts (nxOf e) s).map (caseT e g) := List.map_congr_left h

set_option maxRecDepth 100000 in
theorem r36_arg (s : ByteArray) (e : Int) (w : World) (hs : s.size ≤ 9223372036854775807) (hbad : isEnc e = false ∨ 100000 < s.size) :
    Calls Tryd.prog 36 #[.string s, .int .i64 e] w fun e' w' => e' = .returned (.tuple #[.string ⟨#[]⟩, .int .i64 1]) ∧ Below w.heap.size w w' := by
  have hb : Go.RowKit.Hid ((!isEnc e || decide (100000 < s.size)) = true) := by
    show _ = _
    rcases hbad with h | h
    · rw [h]; rfl
    · rw [decide_eq_true h]; simp
  clear hbad
  go_enter Tryd.func36, Tryd.ntmps36
  go_wp2_with fail
  refine (c49_1 e s true hb.out _ _ hs (by simp) (by simp)).mono ?_
  rintro e' w2 ⟨rfl, rfl⟩
  go_wp2
  go_ret2
  exact ⟨rfl, (Below.refl _ _).alloc (Nat.le_refl _) _⟩

set_option maxRecDepth 100000 in
theorem r36 (s : ByteArray) (e : Int) (w : World) (hs : s.size ≤ 100000) (he : isEnc e = true) :
    Calls Tryd.prog 36 #[.string s, .int .i64 e] w fun e' w' => e' = .returned (.tuple #[.string (caseS e upC s), .int .i64 0]) ∧ Below w.heap.size w w' := by
  have hb := enc1_good he hs
  have hm := map_ref (fun p hp => ref_up e he s p hp)
  have c6 := r63 s e 97 224 247 (-32) (w.alloc (.cells #[.string s] 9)) hs he (by decide) (by decide) (by decide) (by decide) (by decide) (by decide) (by rw [hm]; exact case_sum upC_ok e s hs) (fun p hp hc => up_some e s p hp hc)
  rw [hm] at c6
  have hB1 : Below w.heap.size w (w.alloc (.cells #[.string s] 9)) := (Below.refl _ _).alloc (Nat.le_refl _) _
  clear hm he
  go_enter Tryd.func36, Tryd.ntmps36
  go_wp2_with fail
  refine (c49_1 e s false hb.out _ _ (by omega) (by simp) (by simp)).mono ?_
  rintro e' w2 ⟨rfl, rfl⟩
  go_wp2_with fail
  refine c6.mono ?_
  rintro e' w3 ⟨rfl, hb3⟩
  go_wp2
  go_ret2
  exact ⟨rfl, hB1.trans (hb3.mono hB1.size)⟩

set_option maxRecDepth 100000 in
theorem r38_arg (s : ByteArray) (e : Int) (w : World) (hs : s.size ≤ 9223372036854775807) (hbad : isEnc e = false ∨ 100000 < s.size) :
    Calls Tryd.prog 38 #[.string s, .int .i64 e] w fun e' w' => e' = .returned (.tuple #[.string ⟨#[]⟩, .int .i64 1]) ∧ Below w.heap.size w w' := by
  have hb : Go.RowKit.Hid ((!isEnc e || decide (100000 < s.size)) = true) := by
    show _ = _
    rcases hbad with h | h
    · rw [h]; rfl
    · rw [decide_eq_true h]; simp
  clear hbad
  go_enter Tryd.func38, Tryd.ntmps38
  go_wp2_with fail
  refine (c49_1 e s true hb.out _ _ hs (by simp) (by simp)).mono ?_
  rintro e' w2 ⟨rfl, rfl⟩
  go_wp2
  go_ret2
  exact ⟨rfl, (Below.refl _ _).alloc (Nat.le_refl _) _⟩

set_option maxRecDepth 100000 in
theorem r38 (s : ByteArray) (e : Int) (w : World) (hs : s.size ≤ 100000) (he : isEnc e = true) :
    Calls Tryd.prog 38 #[.string s, .int .i64 e] w fun e' w' => e' = .returned (.tuple #[.string (caseS e loC s), .int .i64 0]) ∧ Below w.heap.size w w' := by
  have hb := enc1_good he hs
  have hm := map_ref (fun p hp => ref_lo e he s p hp)
  have c6 := r63 s e 65 192 215 32 (w.alloc (.cells #[.string s] 9)) hs he (by decide) (by decide) (by decide) (by decide) (by decide) (by decide) (by rw [hm]; exact case_sum loC_ok e s hs) (fun p hp hc => lo_some e s p hp hc)
  rw [hm] at c6
  have hB1 : Below w.heap.size w (w.alloc (.cells #[.string s] 9)) := (Below.refl _ _).alloc (Nat.le_refl _) _
  clear hm he
  go_enter Tryd.func38, Tryd.ntmps38
  go_wp2_with fail
  refine (c49_1 e s false hb.out _ _ (by omega) (by simp) (by simp)).mono ?_
  rintro e' w2 ⟨rfl, rfl⟩
  go_wp2_with fail
  refine c6.mono ?_
  rintro e' w3 ⟨rfl, hb3⟩
  go_wp2
  go_ret2
  exact ⟨rfl, hB1.trans (hb3.mono hB1.size)⟩
end Go.Proofs.YtjdnpgknamhnlaaDoor
