/- The reference: Stop, Begin, Next. -/
import Derived.Deep.Cut
import Derived.Deep.RegionLaw
import Derived.Deep.AppendLies
import Derived.Test.YtagejkolgicecaaQC
namespace Go.Proofs.Ytagejkolgicecaa
open Go Go.RowKit Go.Maps
theorem info89 : (Try.prog.info? 89).map (fun i => (i.zero, i.size, i.bytes)) = some (some (.agg #[.int .i64 0, .bool false]), 2, 16) := by kernel_rfl
theorem two_new' (w : World) (u v : Value) (e : TypeId) : ∀ j x, ([u, v] : List Value)[j]? = some x → (w.alloc (.cells #[u, v] e)).cell? ((⟨w.heap.size, 0, none⟩ : Addr).add j) = some x :=
  World.news_of_block (heap_alloc_new w (.cells #[u, v] e))
theorem on_some {R : Rt} {x : Int} {l : Nat} (h : R.on x = some l) : ∃ n : Nat, x = n ∧ R.walks[n]? = some (l, false) := by
  unfold Rt.on at h
  split at h
  · split at h
    · rename_i h1 l' h2
      cases h
      exact ⟨x.toNat, by omega, h2⟩
    · cases h
  · cases h
def Rt.end_ (R : Rt) (n l : Nat) : Rt := { R with walks := R.walks.set n (l, true) }
section
variable {F : Nat → Prop} {r : Nat} {R : Rt}
def Rt.stopE (R : Rt) (x : Int) : Int := if (R.on x).isSome then 0 else 1
def Rt.stop (R : Rt) (x : Int) : Rt := match R.on x with
  | none => R
  | some l => R.end_ x.toNat l
theorem RWit.endw {w : World} {rv : Value} {g c : Nat} {n l : Nat} {m : Nat} (h : RWit F w r R rv (.slice (some ⟨g, 0, none⟩) m c)) (hn : R.walks[n]? = some (l, false)) :
    RWit F (w.setCell ⟨g, n * 2 + 1, none⟩ (.bool true)) r (R.end_ n l) rv (.slice (some ⟨g, 0, none⟩) m c) := by
  have hT := turnSet w g (n * 2 + 1) (.bool true)
  have hgr : g ≠ r := fun e => h.ne.2.1 (by rw [← e]; rfl)
  exact ⟨hT.blk h.blk (fun e => hgr e.symm), h.rows.turn hT (fun g' hg' e => h.ne.2.2 g' hg' (by rw [e]; rfl)), h.walks.set n 1 (l, false) (l, true) (.bool true) hn (by decide) rfl, h.fr, h.fv, h.fw⟩
theorem RWit.goon {w : World} {rv : Value} {g c : Nat} {n l l' : Nat} {m : Nat} (h : RWit F w r R rv (.slice (some ⟨g, 0, none⟩) m c)) (hn : R.walks[n]? = some (l, false)) :
    RWit F (w.setCell ⟨g, n * 2, none⟩ (.int .i64 (l' : Int))) r { R with walks := R.walks.set n (l', false) } rv (.slice (some ⟨g, 0, none⟩) m c) := by
  have hT := turnSet w g (n * 2) (.int .i64 (l' : Int))
  have hgr : g ≠ r := fun e => h.ne.2.1 (by rw [← e]; rfl)
  have hs := h.walks.set n 0 (l, false) (l', false) (.int .i64 (l' : Int)) hn (by decide) rfl
  exact ⟨hT.blk h.blk (fun e => hgr e.symm), h.rows.turn hT (fun g' hg' e => h.ne.2.2 g' hg' (by rw [e]; rfl)), hs, h.fr, h.fv, h.fw⟩
set_option maxRecDepth 100000 in
theorem t49 (w : World) (h : RTab F w r R) (hl : R.walks.length ≤ 1000) (x : Int) : Calls Try.prog 49 #[.pointer (some ⟨r, 0, none⟩), .int .i64 x] w fun e w' => e = .returned (.int .i64 (R.stopE x)) ∧ RTab F w' r (R.stop x) ∧ Turn F w w' := by
  obtain ⟨rv, wv, hW⟩ := h
  have q4 := hW.blk.cell 4 rfl
  have C72 := Lib.hid (t72 w hW hl x)
  have HW := Lib.hid hW
  obtain ⟨ao, cap, rfl, _, _, hc⟩ := hW.walks.form
  have HC := Lib.hid hc
  have hl' : (R.walks.length : Int) ≤ 1000 := by omega
  clear hW hc
  cases hr : R.on x with
  | none =>
    have HE : Hid (R.stopE x = 1) := by show _ = _; unfold Rt.stopE; rw [hr]; rfl
    have HS : Hid (R.stop x = R) := by show _ = _; unfold Rt.stop; rw [hr]
    rw [hr] at C72
    clear hr
    go_enter Try.func49, Try.ntmps49
    go_wp2_with (go_at_call 72; refine C72.out.mono ?_; rintro e w' ⟨rfl, rfl⟩)
    go_ret
    exact ⟨(by rw [HE.out]; rfl), by rw [HS.out]; exact ⟨rv, _, HW.out⟩, Turn.refl _ _⟩
  | some l =>
    obtain ⟨n, rfl, hn⟩ := on_some hr
    have HE : Hid (R.stopE (n : Int) = 0) := by show _ = _; unfold Rt.stopE; rw [hr]; rfl
    have HS : Hid (R.stop (n : Int) = R.end_ n l) := by show _ = _; unfold Rt.stop; rw [hr]; rfl
    rw [hr] at C72
    obtain ⟨g, rfl, _, hcell, hfr⟩ := HC.out n _ hn
    have c1 : w.cell? ⟨g, n * 2 + 1, none⟩ = some (.bool false) := hcell 1 _ (by decide) rfl
    have f1 := hfr (n * 2 + 1)
    have hlt : (n : Int) < R.walks.length := by have := (List.getElem?_eq_some_iff.1 hn).1; omega
    have H1 := Lib.hid hn
    clear hr hn hcell hfr HC
    go_enter Try.func49, Try.ntmps49
    go_wp2_with (go_at_call 72; refine C72.out.mono ?_; rintro e w' ⟨rfl, rfl⟩)
    go_ret
    exact ⟨(by rw [HE.out]; rfl), by rw [HS.out]; exact ⟨rv, _, HW.out.endw H1.out⟩, (Turn.refl F _).set g (n * 2 + 1) (HW.out.fw g rfl) _⟩
def Rt.open_ (R : Rt) : Nat := R.walks.countP (fun x => !x.2)
def Rt.beginE (R : Rt) : Ending := if 20 ≤ R.open_ then .returned (.tuple #[.int .i64 0, .int .i64 9]) else .returned (.tuple #[.int .i64 (R.walks.length : Int), .int .i64 0])
def Rt.begin_ (R : Rt) : Rt := if 20 ≤ R.open_ then R else { R with walks := R.walks ++ [(0, false)] }
set_option maxRecDepth 100000 in
set_option maxHeartbeats 2000000 in
theorem t47 (w : World) (h : RTab F w r R) (hn : ∀ i, w.heap.size ≤ i → F i) (hl : R.walks.length ≤ 1000) : Calls Try.prog 47 #[.pointer (some ⟨r, 0, none⟩)] w fun e w' => e = R.beginE ∧ RTab F w' r R.begin_ ∧ Turn F w w' := by
  obtain ⟨rv, wv, hW⟩ := h
  have q0 := hW.blk.cell 0 rfl
  have q4 := hW.blk.cell 4 rfl
  have C62 := Lib.hid (t62 r w q0)
  have HW := Lib.hid hW
  have HN := Lib.hid hn
  obtain ⟨ao, cap, rfl, _, _, hc⟩ := hW.walks.form
  have HC := Lib.hid hc
  have hl' : (R.walks.length : Int) ≤ 1000 := by omega
  have e4 := hW.blk.free 4
  have hrl := hW.blk.lt
  have hks := Lib.hid hW.walks
  have HL : Hid (R.walks.length ≤ 1000) := hl
  clear hW hc hn
  obtain ⟨rn, hrn⟩ : ∃ rn, rn = R.walks.length := ⟨_, rfl⟩
  have HRN := Lib.hid hrn
  have hks2 : Hid (w.ownsRow 0 89 2 (.slice ao rn cap) rn (R.walks.flatMap walkL.enc)) := by have h1 := hks.out; unfold Seq at h1; rw [← hrn] at h1; exact h1
  rw [← hrn] at q4 hl' hl
  clear hrn hks
  obtain ⟨i0, hi, hz0, hz1, hz2⟩ := info_parts info89
  go_enter Try.func47, Try.ntmps47
  go_wp2_with (go_at_call 62; refine C62.out.mono ?_; rintro e w' ⟨rfl, rfl⟩)
  go_loopw [5, 4] (fun i c wr => ∃ j : Nat, j ≤ rn ∧ i = .int .i64 j ∧ c = .int .i64 (((R.walks.take j).countP (fun x => !x.2) : Nat) : Int) ∧ wr = w') (fun i _ _ => rn - (intOf i).toNat)
  case atStart => exact ⟨0, Nat.zero_le _, rfl, rfl, rfl⟩
  case round =>
    obtain ⟨j, hj, rfl, rfl, rfl⟩ := hrel
    have hcl : (R.walks.take j).countP (fun x => !x.2) ≤ j := by
      have h1 := List.countP_le_length (p := fun x : Nat × Bool => !x.2) (l := R.walks.take j)
      simp at h1; omega
    by_cases hlt : j < rn
    · obtain ⟨l, o, hg⟩ : ∃ l o, R.walks[j]? = some (l, o) := ⟨_, _, List.getElem?_eq_getElem (by rw [← HRN.out]; exact hlt)⟩
      obtain ⟨g, rfl, _, hcell, _⟩ := HC.out j _ hg
      have c1 : wr.cell? ⟨g, j * 2 + 1, none⟩ = some (.bool o) := hcell 1 _ (by decide) rfl
      have hlt' : (j : Int) < rn := by omega
      have hcs : Hid ((R.walks.take (j + 1)).countP (fun x => !x.2) = (R.walks.take j).countP (fun x => !x.2) + if o then 0 else 1) := by
        show _ = _
        rw [List.take_add_one, hg, List.countP_append]; cases o <;> simp
      generalize (R.walks.take j).countP (fun x => !x.2) = c at *
      clear hg hcell HC
      cases o with
      | false =>
        have hcs2 : Hid ((R.walks.take (j + 1)).countP (fun x => !x.2) = c + 1) := hcs.out
        clear hcs
        go_wp2_with fail
        go_roundw
        case rel => exact ⟨j + 1, by omega, by go_num, by rw [hcs2.out]; go_num, trivial⟩
        case measure => simp [intOf]; omega
      | true =>
        have hcs2 : Hid ((R.walks.take (j + 1)).countP (fun x => !x.2) = c) := hcs.out
        clear hcs
        go_wp2_with fail
        go_roundw
        case rel => exact ⟨j + 1, by omega, by go_num, by rw [hcs2.out], trivial⟩
        case measure => simp [intOf]; omega
    · have hlt' : ¬ ((j : Int) < rn) := by omega
      have hO : (R.walks.take j).countP (fun x => !x.2) = R.open_ := by
        rw [show j = R.walks.length by rw [← HRN.out]; omega, List.take_length]; rfl
      rw [hO] at hcl ⊢
      clear hO HC
      have HE : Hid (R.beginE = if 20 ≤ R.open_ then .returned (.tuple #[.int .i64 0, .int .i64 9]) else .returned (.tuple #[.int .i64 (rn : Int), .int .i64 0])) := by show _ = _; unfold Rt.beginE; rw [HRN.out]
      have HS : Hid (R.begin_ = if 20 ≤ R.open_ then R else { R with walks := R.walks ++ [(0, false)] }) := rfl
      generalize R.open_ = c at *
      by_cases h20 : 20 ≤ c
      · have h20' : (20 : Int) ≤ c := by omega
        rw [if_pos h20] at HE HS
        clear h20
        go_wp2_with fail
        go_ret2
        exact ⟨(by rw [HE.out]; rfl), by rw [HS.out]; exact ⟨_, _, HW.out⟩, Turn.refl _ _⟩
      · have h20' : ¬ ((20 : Int) ≤ c) := by omega
        rw [if_neg h20] at HE HS
        clear h20
        have hne2 := HW.out.ne.2.1
        go_wp2_with (first | (at_builtin; refine wpList_append_lies _ rfl _ _ 56 rfl 0 89 i0 (.agg #[.int .i64 0, .bool false]) 2 16 Try.underlying56 hi hz0 hz1 hz2 rfl (by decide) (.slice ao rn cap) rn _ rfl (hks2.out.alloc _) ⟨wr.heap.size, 0, none⟩ 1 1 [.int .i64 0, .bool false] rfl rfl (two_new' wr _ _ 89) (by simp [Value.oneCell']) (by omega) (by unfold maxLen; omega) (by omega) (Nat.zero_le _) _ rfl ?_; intro g cap2 w2 hown2 hgrow2 hat2 hlt2; have B2 : Blk w2 r 58 _ := (hgrow2.block r (by simp; omega) (fun e => hne2 (by rw [← HRN.out]; exact e.symm))).trans (HW.out.blk.alloc _); have r4 := B2.cell 4 rfl; have f4 := B2.free 4; have BB := Lib.hid B2; have K2 := Lib.hid hown2; have G2 := Lib.hid hgrow2; clear B2 hown2 hgrow2 q0 q4 e4) | fail)
        go_ret2
        have hgF : F g := by
          rcases hat2 with h1 | h1
          · exact HW.out.fw g (by rw [← HRN.out]; exact h1)
          · rw [h1]; exact HN.out _ (by simp)
        have TG : Turn F wr w2 := (Turn.of_below (bSelf wr (.cells #[.int .i64 0, .bool false] 89))).trans (Turn.of_grown G2.out (fun i hi => HW.out.fw i (by rw [← HRN.out]; exact hi)))
        have hS : Seq walkL 0 w2 (.slice (some ⟨g, 0, none⟩) (rn + 1) cap2) (R.walks ++ [(0, false)]) := by
          show World.ownsRow _ _ _ _ _ _ _
          rw [List.length_append, List.flatMap_append, ← HRN.out]
          exact K2.out
        have hgr : g ≠ r := fun e => by
          obtain ⟨_, _, cs, hcs⟩ := hS.lt (g := g) rfl
          rw [e] at hcs
          have h1 := blk_type BB.out hcs; cases h1
        have hR2 : Seq rowL 0 w2 rv R.rows := (HW.out.rows.below (bSelf wr (.cells #[.int .i64 0, .bool false] 89))).turn (F := fun i => Value.ownBlock (.slice ao R.walks.length cap) = some i) (.of_grown G2.out (fun _ e => by rw [← HRN.out]; exact e)) (fun g' hg' e => HW.out.ne.2.2 g' hg' e)
        have hT4 := turnSet w2 r 4 (.slice (some ⟨g, 0, none⟩) (rn + 1) cap2)
        refine ⟨(by rw [HE.out]; simp), ?_, TG.trans (hT4.mono (fun i _ e => by rw [e]; exact HW.out.fr))⟩
        rw [HS.out]
        exact ⟨rv, .slice (some ⟨g, 0, none⟩) (rn + 1) cap2, BB.out.set 4 _, hR2.turn hT4 (fun g' hg' e => HW.out.ne.1 (by rw [hg', e])), hS.turn hT4 (fun g' hg' e => hgr (by cases hg'; exact e)), HW.out.fr, HW.out.fv, fun g' hg' => by cases hg'; exact hgF⟩
def Rt.front (R : Rt) (l : Nat) : Option (Int × Int × Nat) := R.rows.find? (fun x => decide (l < x.2.2))
def Rt.nextE (R : Rt) (x : Int) : Ending := match R.on x with
  | none => .returned (.tuple #[.int .i64 0, .int .i64 0, .int .i64 1])
  | some l => match R.front l with
    | none => .returned (.tuple #[.int .i64 0, .int .i64 0, .int .i64 14])
    | some y => .returned (.tuple #[.int .i64 y.1, .int .i64 y.2.1, .int .i64 0])
def Rt.next (R : Rt) (x : Int) : Rt := match R.on x with
  | none => R
  | some l => match R.front l with
    | none => R.end_ x.toNat l
    | some y => { R with walks := R.walks.set x.toNat (y.2.2, false) }
set_option maxRecDepth 100000 in
set_option maxHeartbeats 4000000 in
theorem t48 (w : World) (h : RTab F w r R) (hl : R.rows.length ≤ 1000) (hw : R.walks.length ≤ 1000) (x : Int) : Calls Try.prog 48 #[.pointer (some ⟨r, 0, none⟩), .int .i64 x] w fun e w' => e = R.nextE x ∧ RTab F w' r (R.next x) ∧ Turn F w w' := by
  obtain ⟨rv, wv, hW⟩ := h
  have q3 := hW.blk.cell 3 rfl
  have q4 := hW.blk.cell 4 rfl
  have C72 := Lib.hid (t72 w hW hw x)
  have HW := Lib.hid hW
  have HX := Lib.hid (rfl : rv = rv)
  obtain ⟨ar, cr, rfl, _, _, hc⟩ := hW.rows.form
  obtain ⟨ao, cap, rfl, _, _, hd⟩ := hW.walks.form
  have HC := Lib.hid hc
  have HD := Lib.hid hd
  have hl' : (R.rows.length : Int) ≤ 1000 := by omega
  have hw' : (R.walks.length : Int) ≤ 1000 := by omega
  clear hW hc hd HX
  cases hr : R.on x with
  | none =>
    have HE : Hid (R.nextE x = .returned (.tuple #[.int .i64 0, .int .i64 0, .int .i64 1])) := by show _ = _; unfold Rt.nextE; rw [hr]
    have HS : Hid (R.next x = R) := by show _ = _; unfold Rt.next; rw [hr]
    rw [hr] at C72
    clear hr
    go_enter Try.func48, Try.ntmps48
    go_wp2_with (go_at_call 72; refine C72.out.mono ?_; rintro e w' ⟨rfl, rfl⟩)
    go_ret3
    exact ⟨(by rw [HE.out]; rfl), by rw [HS.out]; exact ⟨_, _, HW.out⟩, Turn.refl _ _⟩
  | some l =>
    obtain ⟨n, rfl, hn⟩ := on_some hr
    have HR : Hid (R.on (n : Int) = some l) := hr
    rw [hr] at C72
    obtain ⟨g, rfl, _, hcell, hfr⟩ := HD.out n _ hn
    have c0' : w.cell? ⟨g, n * 2 + 0, none⟩ = some (.int .i64 (l : Int)) := hcell 0 _ (by decide) rfl
    rw [Nat.add_zero] at c0'
    have c1' : w.cell? ⟨g, n * 2 + 1, none⟩ = some (.bool false) := hcell 1 _ (by decide) rfl
    have f0' := hfr (n * 2)
    have f1' := hfr (n * 2 + 1)
    have hlt : (n : Int) < R.walks.length := by have := (List.getElem?_eq_some_iff.1 hn).1; omega
    have H1 := Lib.hid hn
    have H0 : Hid (∀ y ∈ R.rows.take 0, ¬ (l < y.2.2)) := by show ∀ y ∈ R.rows.take 0, ¬ (l < y.2.2); simp
    have K0 := Lib.hid c0'
    have K1 := Lib.hid c1'
    have L0 := Lib.hid f0'
    have L1 := Lib.hid f1'
    have Q3 := Lib.hid q3
    have Q4 := Lib.hid q4
    clear hr hn hcell hfr HD c0' c1' f0' f1'
    obtain ⟨rn, hrn⟩ : ∃ rn, rn = R.rows.length := ⟨_, rfl⟩
    have HRN := Lib.hid hrn
    rw [← hrn] at q3 Q3 hl' hl
    clear hrn
    go_enter Try.func48, Try.ntmps48
    go_wp2_with (go_at_call 72; refine C72.out.mono ?_; rintro e w' ⟨rfl, rfl⟩)
    go_loopw [7] (fun i wr => ∃ j : Nat, j ≤ rn ∧ i = .int .i64 j ∧ Hid (∀ y ∈ R.rows.take j, ¬ (l < y.2.2)) ∧ Below w'.heap.size w' wr) (fun i _ => rn - (intOf i).toNat)
    case atStart => exact ⟨0, Nat.zero_le _, rfl, H0, Below.refl _ _⟩
    case round =>
      obtain ⟨j, hj, rfl, HP, hb⟩ := hrel
      clear H0 q3 q4
      have q3 := below_cell hb Q3.out
      have q4 := below_cell hb Q4.out
      have HB := Lib.hid hb
      by_cases hlt2 : j < rn
      · obtain ⟨k, v, t, hg⟩ : ∃ k v t, R.rows[j]? = some (k, v, t) := ⟨_, _, _, List.getElem?_eq_getElem (by rw [← HRN.out]; exact hlt2)⟩
        obtain ⟨g2, rfl, _, hcell, _⟩ := HC.out j _ hg
        have d0' : w'.cell? ⟨g2, j * 3 + 0, none⟩ = some (.int .i64 k) := hcell 0 _ (by decide) rfl
        rw [Nat.add_zero] at d0'
        have d0 := below_cell hb d0'
        have d1 := below_cell hb (show w'.cell? ⟨g2, j * 3 + 1, none⟩ = some (.int .i64 v) from hcell 1 _ (by decide) rfl)
        have d2 := below_cell hb (show w'.cell? ⟨g2, j * 3 + 2, none⟩ = some (.int .i64 (t : Int)) from hcell 2 _ (by decide) rfl)
        have c0 := below_cell hb K0.out
        have hgl : g < wr.heap.size := World.block_lt_of_cell? wr _ c0
        have hrl : r < wr.heap.size := World.block_lt_of_cell? wr _ q4
        have hg2l : g2 < wr.heap.size := World.block_lt_of_cell? wr _ d0
        have hlt2' : (j : Int) < rn := by omega
        have HG := Lib.hid hg
        clear hg hcell d0' HC hb
        by_cases ht : l < t
        · have ht' : (l : Int) < t := by omega
          have HT := Lib.hid ht
          clear ht
          have f0 : wr.frozen? ⟨g, n * 2, none⟩ = false := (HB.out.frozen (p := ⟨g, n * 2, none⟩) (World.block_lt_of_cell? w' _ K0.out)).trans L0.out
          have HNx : Hid (R.next (n : Int) = { R with walks := R.walks.set n (t, false) } ∧ R.nextE (n : Int) = .returned (.tuple #[.int .i64 k, .int .i64 v, .int .i64 0])) := by
            have hfr : R.front l = some (k, v, t) := by
              unfold Rt.front
              rw [List.find?_eq_some_iff_append]
              obtain ⟨hlt3, he3⟩ := List.getElem?_eq_some_iff.1 HG.out
              refine ⟨by simpa using HT.out, R.rows.take j, R.rows.drop (j + 1), ?_, fun y hy => by simpa using HP.out y hy⟩
              rw [← he3, List.getElem_cons_drop, List.take_append_drop]
            constructor
            · unfold Rt.next; rw [HR.out]; simp only [hfr]; rfl
            · unfold Rt.nextE; rw [HR.out]; simp only [hfr]
          clear HP
          go_wp2_with fail
          go_region
          all_goals go_wp2_with fail
          all_goals go_region
          all_goals go_wp2_with fail
          all_goals go_region
          all_goals go_wp2
          all_goals go_ret3
          all_goals
            have hWr := (HW.out.below HB.out).goon (l' := t) H1.out
            have hb3 := ((((bSelf (wr.setCell ⟨g, n * 2, none⟩ (.int .i64 (t : Int))) (.cells #[.int .i64 k, .int .i64 v, .int .i64 (t : Int)] 83)).drew).drew).drew)
            refine ⟨(by rw [HNx.out.2]; rfl), by rw [HNx.out.1]; exact ⟨_, _, hWr.below hb3⟩, ((Turn.of_below HB.out).set g (n * 2) (HW.out.fw g rfl) _).trans (Turn.of_below hb3)⟩
        · have ht' : ¬ ((l : Int) < t) := by omega
          have HS : Hid (∀ y ∈ R.rows.take (j + 1), ¬ (l < y.2.2)) := by
            show ∀ y ∈ R.rows.take (j + 1), ¬ (l < y.2.2)
            rw [List.take_add_one, HG.out]
            intro y hy
            rcases List.mem_append.1 hy with h | h
            · exact HP.out y h
            · simp at h; subst h; exact ht
          have hB2 := (bAl HB.out (.cells #[.int .i64 k, .int .i64 v, .int .i64 (t : Int)] 83)).drew
          clear HP ht
          go_wp2_with fail
          go_region
          all_goals go_wp2_with fail
          all_goals go_roundw
          case rel => exact ⟨j + 1, by omega, by go_num, HS, hB2⟩
          case measure => simp [intOf]; omega
      · have HNx : Hid (R.next (n : Int) = R.end_ n l ∧ R.nextE (n : Int) = .returned (.tuple #[.int .i64 0, .int .i64 0, .int .i64 14])) := by
          have hfr : R.front l = none := by
            unfold Rt.front
            rw [List.find?_eq_none]
            intro y hy
            have h1 := HP.out
            rw [show j = R.rows.length by rw [← HRN.out]; omega, List.take_length] at h1
            simpa using h1 y hy
          constructor
          · unfold Rt.next; rw [HR.out]; simp only [hfr]; rfl
          · unfold Rt.nextE; rw [HR.out]; simp only [hfr]
        have hlt2' : ¬ ((j : Int) < rn) := by omega
        have c1 := below_cell hb K1.out
        have f1 : wr.frozen? ⟨g, n * 2 + 1, none⟩ = false := (HB.out.frozen (p := ⟨g, n * 2 + 1, none⟩) (World.block_lt_of_cell? w' _ K1.out)).trans L1.out
        clear HP HC hb
        go_wp2
        go_ret3
        exact ⟨(by rw [HNx.out.2]; rfl), by rw [HNx.out.1]; exact ⟨_, _, (HW.out.below HB.out).endw H1.out⟩, (Turn.of_below HB.out).set g (n * 2 + 1) (HW.out.fw g rfl) _⟩
end
end Go.Proofs.Ytagejkolgicecaa
