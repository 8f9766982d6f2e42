/- changesOf. -/
import Derived.Test.YtagejkolgicecaaMO
import Derived.Test.YtagejkolgicecaaKM
namespace Go.Proofs.Ytagejkolgicecaa
open Go Go.RowKit Go.Maps
def intK : Kind Int where
  en := fun x => .int .i64 x
  dd := fun x => .lit (.int .i64 x)
  R := numR
  put := fun _ => rfl
  inv := fun v a ps h => by
    unfold numR at h
    split at h
    · simp only [Option.some.injEq, Prod.mk.injEq, DataW.lit.injEq, Lit.int.injEq, true_and] at h
      rw [h.1]
    · cases h
def chS (s : Nat × (Int → Option Int)) (p : Int × Int) : Nat × (Int → Option Int) := (if (s.2 p.1).isSome then s.1 else s.1 + 1, upd s.2 p.1 (some p.2))
def chN (ps : List (Int × Int)) : Nat × (Int → Option Int) := ps.foldl chS (0, fun _ => none)
theorem chN_take (ps : List (Int × Int)) (j : Nat) (p : Int × Int) (h : ps[j]? = some p) : chN (ps.take (j + 1)) = chS (chN (ps.take j)) p := by
  unfold chN
  rw [List.take_add_one, h, List.foldl_append]; rfl
theorem chN_le (ps : List (Int × Int)) : ∀ s, (ps.foldl chS s).1 ≤ s.1 + ps.length := by
  induction ps with
  | nil => intro s; simp
  | cons p ps ih =>
    intro s
    rw [List.foldl_cons]
    have h1 := ih (chS s p)
    have h2 : (chS s p).1 ≤ s.1 + 1 := by unfold chS; simp only; split <;> omega
    rw [List.length_cons]; omega
set_option maxRecDepth 100000 in
set_option maxHeartbeats 4000000 in
theorem t54 (w : World) (ao : Option Addr) (cap : Nat) (ps : List (Int × Int)) (h : RowsO w ao ps) (hk : ∀ p ∈ ps, WF p.1) (hl : ps.length ≤ 500) :
    Calls Try.prog 54 #[.slice ao ps.length cap] w fun e w' => ∃ m, e = .returned (.tuple #[.map (some m), .bool (decide ((chN ps).1 = ps.length))]) ∧ IMap intK w' m (chN ps).1 (chN ps).2 ∧ Below w.heap.size w w' ∧ w.heap.size ≤ m := by
  have HR := Lib.hid h
  have HK := Lib.hid hk
  have hl' : (ps.length : Int) ≤ 500 := by omega
  have H0 : Hid (IMap intK (w.alloc (.map #[] 0)) w.heap.size (chN (ps.take 0)).1 (chN (ps.take 0)).2) := IMap.made w intK
  have HB0 := Lib.hid (bSelf w (.map #[] 0))
  have hmm := @run_makeMap Try.prog
  clear h hk
  go_enter Try.func54, Try.ntmps54
  go_wp2_with fail
  go_loopw [13] (fun i wr => ∃ j : Nat, j ≤ ps.length ∧ i = .int .i64 j ∧ Hid (IMap intK wr w.heap.size (chN (ps.take j)).1 (chN (ps.take j)).2) ∧ Hid (Below w.heap.size w wr)) (fun i _ => ps.length - (intOf i).toNat)
  case atStart => exact ⟨0, Nat.zero_le _, rfl, H0, HB0⟩
  case round =>
    obtain ⟨j, hj, rfl, HM, HB⟩ := hrel
    clear H0 HB0 hmm
    have HC : Hid ((chN (ps.take j)).1 ≤ j) := by
      have h1 := chN_le (ps.take j) (0, fun _ => none)
      rw [List.length_take] at h1
      show (List.foldl chS _ _).1 ≤ _
      omega
    by_cases hlt : j < ps.length
    · obtain ⟨k, v, hg⟩ : ∃ k v, ps[j]? = some (k, v) := ⟨_, _, List.getElem?_eq_getElem hlt⟩
      obtain ⟨rb, ro, rfl, c0, c1⟩ := HR.out.below HB.out j k v hg
      have hlt' : (j : Int) < ps.length := by omega
      have HS := Lib.hid (chN_take ps j (k, v) hg)
      have HKk := Lib.hid (HK.out (k, v) (List.mem_of_getElem? hg))
      clear hg
      generalize chN (ps.take j) = s at *
      go_wp2_with (first | (at_mapUpdate; refine wpList_put (K := intK) _ rfl _ _ _ 67 rfl 3 Try.underlying67 w.heap.size _ _ rfl (HM.out.alloc _) (by have := HC.out; unfold maxLen; omega) k v rfl rfl HKk.out ?_; intro w2 hm2 ht2) | fail)
      have HM2 : Hid (IMap intK w2 w.heap.size (chN (ps.take (j + 1))).1 (chN (ps.take (j + 1))).2) := by
        rw [HS.out]
        exact hm2
      have HB2 : Hid (Below w.heap.size w w2) := (bAl HB.out _).trans ((mturn (F := fun i => w.heap.size ≤ i) ht2 (Nat.le_refl _)).below (bAl HB.out _).size (fun k hk => hk))
      clear hm2 ht2 HM HB HS c0 c1
      go_wp2_with fail
      go_roundw
      case rel => exact ⟨j + 1, by omega, by go_num, HM2, HB2⟩
      case measure => simp [intOf]; omega
    · obtain rfl : j = ps.length := by omega
      rw [List.take_length] at HM HC
      have hlen : ∀ ty, (Builtin.len_ #[67] ty #[.map (some w.heap.size)]).run Try.prog wr = .ok (.int .i64 ((chN ps).1 : Nat)) wr := fun ty => HM.out.len Try.underlying67 ty
      have hlt' : ¬ ((ps.length : Int) < ps.length) := by omega
      by_cases he : (chN ps).1 = ps.length
      · have HD : Hid (decide ((chN ps).1 = ps.length) = true) := decide_eq_true he
        have HE := Lib.hid he
        clear he
        have hbe : (((chN ps).1 : Int) == (ps.length : Int)) = true := by rw [beq_iff_eq]; have := HE.out; omega
        go_wp2_with fail
        go_ret2
        exact ⟨w.heap.size, by rw [HD.out]; rfl, HM.out, HB.out, Nat.le_refl _⟩
      · have HD : Hid (decide ((chN ps).1 = ps.length) = false) := decide_eq_false he
        have HE := Lib.hid he
        clear he
        have hbe : (((chN ps).1 : Int) == (ps.length : Int)) = false := by rw [beq_eq_false_iff_ne]; have := HE.out; omega
        go_wp2_with fail
        go_ret2
        exact ⟨w.heap.size, by rw [HD.out]; rfl, HM.out, HB.out, Nat.le_refl _⟩
end Go.Proofs.Ytagejkolgicecaa
