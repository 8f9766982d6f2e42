/- behind: where a walk goes on. -/
import Derived.Test.YtagejkolgicecaaB
import Derived.Test.YtagejkolgicecaaShelf
import Derived.Lib.SortBridge
namespace Go.Proofs.Ytagejkolgicecaa
open Go Go.RowKit Go.Maps Go.Sort
def Tb.behind (S : Tb) (p : Nat) : Nat := S.ks.countP (fun k => !decide (p < S.pl k))
theorem countP_find {α : Type} (f : α → Nat) (p : Nat) : ∀ (l : List α), l.Pairwise (fun x y => f x < f y) → l[l.countP (fun k => !decide (p < f k))]? = l.find? (fun k => decide (p < f k))
  | [], _ => rfl
  | x :: l, h => by
    obtain ⟨h1, h2⟩ := List.pairwise_cons.1 h
    by_cases hx : p < f x
    · have h0 : l.countP (fun k => !decide (p < f k)) = 0 := by
        rw [List.countP_eq_zero]; intro y hy; have := h1 y hy; simp; omega
      simp [hx, h0]
    · simp [hx, countP_find f p l h2]
section
variable {F : Nat → Prop} {b : Nat} {S : Tb} {m0 m1 : Nat} {kv : Value}
set_option maxRecDepth 100000 in
set_option maxHeartbeats 2000000 in
theorem t78 (c1 c2 : Nat) (W : World) (hO : Ok S) (h : Wit F W b S m0 m1 kv) (i : Nat) (k : Int) (hi : S.ks[i]? = some k) (p : Nat) (h1 : W.cell? ⟨c1, 0, none⟩ = some (.pointer (some ⟨b, 0, none⟩))) (h2 : W.cell? ⟨c2, 0, none⟩ = some (.int .i64 (p : Int))) :
    Calls Try.prog 78 (#[.int .i64 i] ++ #[.pointer (some ⟨c1, 0, none⟩), .pointer (some ⟨c2, 0, none⟩)]) W fun e w' => e = .returned (.bool (decide (p < S.pl k))) ∧ ∃ q, w' = W.drewN q := by
  have q0 := h.blk.cell 0 rfl
  have q1 := h.blk.cell 1 rfl
  obtain ⟨ao, cap, rfl, hc0, hc1, hc⟩ := keys_form h.keys
  obtain ⟨g, rfl, hg⟩ := hc i k hi
  have hlt : (i : Int) < S.ks.length := by have := (List.getElem?_eq_some_iff.1 hi).1; omega
  have hl := h.rows.drew.look Try.underlying65 (0, 0) (zero85 W.drew) (hO.wf k (List.mem_of_getElem? hi))
  change _ = Result.ok (Value.agg #[.int .i64 (S.vl k), .int .i64 (S.pl k : Int)]) W.drew at hl
  have f1 := field1 (S.vl k) (S.pl k) W.drew
  have hd : decide (p < S.pl k) = decide ((p : Int) < (S.pl k : Int)) := by simp
  rw [hd]
  clear h hc hO hi hd
  generalize S.vl k = a at *
  generalize (S.pl k : Int) = z at *
  go_enter Try.func78, Try.ntmps78
  go_wp2
  go_region
  all_goals go_wp2
  all_goals go_ret
  all_goals exact ⟨by first | rfl | simp, 1, rfl⟩
theorem drewN_below (w : World) (m : Nat) (os : Array Obj) : Below w.heap.size w (grow (w.drewN m) os) :=
  ⟨rfl, rfl, rfl, by simp [grow, World.drewN], fun k hk => by simp [grow, World.drewN, Array.getElem?_append, hk]⟩
set_option maxRecDepth 100000 in
set_option maxHeartbeats 2000000 in
theorem t68 (w : World) (hO : Ok S) (h : Wit F w b S m0 m1 kv) (p : Nat) : Calls Try.prog 68 #[.pointer (some ⟨b, 0, none⟩), .int .i64 (p : Int)] w fun e w' => e = .returned (.int .i64 (S.behind p : Int)) ∧ Below w.heap.size w w' := by
  obtain ⟨W0, hW0⟩ : ∃ W0, W0 = (w.alloc (.cells #[.pointer (some ⟨b, 0, none⟩)] 23)).alloc (.cells #[.int .i64 (p : Int)] 3) := ⟨_, rfl⟩
  have hB0 : Below w.heap.size w W0 := by rw [hW0]; exact bAl (bSelf w _) _
  have hs0 : (w.alloc (.cells #[.pointer (some ⟨b, 0, none⟩)] 23)).heap.size = w.heap.size + 1 := by simp
  have ca : Blk W0 w.heap.size 23 [.pointer (some ⟨b, 0, none⟩)] := by rw [hW0]; exact (Blk.new w _ _).alloc _
  have cx : Blk W0 (w.heap.size + 1) 3 [.int .i64 (p : Int)] := by
    have := Blk.new (w.alloc (.cells #[.pointer (some ⟨b, 0, none⟩)] 23)) #[.int .i64 (p : Int)] 3
    rw [hs0] at this; rw [hW0]; exact this
  have hWit := h.below hB0
  have eg : ∀ args w, (callFunc 78 args).run Try.prog w = .ok (.enter 78 args) w := enters_of Try.func78 (by kernel_rfl) rfl
  have hlen := hO.len
  have hget : ∀ i, i < S.ks.length → S.ks[i]? = some S.ks.toArray[i]! := fun i hi => by
    rw [List.getElem?_eq_getElem hi, getElem!_pos S.ks.toArray i (by simpa using hi)]; simp
  have hS := Try.sort_Search 78 #[.pointer (some ⟨w.heap.size, 0, none⟩), .pointer (some ⟨w.heap.size + 1, 0, none⟩)] S.ks.length (fun i => decide (p < S.pl S.ks.toArray[i]!)) W0 eg (by omega)
    (fun m os i hi => (t78 w.heap.size (w.heap.size + 1) _ hO (hWit.below (drewN_below W0 m os)) i _ (hget i hi) p (below_cell (drewN_below W0 m os) (ca.cell 0 rfl)) (below_cell (drewN_below W0 m os) (cx.cell 0 rfl))).mono
      fun _ _ ⟨he, q, hq⟩ => ⟨he, q, #[], by rw [hq, grow_empty]⟩)
    (fun x y hxy hy hx => by
      rcases Nat.lt_or_eq_of_le hxy with hlt | rfl
      · have h1 := List.pairwise_iff_getElem.1 hO.inc x y (by omega) hy hlt
        have h2 := hget x (by omega); rw [List.getElem?_eq_getElem (by omega)] at h2
        have h3 := hget y hy; rw [List.getElem?_eq_getElem hy] at h3
        simp only [Option.some.injEq] at h2 h3
        rw [← h2] at hx; rw [← h3]
        simp at hx ⊢; omega
      · exact hx)
  have hcnt := Lib.countP_range S.ks.toArray (fun k => !decide (p < S.pl k))
  have hbe : S.behind p = (List.range S.ks.length).countP (fun i => !decide (p < S.pl S.ks.toArray[i]!)) := by
    unfold Tb.behind
    simpa using hcnt.symm
  rw [← hbe] at hS
  have q1 := h.blk.cell 1 rfl
  have hbl := h.blk.lt
  obtain ⟨ao, cap, rfl, _, _, _⟩ := keys_form h.keys
  clear hcnt hbe hget hO hWit ca cx hlen h
  generalize S.behind p = r at hS ⊢
  have HS := Lib.hid hS
  have HB := Lib.hid hB0
  clear hS hB0
  go_enter Try.func68, Try.ntmps68
  go_wp2_with (go_at_call 77; rw [← hW0]; refine HS.out.mono ?_; rintro e w' ⟨rfl, q, os, rfl⟩)
  go_ret
  rw [← hW0]
  exact ⟨rfl, HB.out.trans ((drewN_below W0 q os).mono HB.out.size)⟩
end
end Go.Proofs.Ytagejkolgicecaa
