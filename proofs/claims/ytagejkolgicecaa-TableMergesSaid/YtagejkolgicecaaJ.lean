/- The example of the chapter. -/
import Derived.Test.YtagejkolgicecaaEA
import Derived.Test.YtagejkolgicecaaFA
import Derived.Test.YtagejkolgicecaaHA
namespace Go.Proofs.Ytagejkolgicecaa
open Go Go.RowKit Go.Maps
theorem lt_eq {a m b : Nat} (h : a = m) (h2 : m < b) : a < b := by omega
def s1 : Tb := Tb.new.all [(1, 10)]
def s2 : Tb := s1.all [(2, 20)]
def s3 : Tb := s2.walk
def s4 : Tb := s3.next 0
def s5 : Tb := s4.del 2
def s6 : Tb := s5.all [(2, 21)]
def s7 : Tb := s6.all [(3, 30)]
def s8 : Tb := s7.next 0
def s9 : Tb := s8.next 0
theorem e3 : s2.walkE = .returned (.tuple #[.int .i64 0, .int .i64 0]) := by kernel_rfl
theorem e4 : s3.nextE 0 = tup3 1 10 0 := by kernel_rfl
theorem e5 : s4.delE 2 = .returned (.tuple #[.int .i64 20, .int .i64 0]) := by kernel_rfl
theorem e8 : s7.nextE 0 = tup3 2 21 0 := by kernel_rfl
theorem e9 : s8.nextE 0 = tup3 3 30 0 := by kernel_rfl
theorem e10 : s9.nextE 0 = tup3 0 0 14 := by kernel_rfl
set_option maxRecDepth 100000 in
set_option maxHeartbeats 4000000 in
theorem t15 (w : World) : Calls Try.prog 15 #[] w fun e w' => e = .returned (.bool true) ∧ Below w.heap.size w w' := by
  have hF : Hid (∀ W : World, w.heap.size ≤ W.heap.size → ∀ i, W.heap.size ≤ i → (fun i => w.heap.size ≤ i) i) := fun W h i hi => Nat.le_trans h hi
  have C20 := Lib.hid (t20 (fun i => w.heap.size ≤ i) w (fun i h => h))
  have CP := Lib.hid (fun b (S : Tb) W (h : Tab (fun i => w.heap.size ≤ i) W b S) (hs : w.heap.size ≤ W.heap.size) (k v : Int) (hk : WF k) (hp : S.pt < 4611686018427386904) => t21 (fun i => w.heap.size ≤ i) b S W h (hF.out W hs) hk v hp)
  go_enter Try.func15, Try.ntmps15
  go_wp2_with fail
  refine C20.out.mono ?_
  rintro e w1 ⟨b, rfl, h1, hb1, _⟩
  have T1 : Turn (fun i => w.heap.size ≤ i) w w1 := Turn.of_below hb1
  clear hb1
  go_wp2_with fail
  refine (CP.out b Tb.new w1 h1 T1.size 1 10 (by decide) (lt_eq (m := 0) (by kernel_rfl) (by omega))).mono ?_
  rintro e w2 ⟨rfl, h2, T2⟩
  have T2 := T1.trans T2
  clear h1 T1
  generalize Tb.new.allE [(1, 10)] = z1
  go_wp2_with fail
  refine (CP.out b s1 w2 h2 T2.size 2 20 (by decide) (lt_eq (m := 1) (by kernel_rfl) (by omega))).mono ?_
  rintro e w3 ⟨rfl, h3, T3⟩
  have T3 := T2.trans T3
  clear h2 T2
  generalize s1.allE [(2, 20)] = z2
  go_wp2_with fail
  refine (t24 (S := s2) w3 h3 (lt_eq (m := 0) (by kernel_rfl) (by omega))).mono ?_
  rintro e w4 ⟨rfl, h4, T4⟩
  have T4 := T3.trans T4
  rw [e3]
  clear h3 T3
  go_wp2_with fail
  refine (t25 (S := s3) w4 h4 (x := 0) (by decide)).mono ?_
  rintro e w5 ⟨rfl, h5, T5⟩
  have T5 := T4.trans T5
  rw [e4, tup3]
  clear h4 T4
  go_wp2_with fail
  refine (t22 (S := s4) w5 h5 (k := 2) (by decide)).mono ?_
  rintro e w6 ⟨rfl, h6, T6⟩
  have T6 := T5.trans T6
  rw [e5]
  clear h5 T5
  go_wp2_with fail
  refine (CP.out b s5 w6 h6 T6.size 2 21 (by decide) (lt_eq (m := 2) (by kernel_rfl) (by omega))).mono ?_
  rintro e w7 ⟨rfl, h7, T7⟩
  have T7 := T6.trans T7
  clear h6 T6
  generalize s5.allE [(2, 21)] = z6
  go_wp2_with fail
  refine (CP.out b s6 w7 h7 T7.size 3 30 (by decide) (lt_eq (m := 3) (by kernel_rfl) (by omega))).mono ?_
  rintro e w8 ⟨rfl, h8, T8⟩
  have T8 := T7.trans T8
  clear h7 T7
  generalize s6.allE [(3, 30)] = z7
  go_wp2_with fail
  refine (t25 (S := s7) w8 h8 (x := 0) (by decide)).mono ?_
  rintro e w9 ⟨rfl, h9, T9⟩
  have T9 := T8.trans T9
  rw [e8, tup3]
  clear h8 T8
  go_wp2_with fail
  refine (t25 (S := s8) w9 h9 (x := 0) (by decide)).mono ?_
  rintro e w10 ⟨rfl, h10, T10⟩
  have T10 := T9.trans T10
  rw [e9, tup3]
  clear h9 T9
  go_wp2_with fail
  refine (t25 (S := s9) w10 h10 (x := 0) (by decide)).mono ?_
  rintro e w11 ⟨rfl, h11, T11⟩
  have T11 := T10.trans T11
  rw [e10, tup3]
  clear h10 T10
  go_wp2
  go_ret
  exact ⟨rfl, T11.below (Nat.le_refl _) (fun k hk => hk)⟩
end Go.Proofs.Ytagejkolgicecaa
