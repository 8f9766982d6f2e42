/- Contract of the reference's turned. -/
import Derived.Test.YtmbnckmhngijdaaGreatDoorRA
import Derived.Laws.OwnMore
namespace Go.Proofs.YtmbnckmhngijdaaGreatDoor
open Go Go.RowKit

/-- bytes that can be read: no slice, or the head of a block -/
def RdV (w : World) (v : Value) (l : List UInt8) : Prop :=
  (v = .slice none 0 0 ∧ l = []) ∨ ∃ g cap, v = .slice (some ⟨g, 0, none⟩) l.length cap ∧ l.length ≤ cap ∧ cap ≤ maxLen ∧ g < w.heap.size ∧ Rd w g l
theorem RdV.below {w w' : World} {v : Value} {l : List UInt8} (h : RdV w v l) (hb : Below w.heap.size w w') : RdV w' v l := by
  rcases h with h | ⟨g, cap, h1, h2, h3, h4, h5⟩
  · exact .inl h
  · exact .inr ⟨g, cap, h1, h2, h3, Nat.lt_of_lt_of_le h4 hb.size, h5.below hb⟩
theorem RdV.slice {w : World} {v : Value} {l : List UInt8} (h : RdV w v l) : ∃ ao cap, v = .slice ao l.length cap := by
  rcases h with ⟨rfl, rfl⟩ | ⟨g, cap, h1, _⟩
  · exact ⟨none, 0, rfl⟩
  · exact ⟨_, cap, h1⟩
theorem rdV_row {w : World} {B : Nat} {v : Value} {l : List UInt8} (h : w.ownsRow B 5 1 v l.length (c8 l)) : RdV w v l := by
  rcases row_read h with ⟨h1, h2, _⟩ | ⟨g, cap, h1, h2, h3, h4, h5⟩
  · exact .inl ⟨h1, List.length_eq_zero_iff.1 h2⟩
  · exact .inr ⟨g, cap, h1, h2, h3, h4, fun k x hx => h5 k _ (c8_get hx)⟩
def TurnR (l : List UInt8) (w : World) (e : Ending) (w' : World) : Prop :=
  Below w.heap.size w w' ∧ ∃ v, e = .returned v ∧ w'.ownsRow w.heap.size 5 1 v l.length (c8 l.reverse)
def TurnL (l : List UInt8) (w : World) (v i : Value) (wr : World) : Prop :=
  ∃ j : Nat, j ≤ l.length ∧ i = .int .i64 ((j : Int) - 1) ∧ Hid (wr.ownsRow w.heap.size 5 1 v (l.length - j) (c8 (l.drop j).reverse)) ∧ Hid (Below w.heap.size w wr)
set_option maxRecDepth 100000 in
set_option maxHeartbeats 2000000 in
theorem t73 (v : Value) (l : List UInt8) (w : World) (h : RdV w v l) (hl : l.length ≤ 1000000) : Calls Tryz.prog 73 #[v] w (TurnR l w) := by
  have hli : (l.length : Int) ≤ 1000000 := by omega
  have HB := Lib.hid h
  obtain ⟨ao, cap, rfl⟩ := h.slice
  clear h
  go_enter Tryz.func73, Tryz.ntmps73
  go_wp2_with fail
  go_loopw [3, 4] (fun v i wr => TurnL l w v i wr) (fun _ i _ => match i with | .int _ n => (n + 1).toNat | _ => 0)
  case atStart => exact ⟨l.length, Nat.le_refl _, rfl, by rw [Nat.sub_self, List.drop_length]; exact World.ownsRow_nil _ _ _ _, Below.refl _ _⟩
  case round =>
    obtain ⟨j, hj, rfl, hown, hbl⟩ := hrel
    obtain ⟨ai, ci, rfl⟩ := row_slice hown.out
    cases j with
    | zero =>
      have HO := hown.out
      rw [List.drop_zero, Nat.sub_zero] at HO
      have HO2 := Lib.hid HO
      clear HO
      go_wp2
      go_ret
      exact ⟨hbl.out, _, rfl, HO2.out⟩
    | succ k =>
      have hk : (((k + 1 : Nat) : Int) - 1) = (k : Int) := by omega
      rw [hk]
      obtain ⟨y, hy⟩ : ∃ y, l[k]? = some y := ⟨l[k], List.getElem?_eq_getElem (by omega)⟩
      have hwr : RdV wr (.slice ao l.length cap) l := HB.out.below hbl.out
      rcases hwr with ⟨_, h2⟩ | ⟨g, c2, h1, h2, h3, h4, h5⟩
      · rw [h2] at hj; simp at hj
      simp only [Value.slice.injEq] at h1
      obtain ⟨rfl, _, rfl⟩ := h1
      have hcell := h5 k y hy
      have hki : (k : Int) < l.length := by omega
      have hyl := y.toNat_lt
      have HD : Hid (l.drop k = y :: l.drop (k + 1)) := by
        show _ = _
        rw [List.drop_eq_getElem_cons (by omega)]
        congr 1
        rw [List.getElem?_eq_getElem (by omega)] at hy
        exact Option.some.inj hy
      have HO := Lib.hid (ownsRow_below hown.out (bSelf wr (.cells #[.int .u8 y.toNat] 5)))
      have HRD : Hid (Rd (wr.alloc (.cells #[.int .u8 y.toNat] 5)) wr.heap.size [y]) := (newAt wr #[.int .u8 y.toNat] 5 _ (c8 [y]) rfl rfl).rd
      have hnn : l.length - (k + 1) + 1 ≤ 1000000000 := by omega
      have HBS : Hid (w.heap.size ≤ (wr.alloc (.cells #[.int .u8 y.toNat] 5)).heap.size) := (bAl hbl.out _).size
      clear h5 h2 h3 h4 hy hk
      go_wp2_with (at_builtin; refine app8n rfl _ _ rfl w.heap.size (.slice ai (l.length - (k + 1)) ci) (l.length - (k + 1)) (l.drop (k + 1)).reverse rfl HO.out wr.heap.size 1 1 [y] rfl rfl HRD.out hnn HBS.out ?_; intro v6 w6 hown6 hgrow6; obtain ⟨a6, c6, rfl⟩ := row_slice hown6.out)
      have HB6 : Hid (Below w.heap.size w w6) := (bAl hbl.out _).grown hgrow6.out HBS.out (fun j hj => (hown.out.lt j hj).1)
      have HR6 : Hid (w6.ownsRow w.heap.size 5 1 (.slice a6 (l.length - (k + 1) + 1) c6) (l.length - k) (c8 (l.drop k).reverse)) := by
        show World.ownsRow _ _ _ _ _ _ _
        rw [HD.out, List.reverse_cons, show l.length - k = l.length - (k + 1) + 1 by omega]
        exact hown6.out
      clear hown6 hgrow6
      go_roundw
      case rel => exact ⟨k, by omega, by go_num, HR6, HB6⟩
      case measure => simp
end Go.Proofs.YtmbnckmhngijdaaGreatDoor
