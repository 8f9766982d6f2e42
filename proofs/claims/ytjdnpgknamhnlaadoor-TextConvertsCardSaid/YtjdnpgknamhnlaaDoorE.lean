/- Contracts of the iterator over a string's characters. -/
import Derived.Test.YtjdnpgknamhnlaaDoorD
import Derived.RangeFuncBox
import Derived.RangeFuncLeaves
import Derived.RangeFuncNested
import Derived.Shelf.Abstract
import Derived.OwnWalkIn
import Derived.TacticsInMore
import Derived.LoopNIn
import Derived.LoopIn
import Derived.Maps.AppendAt
namespace Go.Proofs.YtjdnpgknamhnlaaDoor
open Go Go.RowKit Go.Shelf
attribute [local go_sem] Oper.semAt_some

/-- The characters of a string, one behind the other: each with its code. -/
def partsF (nx : ByteArray → Nat × Int) : Nat → ByteArray → List (ByteArray × Int)
  | 0, _ => []
  | f + 1, s => if s.size = 0 then [] else (s.extract 0 (nx s).1, (nx s).2) :: partsF nx f (s.extract (nx s).1 s.size)
def parts (nx : ByteArray → Nat × Int) (s : ByteArray) : List (ByteArray × Int) := partsF nx s.size s
structure NxOk (nx : ByteArray → Nat × Int) : Prop where
  lo : ∀ s, 0 < s.size → 1 ≤ (nx s).1
  hi : ∀ s, 0 < s.size → (nx s).1 ≤ s.size
theorem partsF_fuel {nx : ByteArray → Nat × Int} (h : NxOk nx) : ∀ (f g : Nat) (s : ByteArray), s.size ≤ f → s.size ≤ g → partsF nx f s = partsF nx g s
  | 0, 0, _, _, _ => rfl
  | 0, g + 1, s, hf, _ => by simp [partsF, show s.size = 0 by omega]
  | f + 1, 0, s, _, hg => by simp [partsF, show s.size = 0 by omega]
  | f + 1, g + 1, s, hf, hg => by
    by_cases h0 : s.size = 0
    · simp [partsF, h0]
    · have h1 := h.lo s (by omega)
      simp only [partsF, h0, if_false]
      rw [partsF_fuel h f g _ (by simp; omega) (by simp; omega)]
theorem parts_nil (nx : ByteArray → Nat × Int) (s : ByteArray) (h : s.size = 0) : parts nx s = [] := by
  unfold parts; rw [h]; rfl
theorem parts_cons {nx : ByteArray → Nat × Int} (h : NxOk nx) (s : ByteArray) (h0 : 0 < s.size) : parts nx s = (s.extract 0 (nx s).1, (nx s).2) :: parts nx (s.extract (nx s).1 s.size) := by
  have h1 := h.lo s h0
  unfold parts
  obtain ⟨n, hn⟩ : ∃ n, s.size = n + 1 := ⟨s.size - 1, by omega⟩
  conv => lhs; rw [hn]
  simp only [partsF, show s.size ≠ 0 by omega, if_false]
  rw [partsF_fuel h n _ _ (by simp; omega) (Nat.le_refl _)]
theorem parts_length {nx : ByteArray → Nat × Int} (h : NxOk nx) : ∀ (n : Nat) (s : ByteArray), s.size = n → (parts nx s).length ≤ n := fun n => by
  induction n using Nat.strongRecOn with
  | _ n ih =>
    intro s hs
    by_cases h0 : s.size = 0
    · rw [parts_nil nx s h0]; simp
    · have h1 := h.lo s (by omega)
      have h2 := h.hi s (by omega)
      rw [parts_cons h s (by omega), List.length_cons]
      have := ih (s.extract (nx s).1 s.size).size (by simp; omega) _ rfl
      simp at this
      omega

/-- What is asked of the function that tells the next character. -/
structure NextOk (w0 : World) (nx : ByteArray → Nat × Int) (kn : Nat) (lb : Array Value) : Prop extends NxOk nx where
  call : ∀ (W : World) (s : ByteArray), Below w0.heap.size w0 W → 0 < s.size → s.size ≤ 9223372036854775807 →
    Calls Tryd.prog kn (#[.string s] ++ lb) W fun e W' => e = .returned (.tuple #[.int .i64 (nx s).1, .int .i64 (nx s).2]) ∧ Below W.heap.size W W'
  enters : ∀ args w, (callFunc kn args).run Tryd.prog w = .ok (.enter kn args) w

abbrev encP (p : ByteArray × Int) : Array Value := #[.string p.1, .int .i64 p.2]
def strLen : Value → Nat | .string s => s.size | _ => 0
theorem abides_below {β : Type} {B : Nat} {J : β → World → Prop} (h : AbidesFrom B J) {s : β} {W W' : World} (hs : J s W) (hb : Below W.heap.size W W') : J s W' :=
  h s W W' none hs ⟨hb.os, hb.tape, hb.output, hb.size, fun k hk _ => hb.block k hk⟩ (fun r e => by cases e)

/-- What a round keeps: all below n₀, and the box that holds the encoding. -/
def KpB (n₀ Bc : Nat) (W W' : World) : Prop := Below n₀ W W' ∧ W'.heap[Bc]? = W.heap[Bc]?
theorem KpB.trans {n₀ Bc : Nat} {A B C : World} (h : KpB n₀ Bc A B) (k : KpB n₀ Bc B C) : KpB n₀ Bc A C := ⟨h.1.trans k.1, k.2.trans h.2⟩
theorem KpB.refl (n₀ Bc : Nat) (A : World) : KpB n₀ Bc A A := ⟨Below.refl _ _, rfl⟩
theorem KpB.of_below {n₀ Bc : Nat} {A B : World} (h : Below A.heap.size A B) (hn : n₀ ≤ A.heap.size) (hB : Bc < A.heap.size) : KpB n₀ Bc A B := ⟨h.mono hn, h.block Bc hB⟩
theorem KpB.cell {n₀ Bc j : Nat} {A B : World} (h : KpB n₀ Bc A B) : B.cell? ⟨Bc, j, none⟩ = A.cell? ⟨Bc, j, none⟩ := World.cell?_of_block (w := A) (a := ⟨Bc, j, none⟩) h.2
theorem kpB_b {n₀ Bc : Nat} {w : World} (hn : n₀ ≤ w.heap.size) (hB : Bc < w.heap.size) (W : World) (l : Nat) (o o' : Obj) (hl : w.heap.size ≤ l) (h : W.heap[l]? = some o) (h1 : o.isCells = false) (h2 : o.isWalk = false) : KpB n₀ Bc W (W.putObj l o') :=
  ⟨belowK_b hn W l o o' hl h h1 h2, World.putObj_heap_other (by omega)⟩

set_option maxRecDepth 100000 in
set_option maxHeartbeats 2000000 in
theorem it78 {w0 : World} {nx : ByteArray → Nat × Int} {kn : Nat} {lb : Array Value} (hN : NextOk w0 nx kn lb) (n : Nat) (_hn : 2 ≤ n) (l Bs Bc n₀ : Nat) (s : ByteArray) (hs : s.size ≤ 9223372036854775807)
    (J Jx : List (ByteArray × Int) → World → Prop) (W : World) (hJ : AbidesFrom W.heap.size J)
    (hY : ∀ pre x W1, J pre W1 → pre.length < (parts nx s).length → YieldAt Fence.wide (n - 1) Tryd.prog l (encP x) W1 fun e W' =>
      (e = .returned (.bool true) ∧ J (pre ++ [x]) W' ∧ KpB n₀ Bc W1 W') ∨ (e = .returned (.bool false) ∧ Jx (pre ++ [x]) W'))
    (h0n : w0.heap.size ≤ n₀) (hb0 : Below w0.heap.size w0 W) (hnW : n₀ ≤ W.heap.size) (hBc : Bc < W.heap.size)
    (hcs : W.cell? ⟨Bs, 0, none⟩ = some (.string s)) (hcc : W.cell? ⟨Bc, 1, none⟩ = some (.func (.func kn) #[] lb)) (h0 : J [] W) :
    CallsIn Fence.wide n Tryd.prog 78 #[.func (.yield l) #[] #[], .pointer (some ⟨Bs, 0, none⟩), .pointer (some ⟨Bc, 0, none⟩)] W fun e W' => (∃ v, e = .returned v) ∧
      ((∃ ys, ys = parts nx s ∧ J ys W') ∨ (∃ pre, pre <+: parts nx s ∧ Jx pre W')) := by
  have hent := hN.enters
  refine callsIn_of_wp Tryd.func78 rfl trivial ?_ rfl
  simp only [Tryd.ntmps78, List.size_toArray, List.length_cons, List.length_nil, Nat.reduceAdd, Nat.reduceSub, Array.replicate_succ, Array.replicate_zero, List.push_toArray, List.append_toArray, List.nil_append, List.cons_append]
  gi_wp2
  gi_loopw [4] (fun v wr => ∃ (pre : List (ByteArray × Int)) (rest : ByteArray), v = .string rest ∧ Go.RowKit.Hid (parts nx s = pre ++ parts nx rest) ∧ rest.size ≤ 9223372036854775807 ∧ KpB n₀ Bc W wr ∧ J pre wr ∧ W.heap.size ≤ wr.heap.size)
    (fun v _ => strLen v)
  case atStart => exact ⟨[], s, rfl, rfl, hs, KpB.refl _ _ _, h0, Nat.le_refl _⟩
  case round =>
    obtain ⟨pre, rest, rfl, hx, hrs, hBW, hJr, hsz⟩ := hrel
    have hcc' : wr.cell? ⟨Bc, 1, none⟩ = some (.func (.func kn) #[] lb) := hBW.cell.trans hcc
    by_cases hr0 : rest.size = 0
    · have hpn : Go.RowKit.Hid (parts nx s = pre) := by
        have := hx.out
        rw [parts_nil nx rest hr0, List.append_nil] at this
        exact this
      have hr1 : (rest.size : Int) ≤ 0 := by omega
      clear hr0
      gi_wp2
      go_end0
      exact ⟨⟨_, rfl⟩, .inl ⟨pre, hpn.out.symm, hJr⟩⟩
    · have hr1 : 0 < rest.size := by omega
      have hlo := hN.lo rest hr1
      have hhi := hN.hi rest hr1
      have hxr := Lib.hid (parts_cons hN.toNxOk rest hr1)
      have hcall := hN.call wr rest (hb0.trans (hBW.1.mono h0n)) hr1 hrs
      have hlen : pre.length < (parts nx s).length := by rw [hx.out, hxr.out]; simp
      obtain ⟨sz, hsz'⟩ : ∃ sz, (nx rest).1 = sz := ⟨_, rfl⟩
      obtain ⟨cd, hcd⟩ : ∃ cd, (nx rest).2 = cd := ⟨_, rfl⟩
      rw [hsz', hcd] at hcall
      rw [hsz'] at hlo hhi
      have hxr2 : Go.RowKit.Hid (parts nx rest = (rest.extract 0 sz, cd) :: parts nx (rest.extract sz rest.size)) := by
        have := hxr.out
        rw [hsz', hcd] at this
        exact this
      clear hxr hsz' hcd hr0
      gi_wp2
      refine ⟨trivial, fun h => (by cases h), ?_⟩
      refine (callsIn_wide.2 hcall).mono ?_
      rintro e w1 ⟨rfl, hb1⟩
      have hJ1 := abides_below hJ hJr hb1
      obtain ⟨fn, tmps, assign, body, hy, hR⟩ := hY pre (rest.extract 0 sz, cd) w1 hJ1 hlen
      dsimp only [encP] at hy
      have hB1 : KpB n₀ Bc W w1 := hBW.trans (KpB.of_below hb1 (Nat.le_trans hnW hsz) (Nat.lt_of_lt_of_le hBc hsz))
      gi_wp2
      refine ⟨fun h => (by cases h), ?_⟩
      refine hR.mono ?_
      rintro e W3 (⟨rfl, hJ3, hk3⟩ | ⟨rfl, hJx3⟩)
      · have hx3 : Go.RowKit.Hid (parts nx s = (pre ++ [(rest.extract 0 sz, cd)]) ++ parts nx (rest.extract sz rest.size)) := by
          have h1 := hx.out
          rw [hxr2.out] at h1
          show _ = _
          rw [h1, List.append_assoc]
          rfl
        have hss : Go.RowKit.Hid ((rest.extract sz rest.size).size = rest.size - sz) := by show _ = _; simp
        gi_wp2
        go_roundw
        case rel => exact ⟨pre ++ [(rest.extract 0 sz, cd)], rest.extract sz rest.size, rfl, hx3, by rw [hss.out]; omega, hB1.trans hk3, hJ3, Nat.le_trans (Nat.le_trans hsz hb1.size) hk3.1.size⟩
        case measure => show (rest.extract sz rest.size).size < rest.size; rw [hss.out]; omega
      · gi_wp2
        refine bodyPost_ret (results_none rfl _ _ _) rfl ?_
        exact ⟨⟨_, rfl⟩, .inr ⟨pre ++ [(rest.extract 0 sz, cd)], ⟨parts nx (rest.extract sz rest.size), by rw [hx.out, hxr2.out, List.append_assoc]; rfl⟩, hJx3⟩⟩

theorem walk_stops {w0 : World} {nx : ByteArray → Nat × Int} {kn : Nat} {lb : Array Value} (hN : NextOk w0 nx kn lb) (n : Nat) (hn : 2 ≤ n) (Bs Bc n₀ : Nat) (s : ByteArray) (hs : s.size ≤ 9223372036854775807) (w : World)
    (h0n : w0.heap.size ≤ n₀) (hb0 : Below w0.heap.size w0 w) (hnw : n₀ ≤ w.heap.size) (hBs : Bs < w.heap.size) (hBc : Bc < w.heap.size)
    (hcs : w.cell? ⟨Bs, 0, none⟩ = some (.string s)) (hcc : w.cell? ⟨Bc, 1, none⟩ = some (.func (.func kn) #[] lb)) :
    SeqStopsK Fence.wide n Tryd.prog 78 #[.pointer (some ⟨Bs, 0, none⟩), .pointer (some ⟨Bc, 0, none⟩)] encP (KpB n₀ Bc) (fun ys => ys = parts nx s) (fun pre => pre <+: parts nx s) (parts nx s).length w := fun l J Jx W hW hJ _ hY h0 =>
  it78 hN n hn l Bs Bc n₀ s hs J Jx W hJ hY h0n (hb0.trans (hW.mono (Nat.le_trans h0n hnw))) (Nat.le_trans hnw hW.size) (Nat.lt_of_lt_of_le hBc hW.size)
    ((hW.cell (p := ⟨Bs, 0, none⟩) hBs).trans hcs) ((hW.cell (p := ⟨Bc, 1, none⟩) hBc).trans hcc) h0
end Go.Proofs.YtjdnpgknamhnlaaDoor
