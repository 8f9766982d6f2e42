/- Making and copying words; contracts of plus and of lower. -/
import Derived.Test.YtifhiefdhhmdeaaGreatDoorC
import Derived.OwnWalk
import Derived.Laws.CopyOwn
namespace Go.Proofs.YtifhiefdhhmdeaaGreatDoor
open Go Go.RowKit

theorem info143 : (Tryz.prog.info? 143).map (fun i => (i.zero, i.size, i.bytes)) = some (some (.int .u32 0), 1, 4) := by kernel_rfl
theorem info3 : (Tryz.prog.info? 3).map (fun i => (i.zero, i.size, i.bytes)) = some (some (.int .i64 0), 1, 8) := by kernel_rfl

theorem made_one (z : Value) (n : Nat) (h : z.cells = #[z]) : (madeCells z.cells (n * 1)).toList = List.replicate n z := by
  rw [h]; apply List.ext_getElem
  · simp [madeCells]
  · intro i h1 h2
    simp [madeCells, Nat.mod_one]
theorem mk32 (w : World) {ops : Array Oper} {rest : List Oper} {o : Oper} {a : Act} {Q : Exit → Act → World → Prop}
    (hg : o.guard = none) (l c : Operand) (hop : o.op = Op.makeSlice 64 l c) (L C : Int) (n : Nat) (hl : a.eval l = .int .i64 L) (hc : a.eval c = .int .i64 C) (hL : L = (n : Int)) (hC : C = (n : Int)) (hn : n ≤ 1099511627776)
    (hK : ∀ w', Hid (Blk w' w.heap.size 143 (c32 (List.replicate n 0))) → Below w.heap.size w w' → wpList Tryz.prog ops Q rest (a.put o.dst (.slice (some ⟨w.heap.size, 0, none⟩) n n)) w') :
    wpList Tryz.prog ops Q (o :: rest) a w := by
  obtain ⟨i0, hi, hz0, hz1, hz2⟩ := info_parts info143
  refine wpList_make_full w hg l c 64 hop w.heap.size 143 i0 (.int .u32 0) 1 Tryz.underlying64 hi hz0 hz1 .i64 .i64 L C n hl hc hL hC (by rw [hz2]; omega) (by unfold maxLen; omega) (Nat.le_refl _) (fun w' h1 h2 => ?_)
  obtain ⟨_, h3 | ⟨g, cs, h3, h4, h5, h6, h7, h8, h9⟩⟩ := row_cases h1
  · exact absurd h3.1 (by simp)
  · simp only [Value.slice.injEq, Option.some.injEq, Addr.mk.injEq] at h3
    obtain ⟨⟨rfl, _, _⟩, _, h10⟩ := h3
    rw [← h10] at h7
    refine hK w' ?_ ⟨h2.os, h2.tape, h2.output, h2.size, fun k hk => h2.block k hk (by simp)⟩
    show Blk _ _ _ _
    rw [List.take_of_length_le (by omega), made_one _ _ rfl] at h9
    rw [h9] at h6
    simpa [c32] using h6
theorem mk64 (w : World) {ops : Array Oper} {rest : List Oper} {o : Oper} {a : Act} {Q : Exit → Act → World → Prop}
    (hg : o.guard = none) (l c : Operand) (hop : o.op = Op.makeSlice 22 l c) (L C : Int) (n : Nat) (hl : a.eval l = .int .i64 L) (hc : a.eval c = .int .i64 C) (hL : L = (n : Int)) (hC : C = (n : Int)) (hn : n ≤ 1099511627776)
    (hK : ∀ w', Hid (Blk w' w.heap.size 3 (c64 (List.replicate n 0))) → Below w.heap.size w w' → wpList Tryz.prog ops Q rest (a.put o.dst (.slice (some ⟨w.heap.size, 0, none⟩) n n)) w') :
    wpList Tryz.prog ops Q (o :: rest) a w := by
  obtain ⟨i0, hi, hz0, hz1, hz2⟩ := info_parts info3
  refine wpList_make_full w hg l c 22 hop w.heap.size 3 i0 (.int .i64 0) 1 Tryz.underlying22 hi hz0 hz1 .i64 .i64 L C n hl hc hL hC (by rw [hz2]; omega) (by unfold maxLen; omega) (Nat.le_refl _) (fun w' h1 h2 => ?_)
  obtain ⟨_, h3 | ⟨g, cs, h3, h4, h5, h6, h7, h8, h9⟩⟩ := row_cases h1
  · exact absurd h3.1 (by simp)
  · simp only [Value.slice.injEq, Option.some.injEq, Addr.mk.injEq] at h3
    obtain ⟨⟨rfl, _, _⟩, _, h10⟩ := h3
    rw [← h10] at h7
    refine hK w' ?_ ⟨h2.os, h2.tape, h2.output, h2.size, fun k hk => h2.block k hk (by simp)⟩
    show Blk _ _ _ _
    rw [List.take_of_length_le (by omega), made_one _ _ rfl] at h9
    rw [h9] at h6
    simpa [c64] using h6
/-- copy(words of the call's own, words that are read) -/
theorem cp32 {w : World} {ops : Array Oper} {rest : List Oper} {o : Oper} {a : Act} {Q : Exit → Act → World → Prop} (hgd : o.guard = none) (d s : Operand) (dT sT : TypeId)
    (ho : o.op = .call { callee := .builtin .copy, args := #[d, s], argTypes := #[dT, sT] }) (hu : Tryz.prog.underlying dT = some (.slice 143))
    (g n dCap sCap : Nat) (sp : Option Addr) (xs bs : List Nat) (m : Nat) (hd : a.eval d = .slice (some ⟨g, 0, none⟩) n dCap) (hs : a.eval s = .slice sp m sCap) (hm : bs.length = m)
    (hg : Blk w g 143 (c32 xs)) (hn : xs.length = n) (hbn : bs.length ≤ n) (hS : Src w g sp bs) (B : Nat) (w0 : World) (hb : Below B w0 w) (hBg : B ≤ g)
    (h : ∀ w', Hid (Blk w' g 143 (c32 (bs ++ xs.drop bs.length))) → Below B w0 w' → wpList Tryz.prog ops Q rest (a.put o.dst (goInt bs.length)) w') :
    wpList Tryz.prog ops Q (o :: rest) a w := by
  have hsz : (Tryz.prog.info? 143).map (·.size) = some 1 := by kernel_rfl
  subst hm
  refine wpList_copy_splice hgd d s dT sT ho 143 hu hsz (some ⟨g, 0, none⟩) sp n dCap bs.length sCap hd hs g 0 (c32 xs) 143 hg (c32 bs) (by rw [List.length_map]; exact (Nat.min_eq_left hbn).symm) (fun h0 => ⟨rfl, ?_⟩) (by simp; omega) (by
    intro v hv
    obtain ⟨x, _, rfl⟩ := List.mem_map.1 hv
    rfl) B w0 hb hBg (fun w' h1 h2 => ?_)
  · rw [List.length_map] at h0
    obtain ⟨gb, rfl, _, _⟩ := hS 0 bs[0] (List.getElem?_eq_getElem h0)
    refine ⟨_, rfl, fun j v hv => ?_⟩
    rw [List.getElem?_map] at hv
    cases hx : bs[j]? with
    | none => rw [hx] at hv; cases hv
    | some x =>
      rw [hx] at hv
      obtain ⟨gb', e, _, hc⟩ := hS j x hx
      rw [add_addr, Nat.zero_add]
      simp only [Option.some.injEq, Addr.mk.injEq] at e
      rw [e.1]
      simp only [Option.map_some, Option.some.injEq] at hv
      rw [← hv]; exact hc
  · have := h w' (by
      show Blk _ _ _ _
      have h3 := h1.out
      have e : splice (c32 xs) 0 (c32 bs) = c32 (bs ++ xs.drop bs.length) := by simp [splice, c32]
      rw [e] at h3
      exact h3) h2
    rw [List.length_map]
    exact this

/-- a function that makes a natural -/
def NatR (n : Nat) (w : World) (e : Ending) (w' : World) : Prop := ∃ v, e = .returned v ∧ Nt w' v n ∧ Below w.heap.size w w' ∧ ∀ k, v.ownBlock = some k → w.heap.size ≤ k
theorem below_grown {w w1 w' : World} {B g : Nat} (h : Below B w w1) (hg : w1.grownBy w' (some g)) (hB : B ≤ w1.heap.size) (h2 : B ≤ g) : Below B w w' :=
  h.grown hg hB (fun k hk => by simp at hk; omega)
theorem dgs32_lt (n : Nat) : ∀ d ∈ dgs 4294967296 n, d < 4294967296 := dgs_lt (by omega) n


theorem Src.of {w w' : World} {g : Nat} {p : Option Addr} {bs : List Nat} (h : Src w g p bs) (hb : Below w.heap.size w w') (hlt : ∀ gb, p = some ⟨gb, 0, none⟩ → gb < w.heap.size) : Src w' g p bs := by
  intro k x hx
  obtain ⟨gb, h1, h2, h3⟩ := h k x hx
  exact ⟨gb, h1, h2, (hb.cell (p := ⟨gb, k, none⟩) (hlt gb h1)).trans h3⟩
/-- how a natural that was there is read when the call has made blocks of its own -/
theorem Nt.later {w : World} {v : Value} {n : Nat} (h : Nt w v n) : ∃ p cap, v = .slice p (Lw n) cap ∧ Lw n ≤ cap ∧ cap ≤ maxLen ∧ ∀ (w' : World) (g : Nat), Below w.heap.size w w' → w.heap.size ≤ g → Src w' g p (dgs 4294967296 n) := by
  rcases h.read with ⟨rfl, rfl⟩ | ⟨gb, cap, rfl, h1, h2, h3, h4⟩
  · exact ⟨none, 0, rfl, by simp [Lw], by simp, fun _ _ _ _ k x hx => by simp at hx⟩
  · exact ⟨_, cap, rfl, h1, h2, fun w' g hb hg k x hx => ⟨gb, rfl, by omega, (hb.cell (p := ⟨gb, k, none⟩) h3).trans (h4 k x hx)⟩⟩

theorem pads_copy {n k A : Nat} (h : (dgs 4294967296 A).length + k = n) : dgs 4294967296 A ++ List.replicate k 0 = pads 4294967296 n A := by
  apply pads_eq (by omega)
  · intro d hd
    rcases List.mem_append.1 hd with h | h
    · exact dgs32_lt A d h
    · rw [(List.mem_replicate.1 h).2]; omega
  · simp [h]
  · rw [val_append, val_replicate, val_dgs (by omega)]; omega
/-- the whole block -/
theorem t160f (g n cap X B : Nat) (q : Option Addr) (cb : Nat) (w : World) (hc : n ≤ 9223372036854775807) (hX : X < 4294967296 ^ n) (hle : Lw B ≤ n) (hB : Blk w g 143 (c32 (pads 4294967296 n X))) (hS : Src w g q (dgs 4294967296 B)) :
    Calls Tryz.prog 160 #[.slice (some ⟨g, 0, none⟩) n cap, .slice q (Lw B) cb] w fun e w' => e = .returned (.bool (decide (4294967296 ^ n ≤ X + B))) ∧ Blk w' g 143 (c32 (pads 4294967296 n ((X + B) % 4294967296 ^ n))) ∧ w.grownBy w' (some g) := by
  have h := t160 g 0 n cap [] [] (pads 4294967296 n X) (dgs 4294967296 B) q cb w rfl (by simp) hc hle (pads_lt (by omega) _ _) (dgs32_lt B) (by simpa using hB) hS
  rw [val_pads_of_lt (by omega) hX, val_dgs (by omega)] at h
  refine h.mono ?_
  rintro e w' ⟨h1, h2, h3⟩
  exact ⟨h1, by simpa using h2, h3⟩
theorem t161f (g n V : Nat) (w : World) (hn : n ≤ maxLen) (hV : V < 4294967296 ^ n) (hB : Blk w g 143 (c32 (pads 4294967296 n V))) :
    Calls Tryz.prog 161 #[.slice (some ⟨g, 0, none⟩) n n] w fun e w' => e = .returned (.slice (some ⟨g, 0, none⟩) (Lw V) n) ∧ w = w' := by
  have h := t161 g n n (pads 4294967296 n V) w (by simp) (Nat.le_refl _) hn (pads_lt (by omega) _ _) (fun k x hx => hB.cell k (c32_get hx))
  rw [val_pads_of_lt (by omega) hV] at h
  exact h
theorem nt_pads {w : World} {g n V : Nat} (h : Blk w g 143 (c32 (pads 4294967296 n V))) (hn : n ≤ maxLen) (hV : V < 4294967296 ^ n) : Nt w (.slice (some ⟨g, 0, none⟩) (Lw V) n) V := by
  have := h.nt (by simpa using hn) (pads_lt (by omega) _ _)
  rw [val_pads_of_lt (by omega) hV, pads_length] at this
  exact this
/-- the rest of a function that makes a natural in a block of its own -/
theorem natR_mk {w w' : World} {n V : Nat} (h : Blk w' w.heap.size 143 (c32 (pads 4294967296 n V))) (hn : n ≤ maxLen) (hV : V < 4294967296 ^ n) (hb : Below w.heap.size w w') : NatR V w (.returned (.slice (some ⟨w.heap.size, 0, none⟩) (Lw V) n)) w' :=
  ⟨_, rfl, nt_pads h hn hV, hb, fun k hk => by simp [Value.ownBlock] at hk; omega⟩

set_option maxRecDepth 100000 in
set_option maxHeartbeats 1000000 in
theorem t137s (p q : Option Addr) (ca cb A B : Nat) (w : World) (hl : Lw A ≤ 1000000) (hle : Lw B ≤ Lw A) (hA : ∀ (w' : World) (g : Nat), Below w.heap.size w w' → w.heap.size ≤ g → Src w' g p (dgs 4294967296 A)) (hB : ∀ (w' : World) (g : Nat), Below w.heap.size w w' → w.heap.size ≤ g → Src w' g q (dgs 4294967296 B)) :
    Calls Tryz.prog 137 #[.slice p (Lw A) ca, .slice q (Lw B) cb] w (NatR (A + B) w) := by
  have HA := Lib.hid hA
  have HB := Lib.hid hB
  have HAL : Hid ((dgs 4294967296 A).length = Lw A) := rfl
  have hsum : Hid (A + B < 4294967296 ^ (Lw A + 1)) := Lw_le.1 (by have := Lw_add A B; omega)
  have hAx : Hid (A < 4294967296 ^ (Lw A + 1)) := Lw_le.1 (by omega)
  have c1 := fun W g hb hs => t160f g (Lw A + 1) (Lw A + 1) A B q cb W (by omega) hAx.out (by omega) hb hs
  have c2 := fun W g hb => t161f g (Lw A + 1) (A + B) W (by unfold maxLen; omega) hsum.out hb
  have C1 := Lib.hid c1
  have C2 := Lib.hid c2
  have C3 := Lib.hid (fun (W : World) hb hw => @natR_mk w W (Lw A + 1) (A + B) hb (by unfold maxLen; omega) hsum.out hw)
  have HP : Hid (dgs 4294967296 A ++ List.replicate 1 0 = pads 4294967296 (Lw A + 1) A) := pads_copy rfl
  have HM : Hid ((A + B) % 4294967296 ^ (Lw A + 1) = A + B) := Nat.mod_eq_of_lt hsum.out
  clear hA hB c1 c2 hsum hAx
  generalize Lw A = x at *
  generalize Lw B = y at *
  go_enter Tryz.func137, Tryz.ntmps137
  go_wp2_with (first | (at_make; refine mk32 _ rfl _ _ rfl _ _ (x + 1) rfl rfl (by omega) (by omega) (by omega) ?_; intro w1 hb1 hbl1) | (with_reducible refine cp32 rfl _ _ 64 65 rfl Tryz.underlying64 w.heap.size (x + 1) (x + 1) ca p (List.replicate (x + 1) 0) (dgs 4294967296 A) x rfl rfl HAL.out hb1.out (by simp) (by rw [HAL.out]; omega) (HA.out _ _ hbl1 (Nat.le_refl _)) w.heap.size w hbl1 (Nat.le_refl _) ?_; intro w2 hb2 hbl2))
  have hb2' : Hid (Blk w2 w.heap.size 143 (c32 (pads 4294967296 (x + 1) A))) := by
    have := hb2.out
    rw [HAL.out, List.drop_replicate, Nat.add_sub_cancel_left, HP.out] at this
    exact this
  refine (C1.out w2 w.heap.size hb2'.out (HB.out _ _ hbl2 (Nat.le_refl _))).mono ?_
  rintro e w3 ⟨rfl, hb3, hg3⟩
  have hbl3 : Below w.heap.size w w3 := below_grown hbl2 hg3 hbl2.size (Nat.le_refl _)
  rw [HM.out] at hb3
  have hb3' := Lib.hid hb3
  clear hb3
  go_wp2_with fail
  refine (C2.out w3 w.heap.size hb3'.out).mono ?_
  rintro e w4 ⟨rfl, rfl⟩
  go_wp2_with fail
  go_ret
  exact C3.out _ hb3'.out hbl3
set_option maxRecDepth 100000 in
set_option maxHeartbeats 1000000 in
theorem t137x (p q : Option Addr) (ca cb A B : Nat) (w : World) (hl : Lw B ≤ 1000000) (hle : Lw A < Lw B) (hA : ∀ (w' : World) (g : Nat), Below w.heap.size w w' → w.heap.size ≤ g → Src w' g p (dgs 4294967296 A)) (hB : ∀ (w' : World) (g : Nat), Below w.heap.size w w' → w.heap.size ≤ g → Src w' g q (dgs 4294967296 B)) :
    Calls Tryz.prog 137 #[.slice p (Lw A) ca, .slice q (Lw B) cb] w (NatR (A + B) w) := by
  have HA := Lib.hid hA
  have HB := Lib.hid hB
  have HAL : Hid ((dgs 4294967296 B).length = Lw B) := rfl
  have hsum : Hid (B + A < 4294967296 ^ (Lw B + 1)) := Lw_le.1 (by have := Lw_add B A; omega)
  have hAx : Hid (B < 4294967296 ^ (Lw B + 1)) := Lw_le.1 (by omega)
  have c1 := fun W g hb hs => t160f g (Lw B + 1) (Lw B + 1) B A p ca W (by omega) hAx.out (by omega) hb hs
  have c2 := fun W g hb => t161f g (Lw B + 1) (B + A) W (by unfold maxLen; omega) hsum.out hb
  have C1 := Lib.hid c1
  have C2 := Lib.hid c2
  have C3 := Lib.hid (fun (W : World) hb hw => @natR_mk w W (Lw B + 1) (B + A) hb (by unfold maxLen; omega) hsum.out hw)
  have HP : Hid (dgs 4294967296 B ++ List.replicate 1 0 = pads 4294967296 (Lw B + 1) B) := pads_copy rfl
  have HM : Hid ((B + A) % 4294967296 ^ (Lw B + 1) = B + A) := Nat.mod_eq_of_lt hsum.out
  clear hA hB c1 c2 hsum hAx
  generalize Lw B = x at *
  generalize Lw A = y at *
  go_enter Tryz.func137, Tryz.ntmps137
  go_wp2_with (first | (at_make; refine mk32 _ rfl _ _ rfl _ _ (x + 1) rfl rfl (by omega) (by omega) (by omega) ?_; intro w1 hb1 hbl1) | (with_reducible refine cp32 rfl _ _ 64 65 rfl Tryz.underlying64 w.heap.size (x + 1) (x + 1) cb q (List.replicate (x + 1) 0) (dgs 4294967296 B) x rfl rfl HAL.out hb1.out (by simp) (by rw [HAL.out]; omega) (HB.out _ _ hbl1 (Nat.le_refl _)) w.heap.size w hbl1 (Nat.le_refl _) ?_; intro w2 hb2 hbl2))
  have hb2' : Hid (Blk w2 w.heap.size 143 (c32 (pads 4294967296 (x + 1) B))) := by
    have := hb2.out
    rw [HAL.out, List.drop_replicate, Nat.add_sub_cancel_left, HP.out] at this
    exact this
  refine (C1.out w2 w.heap.size hb2'.out (HA.out _ _ hbl2 (Nat.le_refl _))).mono ?_
  rintro e w3 ⟨rfl, hb3, hg3⟩
  have hbl3 : Below w.heap.size w w3 := below_grown hbl2 hg3 hbl2.size (Nat.le_refl _)
  rw [HM.out] at hb3
  have hb3' := Lib.hid hb3
  clear hb3
  go_wp2_with fail
  refine (C2.out w3 w.heap.size hb3'.out).mono ?_
  rintro e w4 ⟨rfl, rfl⟩
  go_wp2_with fail
  go_ret
  rw [Nat.add_comm A B]
  exact C3.out _ hb3'.out hbl3
theorem t137 (va vb : Value) (A B : Nat) (w : World) (hA : Nt w va A) (hB : Nt w vb B) (hl : Lw A ≤ 1000000) (hl' : Lw B ≤ 1000000) :
    Calls Tryz.prog 137 #[va, vb] w (NatR (A + B) w) := by
  obtain ⟨p, ca, rfl, _, _, h1⟩ := hA.later
  obtain ⟨q, cb, rfl, _, _, h2⟩ := hB.later
  by_cases hle : Lw B ≤ Lw A
  · exact t137s p q ca cb A B w hl hle h1 h2
  · exact t137x p q ca cb A B w hl' (by omega) h1 h2
end Go.Proofs.YtifhiefdhhmdeaaGreatDoor
