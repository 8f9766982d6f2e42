/- Contract of extended: one more digit, in place. -/
import Derived.Test.YtifhiefdhhmdeaaGreatDoorK
namespace Go.Proofs.YtifhiefdhhmdeaaGreatDoor
open Go Go.RowKit

/-- words of the call's own -/
def Own32 (w : World) (B : Nat) (v : Value) (n : Nat) : Prop := w.ownsRow B 143 1 v (Lw n) (c32 (dgs 4294967296 n))
theorem Own32.nt {w : World} {B : Nat} {v : Value} {n : Nat} (h : Own32 w B v n) : Nt w v n := ownsRow_mono h (Nat.zero_le _)
def ExtR (B M : Nat) (w : World) (e : Ending) (w' : World) : Prop := ∃ v, e = .returned v ∧ Own32 w' B v M ∧ Below B w w'

/-- one step of a product by a digit, in place -/
theorem ext_step {b : Nat} (ys xs : List Nat) (k C d base : Nat) (hk : k < ys.length) (hk' : k < xs.length) (hd : ys.drop k = xs.drop k)
    (hv : val b (ys.take k) + C * b ^ k = d + base * val b (xs.take k)) :
    val b ((ys.set k ((C + xs[k] * base) % b)).take (k + 1)) + ((C + xs[k] * base) / b) * b ^ (k + 1) = d + base * val b (xs.take (k + 1)) ∧ (ys.set k ((C + xs[k] * base) % b)).drop (k + 1) = xs.drop (k + 1) ∧ ys[k] = xs[k] := by
  have h1 := List.drop_eq_getElem_cons hk
  have h2 := List.drop_eq_getElem_cons hk'
  rw [h1, h2] at hd
  obtain ⟨e1, e2⟩ := List.cons.inj hd
  refine ⟨?_, by rw [drop_set_succ, e2], e1⟩
  rw [take_set_succ ys k _ hk, val_snoc, List.length_take, Nat.min_eq_left (Nat.le_of_lt hk), val_take_succ b xs k hk', Nat.pow_succ]
  have h3 := Nat.mod_add_div (C + xs[k] * base) b
  generalize (C + xs[k] * base) % b = m at *
  generalize (C + xs[k] * base) / b = q at *
  generalize xs[k] = x at *
  generalize b ^ k = P at *
  have h4 : P * (m + b * q) = P * (C + x * base) := by rw [h3]
  grind
/-- the end: a word more, or none -/
theorem ext_end {b : Nat} (hb : 2 ≤ b) (N d base C : Nat) (ys : List Nat) (hN : base ≠ 0) (hl : ys.length = (dgs b N).length) (hy : ∀ z ∈ ys, z < b) (hC : C < b)
    (hv : val b ys + C * b ^ ys.length = d + base * N) (hd : N = 0 → C = d) :
    if C = 0 then dgs b (N * base + d) = ys else dgs b (N * base + d) = ys ++ [C] := by
  have hM : N * base + d = d + base * N := by rw [Nat.mul_comm]; omega
  rw [hM]
  split
  · rename_i h0
    subst h0
    rw [Nat.zero_mul, Nat.add_zero] at hv
    rw [← hv]
    have h1 : (dgs b (val b ys)).length = ys.length := by
      have h2 : (dgs b (val b ys)).length ≤ ys.length := (dgs_length_le hb _ _).2 (val_lt ys hy)
      have h3 : (dgs b N).length ≤ (dgs b (val b ys)).length := dgs_length_mono hb (by
        rw [hv]
        have : 1 * N ≤ base * N := Nat.mul_le_mul_right _ (by omega)
        omega)
      omega
    have h2 := dgs_take hb ys hy
    rw [h1, List.take_of_length_le (Nat.le_refl _)] at h2
    exact h2.symm
  · rename_i h0
    have h1 : val b (ys ++ [C]) = d + base * N := by rw [val_snoc, ← hv, Nat.mul_comm]
    rw [← h1]
    refine dgs_val hb _ (fun z hz => ?_) (fun z hz => ?_)
    · rcases List.mem_append.1 hz with h | h
      · exact hy z h
      · rw [List.mem_singleton.1 h]; exact hC
    · rw [List.getLast?_concat] at hz
      have : C = z := by simpa using hz
      omega
theorem Lw_ext (N base d : Nat) (hb : base < 4294967296) (hd : d < 4294967296) : Lw (N * base + d) ≤ Lw N + 2 := by
  have h1 := Lw_mul N base
  have h2 := Lw_small hb
  have h3 := Lw_small hd
  have h4 := Lw_add (N * base) d
  omega
theorem below_setCell_ge {B : Nat} {a w : World} (h : Below B a w) {g j : Nat} (hg : B ≤ g) (u : Value) : Below B a (w.setCell ⟨g, j, none⟩ u) := h.setCell hg u

theorem own_of {w : World} {B : Nat} {v : Value} {M n : Nat} {ys : List Nat} (hd : dgs 4294967296 M = ys) (hn : ys.length = n) (h : w.ownsRow B 143 1 v n (c32 ys)) : Own32 w B v M := by
  unfold Own32 Lw; rw [hd, hn]; exact h
theorem one_new (w : World) (v : Value) (t : TypeId) : ∀ j u, [v][j]? = some u → (w.alloc (.cells #[v] t)).cell? ((⟨w.heap.size, 0, none⟩ : Addr).add j) = some u := by
  intro j u hu
  rw [add_addr, Nat.zero_add]
  exact (Blk.new w #[v] t).cell j hu
theorem app32 {w : World} {ops : Array Oper} {rest : List Oper} {o : Oper} {a : Act} {Q : Exit → Act → World → Prop} (hgd : o.guard = none) (s x : Operand)
    (ho : o.op = .call { callee := .builtin .append, args := #[s, x], argTypes := #[64, 64] }) (base : Nat) (v : Value) (n : Nat) (ys : List Nat) (hs : a.eval s = v) (hown : w.ownsRow base 143 1 v n (c32 ys))
    (g c C : Nat) (hx : a.eval x = .slice (some ⟨g, 0, none⟩) 1 c) (hc : w.cell? ⟨g, 0, none⟩ = some (.int .u32 C)) (hn : n ≤ 1000000) (hbase : base ≤ w.heap.size)
    (h : ∀ v' w', Hid (w'.ownsRow base 143 1 v' (n + 1) (c32 (ys ++ [C]))) → Hid (w.grownBy w' v.ownBlock) → wpList Tryz.prog ops Q rest (a.put o.dst v') w') :
    wpList Tryz.prog ops Q (o :: rest) a w := by
  obtain ⟨i0, hi, hz0, hz1, hz2⟩ := info_parts info143
  refine wpList_append_own w hgd s x 64 ho base 143 i0 (.int .u32 0) 1 4 Tryz.underlying64 hi hz0 hz1 hz2 rfl (by decide) v n (c32 ys) hs hown ⟨g, 0, none⟩ 1 c [.int .u32 (C : Int)] hx rfl ?_ (by simp [Value.oneCell']) (by unfold maxLen; omega) (by omega) hbase (fun v' w' h1 h2 _ => h v' w' ?_ h2)
  · intro j u hu
    rw [add_addr, Nat.zero_add]
    cases j with
    | zero => simp at hu; rw [← hu]; exact hc
    | succ j => simp at hu
  · show World.ownsRow _ _ _ _ _ _ _
    rw [c32, List.map_append]
    exact h1
set_option maxRecDepth 100000 in
set_option maxHeartbeats 2000000 in
theorem t130 (v : Value) (N base d B : Nat) (w : World) (hv : Own32 w B v N) (hB : B ≤ w.heap.size) (hl : Lw N ≤ 100000) (hb1 : 0 < base) (hb : base ≤ 36) (hd : d < base) :
    Calls Tryz.prog 130 #[v, .int .i64 base, .int .i64 d] w (ExtR B (N * base + d) w) := by
  have HNV : Hid (val 4294967296 (dgs 4294967296 N) = N) := val_dgs (by omega) N
  have HNL : Hid ((dgs 4294967296 N).length = Lw N) := rfl
  obtain ⟨hlen, h2 | ⟨g, cs, h2, h3, h4, h5, h6, h7, h8⟩⟩ := row_cases hv
  · have hN0 : N = 0 := by
      have := h2.2.1
      rcases Nat.eq_zero_or_pos N with h | h
      · exact h
      · have := Lw_pos h; omega
    subst hN0
    obtain ⟨rfl, -, -⟩ := h2
    clear hv hlen HNV HNL
    have e1 : 0 * base + d = d := by omega
    rw [e1]
    clear e1
    by_cases hd0 : (d : Int) ≤ 0
    · have HD : Hid (d = 0) := by show _ = _; omega
      go_enter Tryz.func130, Tryz.ntmps130
      go_wp2
      go_loop [14, 7] (fun i c => ∃ k : Nat, k ≤ 0 ∧ i = .int .i64 k ∧ c = .int .u64 d) (fun i _ => 0 - (intOf i).toNat)
      case atStart => exact ⟨0, Nat.le_refl _, rfl, rfl⟩
      case round =>
        obtain ⟨k, hk, rfl, rfl⟩ := hrel
        obtain rfl : k = 0 := by omega
        go_wp2
        go_ret
        rw [HD.out]
        exact ⟨_, rfl, World.ownsRow_nil _ _ _ _, Below.refl _ _⟩
    · have hdp : (0 : Int) < d := by omega
      have hd32 : d < 4294967296 := by omega
      have HD : Hid (dgs 4294967296 d = [d]) := by
        show _ = _
        rw [dgs_pos (by omega) (by omega), Nat.mod_eq_of_lt (by omega), Nat.div_eq_of_lt (by omega)]; rfl
      clear hl hb hb1 hd hd0
      go_enter Tryz.func130, Tryz.ntmps130
      go_wp2
      go_loop [14, 7] (fun i c => ∃ k : Nat, k ≤ 0 ∧ i = .int .i64 k ∧ c = .int .u64 d) (fun i _ => 0 - (intOf i).toNat)
      case atStart => exact ⟨0, Nat.le_refl _, rfl, rfl⟩
      case round =>
        obtain ⟨k, hk, rfl, rfl⟩ := hrel
        obtain rfl : k = 0 := by omega
        go_wp2_with (at_builtin; refine app32 rfl _ _ rfl B (.slice none 0 0) _ [] rfl ((World.ownsRow_nil w B 143 1).alloc _) w.heap.size 1 d rfl ((Blk.new w _ 143).cell 0 rfl) (by omega) (Nat.le_trans hB (by simp)) ?_; intro v' w4 hown' hgrow)
        go_ret
        refine ⟨_, rfl, ?_, (((Below.refl B w).alloc hB _).grown hgrow.out (Nat.le_trans hB (by simp)) (fun q hq => absurd hq (by simp [Value.ownBlock])))⟩
        exact own_of HD.out rfl hown'.out
  · subst h2
    obtain ⟨post, hcs⟩ : ∃ post, cs = c32 (dgs 4294967296 N) ++ post := ⟨cs.drop (Lw N), by rw [← h8, List.take_append_drop]⟩
    have hcl : (c32 (dgs 4294967296 N) ++ post).length = cs.length := by rw [← hcs]
    rw [hcs] at h5
    have hcap : cs.length ≤ 9223372036854775807 := by unfold maxLen at h7; exact h7
    generalize cs.length = cap at *
    have HBLK := Lib.hid h5
    have HCL := Lib.hid hcl
    have hm32 : (base : Int) < 4294967296 := by omega
    have hLe := Lw_ext N base d (by omega) (by omega)
    have HE := Lib.hid (fun C ys hl hy hC hv hd' => ext_end (b := 4294967296) (by omega) N d base C ys (by omega) hl hy hC hv hd')
    clear hv hlen hcs h8 h5 hcl
    generalize hX : Lw N = n at *
    have HX := Lib.hid hX
    clear hX
    go_enter Tryz.func130, Tryz.ntmps130
    go_wp2
    go_loopw [14, 7] (fun i c wr => ∃ (k C : Nat) (ys : List Nat), k ≤ n ∧ i = .int .i64 k ∧ c = .int .u64 C ∧ C < 4294967296 ∧ Hid (ys.length = n) ∧ Hid (∀ z ∈ ys, z < 4294967296) ∧ Hid (ys.drop k = (dgs 4294967296 N).drop k) ∧ Hid (val 4294967296 (ys.take k) + C * 4294967296 ^ k = d + base * val 4294967296 ((dgs 4294967296 N).take k)) ∧ Hid (k = 0 → C = d) ∧ Hid (Blk wr g 143 (c32 ys ++ post)) ∧ Below B w wr) (fun i _ _ => n - (intOf i).toNat)
    case atStart => exact ⟨0, d, dgs 4294967296 N, by omega, rfl, rfl, by omega, HNL, dgs_lt (by omega) N, rfl, by show _ = _; simp, fun _ => rfl, HBLK, Below.refl _ _⟩
    case round =>
      obtain ⟨k, C, ys, hk, rfl, rfl, hC, hyl, hyd, hdr, hyv, hC0, hyb, hbl⟩ := hrel
      by_cases hlt : k < n
      · have hky : k < ys.length := by rw [hyl.out]; exact hlt
        have hkx : k < (dgs 4294967296 N).length := by rw [HNL.out]; exact hlt
        have hst := ext_step (b := 4294967296) ys (dgs 4294967296 N) k C d base hky hkx hdr.out hyv.out
        have hx1 := dgs_lt (b := 4294967296) (by omega) N _ (List.getElem_mem hkx)
        have hcell : wr.cell? ⟨g, k, none⟩ = some (.int .u32 (ys[k] : Nat)) := hyb.out.cell k (by rw [List.getElem?_append_left (by simpa using hky)]; simp [c32, hky])
        have hfree : wr.frozen? ⟨g, k, none⟩ = false := hyb.out.free _
        have hset : ∀ z : Nat, Blk (wr.setCell ⟨g, k, none⟩ (.int .u32 z)) g 143 (c32 (ys.set k z) ++ post) := fun z => by
          have := hyb.out.set k (.int .u32 z)
          rw [List.set_append_left _ _ (by simpa using hky), c32, ← List.map_set] at this
          exact this
        rw [hst.2.2] at hcell
        generalize (dgs 4294967296 N)[k] = x at hst hx1 hcell
        have HST := Lib.hid hst
        have HSET := Lib.hid hset
        have hmul : x * base ≤ 154618822620 := Nat.le_trans (Nat.mul_le_mul (show x ≤ 4294967295 by omega) hb) (by decide)
        have hz0' : (0 : Int) ≤ (x : Int) * (base : Int) := Int.mul_nonneg (by omega) (by omega)
        have hz1' : (x : Int) * (base : Int) ≤ 154618822620 := by have h := Int.ofNat_le.2 hmul; rw [Int.natCast_mul] at h; omega
        have HC1 : Hid (((C : Int) + (x : Int) * base) / 4294967296 = (((C + x * base) / 4294967296 : Nat) : Int)) := by show _ = _; omega
        have HC2 : Hid (((C : Int) + (x : Int) * base) % 4294967296 = (((C + x * base) % 4294967296 : Nat) : Int)) := by show _ = _; omega
        have hq : (C + x * base) / 4294967296 < 4294967296 := by omega
        clear hst hset
        go_wp2
        go_roundw
        case rel => exact ⟨k + 1, (C + x * base) / 4294967296, ys.set k ((C + x * base) % 4294967296), by omega, by go_num, congrArg (Value.int .u64) HC1.out, hq, by show _ = _; rw [List.length_set]; exact hyl.out, set_lt ys hyd.out _ _ (Nat.mod_lt _ (by omega)), HST.out.2.1, HST.out.1, fun h => absurd h (by omega), by show Blk _ _ _ _; rw [HC2.out]; exact HSET.out _, hbl.setCell h3 _⟩
        case measure => first | (simp [intOf]; omega) | simp [intOf]
      · obtain rfl : k = n := by omega
        have hv2 := hyv.out
        rw [List.take_of_length_le (by rw [hyl.out]; omega), List.take_of_length_le (by rw [HNL.out]; omega), HNV.out] at hv2
        have hend := HE.out C ys (by rw [hyl.out, HNL.out]) hyd.out hC (by rw [hyl.out]; exact hv2) (fun h => hC0.out (by rw [← HX.out, h]; rfl))
        have hrow : wr.ownsRow B 143 1 (.slice (some ⟨g, 0, none⟩) k cap) k (c32 ys) := by
          have h9 := hyb.out.row (base := B) (n := k) h3 (by simp [hyl.out]) (by
            have := HCL.out
            rw [List.length_append, List.length_map] at this ⊢
            rw [hyl.out]
            have h10 := HNL.out
            unfold maxLen; omega)
          rw [List.length_append, List.length_map, hyl.out, List.take_append_of_le_length (by simp [hyl.out]), List.take_of_length_le (by simp [hyl.out])] at h9
          have h11 := HCL.out
          rw [List.length_append, List.length_map, HNL.out] at h11
          rw [h11] at h9
          exact h9
        have HROW := Lib.hid hrow
        clear hv2 hrow
        clear h7 hcap hm32 hLe hb hd hb1
        by_cases hc0 : (C : Int) ≤ 0
        · rw [if_pos (by omega)] at hend
          have HEND := Lib.hid hend
          clear hend
          go_wp2
          go_ret
          exact ⟨_, rfl, own_of HEND.out hyl.out HROW.out, hbl⟩
        · have hcp : (0 : Int) < C := by omega
          rw [if_neg (by omega)] at hend
          have HEND := Lib.hid hend
          have hbs := hbl.size
          clear hend hc0
          go_wp2_with (at_builtin; refine app32 rfl _ _ rfl B (.slice (some ⟨g, 0, none⟩) k cap) _ ys rfl (HROW.out.alloc _) wr.heap.size 1 C rfl ((Blk.new wr _ 143).cell 0 rfl) (by omega) (by simp; omega) ?_; intro v' w4 hown' hgrow)
          go_ret
          refine ⟨_, rfl, ?_, (hbl.alloc (by omega) _).grown hgrow.out (by simp; omega) (fun q hq => by have h8 : g = q := (by simpa [Value.ownBlock] using hq); omega)⟩
          exact own_of HEND.out (by rw [List.length_append, hyl.out]; rfl) hown'.out
end Go.Proofs.YtifhiefdhhmdeaaGreatDoor
