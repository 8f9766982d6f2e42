/- Contracts of raise and lower. -/
import Derived.Test.YtifhiefdhhmdeaaGreatDoorB
namespace Go.Proofs.YtifhiefdhhmdeaaGreatDoor
open Go Go.RowKit

/-- the cell of a window -/
theorem win_get (pre post : List Value) (xs : List Nat) (k : Nat) (hk : k < xs.length) : (pre ++ c32 xs ++ post)[pre.length + k]? = some (.int .u32 xs[k]) := by
  rw [List.append_assoc, List.getElem?_append_right (by omega), Nat.add_sub_cancel_left, List.getElem?_append_left (by simpa using hk)]
  simp [c32, hk]
theorem win_set (pre post : List Value) (xs : List Nat) (k y : Nat) (hk : k < xs.length) : (pre ++ c32 xs ++ post).set (pre.length + k) (.int .u32 y) = pre ++ c32 (xs.set k y) ++ post := by
  rw [List.append_assoc, List.set_append_right _ _ (by omega), Nat.add_sub_cancel_left, List.set_append_left _ _ (by simpa using hk)]
  simp [c32, List.map_set]
theorem add_addr (g off k : Nat) : (⟨g, off, none⟩ : Addr).add k = ⟨g, off + k, none⟩ := by
  unfold Addr.add; split <;> simp_all

/-- words as they are read: digits in the cells of another block -/
def Src (w : World) (g : Nat) (p : Option Addr) (bs : List Nat) : Prop := ∀ k x : Nat, bs[k]? = some x → ∃ gb, p = some ⟨gb, 0, none⟩ ∧ gb ≠ g ∧ w.cell? ⟨gb, k, none⟩ = some (.int .u32 x)
theorem Nt.src {w : World} {v : Value} {n : Nat} (h : Nt w v n) (g : Nat) (hg : v.ownBlock ≠ some g) : ∃ p cap, v = .slice p (dgs 4294967296 n).length cap ∧ (dgs 4294967296 n).length ≤ cap ∧ cap ≤ maxLen ∧ Src w g p (dgs 4294967296 n) := by
  rcases h.read with ⟨rfl, rfl⟩ | ⟨gb, cap, rfl, h1, h2, h3, h4⟩
  · exact ⟨none, 0, rfl, by simp, by simp, fun k x hx => by simp at hx⟩
  · exact ⟨_, cap, rfl, h1, h2, fun k x hx => ⟨gb, rfl, fun e => hg (by simp [Value.ownBlock, e]), h4 k x hx⟩⟩

def RaiseP (g n : Nat) (pre post : List Value) (X Y : Nat) (w : World) (e : Ending) (w' : World) : Prop :=
  e = .returned (.bool (decide (4294967296 ^ n ≤ X + Y))) ∧ Blk w' g 143 (pre ++ c32 (pads 4294967296 n ((X + Y) % 4294967296 ^ n)) ++ post) ∧ w.grownBy w' (some g)
theorem grown_set {w wr : World} {g : Nat} (h : w.grownBy wr (some g)) (k : Nat) (u : Value) : w.grownBy (wr.setCell ⟨g, k, none⟩ u) (some g) :=
  ⟨h.os, h.tape, h.output, by rw [World.size_setCell]; exact h.size, fun j hj hne => by rw [Below.heap_setCell _ _ _ _ (fun e => hne (by simp at e; simp [e]))]; exact h.block j hj hne⟩
theorem grown_refl (w : World) (r : Option Nat) : w.grownBy w r := ⟨rfl, rfl, rfl, Nat.le_refl _, fun _ _ _ => rfl⟩

set_option maxHeartbeats 1000000 in
theorem t160 (g off n cap : Nat) (pre post : List Value) (xs bs : List Nat) (p : Option Addr) (capb : Nat) (w : World) (hpre : pre.length = off) (hn : xs.length = n) (hc : n ≤ 9223372036854775807) (hbl : bs.length ≤ n)
    (hd : ∀ d ∈ xs, d < 4294967296) (hdb : ∀ d ∈ bs, d < 4294967296) (hB : Blk w g 143 (pre ++ c32 xs ++ post)) (hS : Src w g p bs) :
    Calls Tryz.prog 160 #[.slice (some ⟨g, off, none⟩) n cap, .slice p bs.length capb] w (RaiseP g n pre post (val 4294967296 xs) (val 4294967296 bs) w) := by
  have HB := Lib.hid hB
  have HS := Lib.hid hS
  have HP := Lib.hid hpre
  have HN := Lib.hid hn
  have HD := Lib.hid hd
  have HDB := Lib.hid hdb
  clear hB hS hpre hn hd hdb
  go_enter Tryz.func160, Tryz.ntmps160
  go_wp2
  go_loopw [10, 5] (fun i c wr => ∃ (k cv : Nat) (ys : List Nat), k ≤ n ∧ i = .int .i64 k ∧ c = .int .u32 cv ∧ cv ≤ 1 ∧ Hid (ys.length = n) ∧ Hid (∀ d ∈ ys, d < 4294967296) ∧ Hid (val 4294967296 ys + cv * 4294967296 ^ k = val 4294967296 xs + val 4294967296 (bs.take k)) ∧ Hid (Blk wr g 143 (pre ++ c32 ys ++ post)) ∧ w.grownBy wr (some g)) (fun i _ _ => n - (intOf i).toNat)
  case atStart => exact ⟨0, 0, xs, by omega, rfl, rfl, by omega, HN, HD, by show _ = _; simp, HB, grown_refl _ _⟩
  case round =>
    obtain ⟨k, cv, ys, hk, rfl, rfl, hcv, hyl, hyd, hyv, hyb, hgr⟩ := hrel
    by_cases hlt : k < n
    · have hy : k < ys.length := by rw [hyl.out]; exact hlt
      have hcell : wr.cell? ⟨g, off + k, none⟩ = some (.int .u32 ys[k]) := by
        have := hyb.out.cell (pre.length + k) (win_get pre post ys k hy)
        rw [HP.out] at this; exact this
      have hfree : wr.frozen? ⟨g, off + k, none⟩ = false := hyb.out.free _
      have hyk := hyd.out ys[k] (List.getElem_mem hy)
      have hset : ∀ y : Nat, Blk (wr.setCell ⟨g, off + k, none⟩ (.int .u32 y)) g 143 (pre ++ c32 (ys.set k y) ++ post) := fun y => by
        have := hyb.out.set (off + k) (.int .u32 y)
        rw [← HP.out, win_set pre post ys k y hy] at this
        rw [← HP.out]; exact this
      have HSET := Lib.hid hset
      have hstep := raise_step (b := 4294967296) ys bs k cv _ hy hyv.out
      by_cases hbk : k < bs.length
      · obtain ⟨gb, rfl, hne, hcb⟩ := HS.out k bs[k] (List.getElem?_eq_getElem hbk)
        have hcb' : wr.cell? ⟨gb, k, none⟩ = some (.int .u32 bs[k]) := hgr.cell hcb (by simpa using hne)
        have hg : bs.getD k 0 = bs[k] := by simp [List.getD_eq_getElem?_getD, hbk]
        have hbd := HDB.out bs[k] (List.getElem_mem hbk)
        rw [hg] at hstep
        generalize hxv : ys[k] = x at hcell hyk hstep
        generalize hbv : bs[k] = d at hcb hcb' hbd hstep
        have HST := Lib.hid hstep
        have c := t184 x d cv wr hyk hbd hcv
        have hlen := Lib.hid hyl
        clear hstep hset hxv hbv hcb hg
        go_wp2_with (go_at_call 184; refine c.mono ?_; rintro e w' ⟨rfl, rfl⟩)
        go_roundw
        case rel => exact ⟨k + 1, (x + d + cv) / 4294967296, ys.set k ((x + d + cv) % 4294967296), by omega, by go_num, rfl, by omega, by show _ = _; rw [List.length_set]; exact hyl.out, set_lt ys hyd.out _ _ (by omega), HST.out, HSET.out _, grown_set hgr _ _⟩
        case measure => simp [intOf]; omega
      · have hg : bs.getD k 0 = 0 := by simp [List.getD_eq_getElem?_getD, Nat.not_lt.1 hbk]
        rw [hg] at hstep
        generalize hxv : ys[k] = x at hcell hyk hstep
        have HST := Lib.hid hstep
        have c := t184 x 0 cv wr hyk (by omega) hcv
        clear hstep hset hxv hg
        go_wp2_with (go_at_call 184; refine c.mono ?_; rintro e w' ⟨rfl, rfl⟩)
        go_roundw
        case rel => exact ⟨k + 1, (x + 0 + cv) / 4294967296, ys.set k ((x + 0 + cv) % 4294967296), by omega, by go_num, rfl, by omega, by show _ = _; rw [List.length_set]; exact hyl.out, set_lt ys hyd.out _ _ (by omega), HST.out, HSET.out _, grown_set hgr _ _⟩
        case measure => simp [intOf]; omega
    · obtain rfl : k = n := by omega
      have hX : val 4294967296 ys < 4294967296 ^ k := by have := val_lt ys hyd.out; rwa [hyl.out] at this
      have hX2 : val 4294967296 xs < 4294967296 ^ k := by have := val_lt xs HD.out; rwa [HN.out] at this
      have hv := hyv.out
      rw [List.take_of_length_le (by omega)] at hv
      have hY2 : val 4294967296 bs < 4294967296 ^ k := Nat.lt_of_lt_of_le (val_lt bs HDB.out) (Nat.pow_le_pow_right (by omega) hbl)
      have hout := carry_out hX hv hcv (by omega)
      have hpd := pads_eq (b := 4294967296) (by omega) hyd.out hyl.out hout.1
      have hb2 := hyb.out
      rw [hpd] at hb2
      have H1 := Lib.hid hb2
      have H2 := Lib.hid hout.2
      clear hv hX hX2 hY2 hout hpd hb2
      by_cases h1 : cv = 1
      · subst h1
        go_wp2
        go_ret
        refine ⟨?_, H1.out, hgr⟩
        have := H2.out
        by_cases hle : 4294967296 ^ k ≤ val 4294967296 xs + val 4294967296 bs
        · simp [hle]
        · rw [if_neg hle] at this; omega
      · obtain rfl : cv = 0 := by omega
        go_wp2
        go_ret
        refine ⟨?_, H1.out, hgr⟩
        have := H2.out
        by_cases hle : 4294967296 ^ k ≤ val 4294967296 xs + val 4294967296 bs
        · rw [if_pos hle] at this; omega
        · simp [hle]
end Go.Proofs.YtifhiefdhhmdeaaGreatDoor
