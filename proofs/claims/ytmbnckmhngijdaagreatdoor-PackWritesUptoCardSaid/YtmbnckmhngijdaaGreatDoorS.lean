/- Contracts of Pack, Used, Check, Size. -/
import Derived.Test.YtmbnckmhngijdaaGreatDoorR
namespace Go.Proofs.YtmbnckmhngijdaaGreatDoor
open Go Go.RowKit

def PackR (r : Except Nat St) (w : World) (e : Ending) (w' : World) : Prop := e = .returned (.tuple #[.string ⟨(packB r).toArray⟩, .int .i64 (errN r)]) ∧ Below w.heap.size w w'
def UsedR (r : Except Nat St) (w : World) (e : Ending) (w' : World) : Prop := e = .returned (.tuple #[.int .i64 (packN r), .int .i64 (errN r)]) ∧ Below w.heap.size w w'
set_option maxRecDepth 100000 in
set_option maxHeartbeats 1000000 in
theorem t16 (s : ByteArray) (iv : Value) (xs : List Itm) (w : World) (hG : Gl w) (hs : s.size ≤ 100000) (hI : Its w.heap.size w iv xs) (hx : ItsOk xs) :
    Calls Tryz.prog 16 #[.string s, iv] w (PackR (packL s.data.toList xs) w) := by
  have C := t37 s iv xs w hG hs hI hx
  obtain ⟨p, cap, rfl, -, -⟩ := hI
  cases hr : packL s.data.toList xs with
  | error y =>
    rw [hr] at C
    clear hr
    go_enter Tryz.func16, Tryz.ntmps16
    go_wp2_with fail
    refine C.mono ?_
    rintro e w1 ⟨hb, rfl, hy⟩
    have hcv := conv_nil (w1.alloc (.cells #[.slice none 0 0, .int .i64 0, .slice none 0 0] 74)) none 0
    have HB := Lib.hid hb
    clear hb hy
    go_wp2
    go_ret2
    exact ⟨rfl, bAl HB.out _⟩
  | ok st =>
    rw [hr] at C
    clear hr
    go_enter Tryz.func16, Tryz.ntmps16
    go_wp2_with fail
    refine C.mono ?_
    rintro e w1 ⟨hb, bv, rfl, hrow, hbig⟩
    obtain ⟨ab, cb, rfl⟩ := row_slice hrow
    have hcv := conv_row (w1.alloc (.cells #[.slice p xs.length cap, .int .i64 st.2, .slice ab st.1.length cb] 74)) _ _ st.1 (ownsRow_below hrow (bSelf _ _))
    have HB := Lib.hid hb
    clear hb hrow
    go_wp2
    go_ret2
    exact ⟨rfl, bAl HB.out _⟩
set_option maxRecDepth 100000 in
set_option maxHeartbeats 1000000 in
theorem t19 (s : ByteArray) (iv : Value) (xs : List Itm) (w : World) (hG : Gl w) (hs : s.size ≤ 100000) (hI : Its w.heap.size w iv xs) (hx : ItsOk xs) :
    Calls Tryz.prog 19 #[.string s, iv] w (UsedR (packL s.data.toList xs) w) := by
  have C := t37 s iv xs w hG hs hI hx
  obtain ⟨p, cap, rfl, -, -⟩ := hI
  cases hr : packL s.data.toList xs with
  | error y =>
    rw [hr] at C
    clear hr
    go_enter Tryz.func19, Tryz.ntmps19
    go_wp2_with fail
    refine C.mono ?_
    rintro e w1 ⟨hb, rfl, hy⟩
    have HB := Lib.hid hb
    clear hb hy
    go_wp2
    go_ret2
    exact ⟨rfl, bAl HB.out _⟩
  | ok st =>
    rw [hr] at C
    clear hr
    go_enter Tryz.func19, Tryz.ntmps19
    go_wp2_with fail
    refine C.mono ?_
    rintro e w1 ⟨hb, bv, rfl, hrow, hbig⟩
    obtain ⟨ab, cb, rfl⟩ := row_slice hrow
    have HB := Lib.hid hb
    clear hb hrow
    go_wp2
    go_ret2
    exact ⟨rfl, bAl HB.out _⟩
def chkE (l : List UInt8) : Int := match formL l with | none => 4 | some _ => 0
set_option maxHeartbeats 1000000 in
theorem t29 (s : ByteArray) (w : World) (hG : Gl w) (hs : s.size ≤ 100000) :
    Calls Tryz.prog 29 #[.string s] w fun e w' => e = .returned (.int .i64 (chkE s.data.toList)) ∧ Below w.heap.size w w' := by
  have C := t45 s w hG hs
  unfold chkE
  unfold DirsR at C
  cases hf : formL s.data.toList with
  | none =>
    rw [hf] at C
    clear hf
    go_enter Tryz.func29, Tryz.ntmps29
    go_wp2_with fail
    refine C.mono ?_
    rintro e w1 ⟨hb, rfl⟩
    have HB := Lib.hid hb
    clear hb
    go_wp2
    go_ret
    exact ⟨rfl, HB.out⟩
  | some ds =>
    rw [hf] at C
    clear hf
    go_enter Tryz.func29, Tryz.ntmps29
    go_wp2_with fail
    refine C.mono ?_
    rintro e w1 ⟨hb, v, rfl, hds⟩
    have HB := Lib.hid hb
    clear hb hds
    go_wp2
    go_ret
    exact ⟨rfl, HB.out⟩
theorem nx_le (d : Dir) (n : Nat) (hd : d.n ≤ 1000) : (if d.c = 64 then d.n else if d.c = 72 then n + (d.n + 1) / 2 else if numC d.c then n + d.n * sizeC d.c else n + d.n) ≤ n + 8000 := by
  have h := Nat.mul_le_mul hd (sizeC_le d.c)
  repeat' split
  all_goals omega
theorem sizeL_bad {d : Dir} {ds : List Dir} {n : Nat} (h : (d.all || (numC d.c && decide (sizeC d.c = 0))) = true) : sizeL (d :: ds) n = .error 1 := by
  rw [sizeL, if_pos h]
theorem sizeL_good {d : Dir} {ds : List Dir} {n : Nat} (h : (d.all || (numC d.c && decide (sizeC d.c = 0))) = false) : sizeL (d :: ds) n = sizeL ds (if d.c = 64 then d.n else if d.c = 72 then n + (d.n + 1) / 2 else if numC d.c then n + d.n * sizeC d.c else n + d.n) := by
  rw [sizeL, if_neg (by rw [h]; decide)]
def SizR (r : Except Nat Nat) (w : World) (e : Ending) (w' : World) : Prop := e = .returned (.tuple #[.int .i64 (okN r), .int .i64 (errN r)]) ∧ Below w.heap.size w w'
def SizL (ds : List Dir) (W : World) (i z : Value) (wr : World) : Prop :=
  ∃ (j n : Nat), j ≤ ds.length ∧ i = .int .i64 j ∧ z = .int .i64 n ∧ n ≤ j * 10000 ∧ Hid (sizeL (ds.drop j) n = sizeL ds 0) ∧ Hid (Below W.heap.size W wr)
theorem end_eq (d : Dir) (n : Nat) : endI d.c (numC d.c) (sizeC d.c) d.n n = ((if d.c = 64 then d.n else if d.c = 72 then n + (d.n + 1) / 2 else if numC d.c then n + d.n * sizeC d.c else n + d.n : Nat) : Int) := by
  unfold endI
  by_cases h1 : d.c = 64
  · rw [if_pos h1, if_pos h1]
  · rw [if_neg h1, if_neg h1]
    by_cases h2 : d.c = 72
    · rw [if_pos h2, if_pos h2]; omega
    · rw [if_neg h2, if_neg h2]
      cases numC d.c
      · simp
      · simp
set_option maxRecDepth 100000 in
set_option maxHeartbeats 2000000 in
theorem t27 (s : ByteArray) (w : World) (hG : Gl w) (hs : s.size ≤ 100000) : Calls Tryz.prog 27 #[.string s] w (SizR (sizeF s.data.toList) w) := by
  have C := t45 s w hG hs
  unfold DirsR at C
  cases hf : formL s.data.toList with
  | none =>
    have HS : Hid (sizeF s.data.toList = .error 4) := by show _ = _; unfold sizeF; rw [hf]
    rw [hf] at C
    clear hf
    go_enter Tryz.func27, Tryz.ntmps27
    go_wp2_with fail
    refine C.mono ?_
    rintro e w1 ⟨hb, rfl⟩
    have HB := Lib.hid hb
    clear hb
    go_wp2
    go_ret2
    exact ⟨by rw [HS.out]; rfl, HB.out⟩
  | some ds =>
    have HS : Hid (sizeF s.data.toList = sizeL ds 0) := by show _ = _; unfold sizeF; rw [hf]
    obtain ⟨hdl, hdok⟩ := formL_ok hf
    have HDOK := Lib.hid hdok
    rw [hf] at C
    clear hf hdok
    have hdli : (ds.length : Int) ≤ 50 := by omega
    go_enter Tryz.func27, Tryz.ntmps27
    go_wp2_with fail
    refine C.mono ?_
    rintro e w1 ⟨hb, v, rfl, hds⟩
    have HB := Lib.hid hb
    have HDS := Lib.hid hds
    obtain ⟨al, cl, rfl⟩ := row_slice hds
    clear hb hds C
    go_wp2_with fail
    go_loopw [18, 6] (fun i z wr => SizL ds w1 i z wr) (fun i _ _ => ds.length - (intOf i).toNat)
    case atStart => exact ⟨0, 0, Nat.zero_le _, rfl, rfl, by omega, rfl, Below.refl _ _⟩
    case round =>
      obtain ⟨j, n, hj, rfl, rfl, hn, hsz, hbl⟩ := hrel
      have hB := Lib.hid (bThen HB.out hbl.out)
      by_cases hlt : j < ds.length
      · have hlti : (j : Int) < ds.length := by omega
        obtain ⟨d, hd⟩ : ∃ d, ds[j]? = some d := ⟨ds[j], List.getElem?_eq_getElem hlt⟩
        have hdsr : Ds wr w.heap.size (.slice al ds.length cl) ds := ownsRow_below HDS.out hbl.out
        obtain ⟨gl, cl', hsl, hgl, hcl⟩ := hdsr.cell hd
        simp only [Value.slice.injEq] at hsl
        obtain ⟨rfl, _, rfl⟩ := hsl
        have e0 : wr.cell? ⟨gl, j * 6, none⟩ = some (.int .u8 d.c.toNat) := hcl 0 _ rfl
        have e1 := hcl 1 _ rfl
        have e2 := hcl 2 _ rfl
        have e3 := hcl 3 _ rfl
        have e4 := hcl 4 _ rfl
        have e5 := hcl 5 _ rfl
        have hdf := (HDOK.out d (List.mem_of_getElem? hd)).fine
        have hdn := hdf.n
        have hdrop : ds.drop j = d :: ds.drop (j + 1) := by
          rw [List.drop_eq_getElem_cons hlt]; congr 1
          have := List.getElem?_eq_getElem hlt
          rw [hd] at this; exact (Option.some.inj this).symm
        have hr2 := hsz.out
        rw [hdrop] at hr2
        have hb3 := bSelf wr (.cells #[.int .u8 d.c.toNat, .bool (numC d.c), .int .i64 (sizeC d.c), .bool d.great, .bool d.all, .int .i64 d.n] 81)
        have hk3 := Blk.new wr #[.int .u8 d.c.toNat, .bool (numC d.c), .int .i64 (sizeC d.c), .bool d.great, .bool d.all, .int .i64 d.n] 81
        go_upto_region 8 with fail
        generalize wr.alloc (.cells #[.int .u8 d.c.toNat, .bool (numC d.c), .int .i64 (sizeC d.c), .bool d.great, .bool d.all, .int .i64 d.n] 81) = W3 at *
        obtain ⟨d0, d1, d2, d3, d4, d5⟩ := hk3.six
        have HB3 := Lib.hid (bThen hbl.out hb3)
        have HBT := Lib.hid (bThen hB.out hb3)
        obtain ⟨m, hm⟩ : ∃ m : Nat, (if d.c = 64 then d.n else if d.c = 72 then n + (d.n + 1) / 2 else if numC d.c then n + d.n * sizeC d.c else n + d.n) = m := ⟨_, rfl⟩
        have EE := end_eq d n
        have hml := nx_le d n hdn
        rw [hm] at EE hml
        have C46 := fun W => t46 d.c (numC d.c) d.all d.great (sizeC d.c) d.n n W hdn (sizeC_le d.c) (by omega)
        rw [EE] at C46
        have hgood : (d.all || (numC d.c && decide (sizeC d.c = 0))) = false → Hid (sizeL (ds.drop (j + 1)) m = sizeL ds 0) := fun h => by
          show _ = _; rw [← hr2, sizeL_good h, hm]
        have HGOOD := Lib.hid hgood
        have hbad : (d.all || (numC d.c && decide (sizeC d.c = 0))) = true → Hid (sizeL ds 0 = .error 1) := fun h => by
          show _ = _; rw [← hr2]; exact sizeL_bad h
        have HBAD := Lib.hid hbad
        clear hm EE hr2 hb3 hk3 hgood hbad hcl
        cases hal : d.all with
        | true =>
          have HE := HBAD.out (by rw [hal]; rfl)
          clear HBAD HGOOD C46
          rw [hal] at d4
          clear hal
          go_wp2
          go_ret2
          exact ⟨by rw [HS.out, HE.out]; rfl, HBT.out⟩
        | false =>
          cases hnb : numC d.c with
          | false =>
            have HG := HGOOD.out (by rw [hal, hnb]; rfl)
            clear HBAD HGOOD
            rw [hal] at d4 C46
            rw [hnb] at d1 C46
            clear hal hnb
            go_wp2_with fail
            refine (C46 _).mono ?_
            rintro e4 w4 ⟨rfl, hb4⟩
            have HB4 := Lib.hid (bThen HB3.out hb4)
            clear hb4
            go_wp2
            go_roundw
            case rel => exact ⟨j + 1, m, by omega, by go_num, rfl, by omega, HG, HB4⟩
            case measure => simp [intOf]; omega
          | true =>
            by_cases h0 : sizeC d.c = 0
            · have HE := HBAD.out (by rw [hal, hnb, h0]; rfl)
              clear HBAD HGOOD C46
              rw [hal] at d4
              rw [hnb] at d1
              rw [h0] at d2
              clear hal hnb h0
              go_wp2
              go_ret2
              exact ⟨by rw [HS.out, HE.out]; rfl, HBT.out⟩
            · have HG := HGOOD.out (by rw [hal, hnb, decide_eq_false h0]; rfl)
              clear HBAD HGOOD
              have hz : ((sizeC d.c : Int) == 0) = false := by rw [beq_eq_false_iff_ne]; omega
              rw [hal] at d4 C46
              rw [hnb] at d1 C46
              clear hal hnb h0
              go_wp2_with fail
              refine (C46 _).mono ?_
              rintro e4 w4 ⟨rfl, hb4⟩
              have HB4 := Lib.hid (bThen HB3.out hb4)
              clear hb4
              go_wp2
              go_roundw
              case rel => exact ⟨j + 1, m, by omega, by go_num, rfl, by omega, HG, HB4⟩
              case measure => simp [intOf]; omega
      · obtain rfl : ds.length = j := by omega
        have hr2 := hsz.out
        rw [List.drop_length] at hr2
        have HE : Hid (sizeL ds 0 = .ok n) := hr2.symm
        clear hr2 hlt
        go_wp2
        go_ret2
        exact ⟨by rw [HS.out, HE.out]; rfl, hB.out⟩
end Go.Proofs.YtmbnckmhngijdaaGreatDoor
