/- Contracts of Add, Sub, Mul, Compare, Div. -/
import Derived.Test.YtifhiefdhhmdeaaGreatDoorZE
namespace Go.Proofs.YtifhiefdhhmdeaaGreatDoor
open Go Go.RowKit

set_option maxRecDepth 100000 in
set_option maxHeartbeats 1000000 in
theorem t33 (s t : ByteArray) (w : World) : Calls Tryz.prog 33 #[.string s, .string t] w (RkR s.data.toList t.data.toList (.tuple #[.string ⟨#[]⟩, .int .i64 1]) (fun x y => .tuple #[.string (toldS (x + y)), .int .i64 (toldE (x + y))]) w) := by
  go_enter Tryz.func33, Tryz.ntmps33
  go_wp2_with fail
  refine (r63_90 s t w).mono ?_
  rintro e w1 (⟨hv, rfl, hb⟩ | ⟨x, y, hx, hy, rfl, hb⟩)
  · have HV := Lib.hid hv
    clear hv
    go_wp2_with fail
    go_ret2
    exact .inl ⟨HV.out, rfl, hb⟩
  · have HX := Lib.hid hx
    have HY := Lib.hid hy
    clear hx hy
    go_wp2_with fail
    go_ret2
    exact .inr ⟨x, y, HX.out, HY.out, rfl, hb⟩
set_option maxRecDepth 100000 in
set_option maxHeartbeats 1000000 in
theorem t34 (s t : ByteArray) (w : World) : Calls Tryz.prog 34 #[.string s, .string t] w (RkR s.data.toList t.data.toList (.tuple #[.string ⟨#[]⟩, .int .i64 1]) (fun x y => .tuple #[.string (toldS (x - y)), .int .i64 (toldE (x - y))]) w) := by
  go_enter Tryz.func34, Tryz.ntmps34
  go_wp2_with fail
  refine (r63_92 s t w).mono ?_
  rintro e w1 (⟨hv, rfl, hb⟩ | ⟨x, y, hx, hy, rfl, hb⟩)
  · have HV := Lib.hid hv
    clear hv
    go_wp2_with fail
    go_ret2
    exact .inl ⟨HV.out, rfl, hb⟩
  · have HX := Lib.hid hx
    have HY := Lib.hid hy
    clear hx hy
    go_wp2_with fail
    go_ret2
    exact .inr ⟨x, y, HX.out, HY.out, rfl, hb⟩
set_option maxRecDepth 100000 in
set_option maxHeartbeats 1000000 in
theorem t35 (s t : ByteArray) (w : World) : Calls Tryz.prog 35 #[.string s, .string t] w (RkR s.data.toList t.data.toList (.tuple #[.string ⟨#[]⟩, .int .i64 1]) (fun x y => .tuple #[.string (toldS (x * y)), .int .i64 (toldE (x * y))]) w) := by
  go_enter Tryz.func35, Tryz.ntmps35
  go_wp2_with fail
  refine (r63_94 s t w).mono ?_
  rintro e w1 (⟨hv, rfl, hb⟩ | ⟨x, y, hx, hy, rfl, hb⟩)
  · have HV := Lib.hid hv
    clear hv
    go_wp2_with fail
    go_ret2
    exact .inl ⟨HV.out, rfl, hb⟩
  · have HX := Lib.hid hx
    have HY := Lib.hid hy
    clear hx hy
    go_wp2_with fail
    go_ret2
    exact .inr ⟨x, y, HX.out, HY.out, rfl, hb⟩
set_option maxRecDepth 100000 in
set_option maxHeartbeats 1000000 in
theorem t37 (s t : ByteArray) (w : World) : Calls Tryz.prog 37 #[.string s, .string t] w (RkR s.data.toList t.data.toList (.tuple #[.int .i64 0, .int .i64 1]) (fun x y => .tuple #[.int .i64 (cmpZ x y), .int .i64 0]) w) := by
  go_enter Tryz.func37, Tryz.ntmps37
  go_wp2_with fail
  refine (r99_100 s t w).mono ?_
  rintro e w1 (⟨hv, rfl, hb⟩ | ⟨x, y, hx, hy, rfl, hb⟩)
  · have HV := Lib.hid hv
    clear hv
    go_wp2_with fail
    go_ret2
    exact .inl ⟨HV.out, rfl, hb⟩
  · have HX := Lib.hid hx
    have HY := Lib.hid hy
    clear hx hy
    go_wp2_with fail
    go_ret2
    exact .inr ⟨x, y, HX.out, HY.out, rfl, hb⟩
def DivT (x y : Int) : Value := if y = 0 then .tuple #[.string ⟨#[]⟩, .string ⟨#[]⟩, .int .i64 11] else .tuple #[.string ⟨(txtZ 10 (fq x y)).toArray⟩, .string ⟨(txtZ 10 (fr x y)).toArray⟩, .int .i64 0]
theorem DivT_form (x y : Int) : ∃ u v : ByteArray, ∃ n : Int, DivV x y = .tuple #[.agg #[.string u, .string v], .int .i64 n] ∧ DivT x y = .tuple #[.string u, .string v, .int .i64 n] := by
  unfold DivV DivT
  split
  · exact ⟨_, _, _, rfl, rfl⟩
  · exact ⟨_, _, _, rfl, rfl⟩
set_option maxRecDepth 100000 in
set_option maxHeartbeats 1000000 in
theorem t36 (s t : ByteArray) (w : World) : Calls Tryz.prog 36 #[.string s, .string t] w (RkR s.data.toList t.data.toList (.tuple #[.string ⟨#[]⟩, .string ⟨#[]⟩, .int .i64 1]) DivT w) := by
  go_enter Tryz.func36, Tryz.ntmps36
  go_wp2_with fail
  refine (r96 s t w).mono ?_
  rintro e w1 (⟨hv, rfl, hb⟩ | ⟨x, y, hx, hy, rfl, hb⟩)
  · have HV := Lib.hid hv
    clear hv
    go_wp2_with fail
    have hk := Blk.new w1 #[.string ⟨#[]⟩, .string ⟨#[]⟩] 32
    have r0 := hk.cell 0 rfl
    have r1 := hk.cell 1 rfl
    have HB := Lib.hid (hb.alloc hb.size (.cells #[.string ⟨#[]⟩, .string ⟨#[]⟩] 32))
    clear hk hb
    go_quiet (fail)
    go_wp2_with fail
    go_ret3
    exact .inl ⟨HV.out, rfl, below_drewN HB.out _⟩
  · have HX := Lib.hid hx
    have HY := Lib.hid hy
    obtain ⟨u1, u2, ue, h1, h2⟩ := DivT_form x y
    rw [h1]
    have H2 := Lib.hid h2
    clear hx hy h1 h2
    go_wp2_with fail
    have hk := Blk.new w1 #[.string u1, .string u2] 32
    have r0 := hk.cell 0 rfl
    have r1 := hk.cell 1 rfl
    have HB := Lib.hid (hb.alloc hb.size (.cells #[.string u1, .string u2] 32))
    clear hk hb
    go_quiet (fail)
    go_wp2_with fail
    go_ret3
    exact .inr ⟨x, y, HX.out, HY.out, by rw [H2.out]; rfl, below_drewN HB.out _⟩
end Go.Proofs.YtifhiefdhhmdeaaGreatDoor
