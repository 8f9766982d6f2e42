/- Contract of readCount: digits. -/
import Derived.Test.YtmbnckmhngijdaaGreatDoorC
namespace Go.Proofs.YtmbnckmhngijdaaGreatDoor
open Go Go.RowKit
set_option maxRecDepth 100000 in
set_option maxHeartbeats 2000000 in
theorem t69_0g2f (g : Nat) (c : UInt8) (a b d : Value) (s r t : ByteArray) (T : List UInt8) (x : UInt8) (V : Nat) (te : TypeId) (pe : Value) (w : World) (hpos : 0 < t.size) (_hx0 : t[0]'hpos = x)
    (cP : ∀ w, Calls Tryz.prog 92 #[.string s, .string ⟨#[42]⟩] w fun e w' => e = .returned (.tuple #[.string ⟨T.toArray⟩, .bool false]) ∧ w' = w)
    (cT : ∀ w, Calls Tryz.prog 91 #[.string s, .string ⟨#[48, 49, 50, 51, 52, 53, 54, 55, 56, 57]⟩] w fun e w' => e = .returned (.string r) ∧ Below w.heap.size w w')
    (h : Blk w g 81 [.int .u8 c.toNat, a, b, d, .bool false, .int .i64 0]) (her : w.cell? ⟨2, 0, none⟩ = some (.iface te pe)) (hemp : t.toList.isEmpty = false)
    (hs : s.size ≤ 100000) (hsub2 : (s.size : Int) - (r.size : Int) = t.size) (hts : t.size ≤ s.size) (hext2 : s.extract 0 t.size = t)
    (d1 : ((c.toNat : Int) == 64) = true) (_hg : 0 ≤ V) (hg2 : 1000 < V) (cA : ∀ W, (∃ te pe, W.cell? ⟨2, 0, none⟩ = some (.iface te pe)) → Calls Tryz.prog 93 #[.string t] W fun e W' => ∃ ev, e = .returned (.tuple #[.int .i64 V, ev]) ∧ ev = .nilIface ∧ Below W.heap.size W W') :
    Calls Tryz.prog 69 #[.pointer (some ⟨g, 0, none⟩), .string s] w fun e w' => e = .returned (.tuple #[.string r, .bool false]) ∧ Blk w' g 81 [.int .u8 c.toNat, a, b, d, .bool false, .int .i64 V] ∧ Below g w w' := by
  obtain ⟨h0, h1, h2, h3, h4, h5⟩ := h.six
  have HB := Lib.hid h
  clear h
  have hg' : (0 : Int) ≤ V := by omega
  have hd1 : decide ((0 : Int) ≤ V) = true := decide_eq_true (by omega)
  have hd2 : decide ((V : Int) ≤ 1000) = false := decide_eq_false (by omega)
  go_enter Tryz.func69, Tryz.ntmps69
  go_wp2_with fail
  refine (cP _).mono ?_
  rintro e1 w1 ⟨rfl, rfl⟩
  go_wp2_with fail
  refine (cT _).mono ?_
  rintro e2 w2 ⟨rfl, hb2⟩
  have K2 := HB.out.below hb2 HB.out.lt
  have B2 := hb2.mono (Nat.le_of_lt HB.out.lt)
  have her2 := below_cell hb2 her
  have HK := Lib.hid K2
  clear hb2 K2
  go_wp2_with fail
  refine (cA _ ⟨te, pe, her2⟩).mono ?_
  rintro e3 w3 ⟨ev, rfl, hev, hb3⟩
  obtain rfl := hev
  have K3 := HK.out.below hb3 HK.out.lt
  have B3 := B2.trans (hb3.mono (Nat.le_of_lt HK.out.lt))
  obtain ⟨h0, h1, h2, h3, h4, h5⟩ := K3.six
  have f5 := K3.free 5
  have K4 := K3.set 5 (.int .i64 V)
  have B4 := bSet B3 g 5 (Nat.le_refl g) (.int .i64 V)
  have HK4 := Lib.hid K4
  clear hb3 K3 K4 B3 B2
  go_upto_region 15 with fail
  go_quiet (fail)
  go_wp2
  go_ret2
  exact ⟨rfl, HK4.out, below_drewN B4 _⟩
set_option maxRecDepth 100000 in
set_option maxHeartbeats 2000000 in
theorem t69_0g3t (g : Nat) (c : UInt8) (a b d : Value) (s r t : ByteArray) (T : List UInt8) (x : UInt8) (V : Nat) (te : TypeId) (pe : Value) (w : World) (hpos : 0 < t.size) (_hx0 : t[0]'hpos = x)
    (cP : ∀ w, Calls Tryz.prog 92 #[.string s, .string ⟨#[42]⟩] w fun e w' => e = .returned (.tuple #[.string ⟨T.toArray⟩, .bool false]) ∧ w' = w)
    (cT : ∀ w, Calls Tryz.prog 91 #[.string s, .string ⟨#[48, 49, 50, 51, 52, 53, 54, 55, 56, 57]⟩] w fun e w' => e = .returned (.string r) ∧ Below w.heap.size w w')
    (h : Blk w g 81 [.int .u8 c.toNat, a, b, d, .bool false, .int .i64 0]) (her : w.cell? ⟨2, 0, none⟩ = some (.iface te pe)) (hemp : t.toList.isEmpty = false)
    (hs : s.size ≤ 100000) (hsub2 : (s.size : Int) - (r.size : Int) = t.size) (hts : t.size ≤ s.size) (hext2 : s.extract 0 t.size = t)
    (d1 : ((c.toNat : Int) == 64) = true) (hg : 0 ≤ V) (hg2 : V ≤ 1000) (h48 : (t.toList == [48]) = true) (cA : ∀ W, (∃ te pe, W.cell? ⟨2, 0, none⟩ = some (.iface te pe)) → Calls Tryz.prog 93 #[.string t] W fun e W' => ∃ ev, e = .returned (.tuple #[.int .i64 V, ev]) ∧ ev = .nilIface ∧ Below W.heap.size W W') :
    Calls Tryz.prog 69 #[.pointer (some ⟨g, 0, none⟩), .string s] w fun e w' => e = .returned (.tuple #[.string r, .bool true]) ∧ Blk w' g 81 [.int .u8 c.toNat, a, b, d, .bool false, .int .i64 V] ∧ Below g w w' := by
  obtain ⟨h0, h1, h2, h3, h4, h5⟩ := h.six
  have HB := Lib.hid h
  clear h
  have hg' : (0 : Int) ≤ V := by omega
  have hd1 : decide ((0 : Int) ≤ V) = true := decide_eq_true (by omega)
  have hd2 : decide ((V : Int) ≤ 1000) = true := decide_eq_true (by omega)
  go_enter Tryz.func69, Tryz.ntmps69
  go_wp2_with fail
  refine (cP _).mono ?_
  rintro e1 w1 ⟨rfl, rfl⟩
  go_wp2_with fail
  refine (cT _).mono ?_
  rintro e2 w2 ⟨rfl, hb2⟩
  have K2 := HB.out.below hb2 HB.out.lt
  have B2 := hb2.mono (Nat.le_of_lt HB.out.lt)
  have her2 := below_cell hb2 her
  have HK := Lib.hid K2
  clear hb2 K2
  go_wp2_with fail
  refine (cA _ ⟨te, pe, her2⟩).mono ?_
  rintro e3 w3 ⟨ev, rfl, hev, hb3⟩
  obtain rfl := hev
  have K3 := HK.out.below hb3 HK.out.lt
  have B3 := B2.trans (hb3.mono (Nat.le_of_lt HK.out.lt))
  obtain ⟨h0, h1, h2, h3, h4, h5⟩ := K3.six
  have f5 := K3.free 5
  have K4 := K3.set 5 (.int .i64 V)
  have B4 := bSet B3 g 5 (Nat.le_refl g) (.int .i64 V)
  have HK4 := Lib.hid K4
  clear hb3 K3 K4 B3 B2
  go_upto_region 15 with fail
  go_quiet (fail)
  go_wp2
  go_ret2
  exact ⟨rfl, HK4.out, below_drewN B4 _⟩
set_option maxRecDepth 100000 in
set_option maxHeartbeats 2000000 in
theorem t69_0g4t (g : Nat) (c : UInt8) (a b d : Value) (s r t : ByteArray) (T : List UInt8) (x : UInt8) (V : Nat) (te : TypeId) (pe : Value) (w : World) (hpos : 0 < t.size) (hx0 : t[0]'hpos = x)
    (cP : ∀ w, Calls Tryz.prog 92 #[.string s, .string ⟨#[42]⟩] w fun e w' => e = .returned (.tuple #[.string ⟨T.toArray⟩, .bool false]) ∧ w' = w)
    (cT : ∀ w, Calls Tryz.prog 91 #[.string s, .string ⟨#[48, 49, 50, 51, 52, 53, 54, 55, 56, 57]⟩] w fun e w' => e = .returned (.string r) ∧ Below w.heap.size w w')
    (h : Blk w g 81 [.int .u8 c.toNat, a, b, d, .bool false, .int .i64 0]) (her : w.cell? ⟨2, 0, none⟩ = some (.iface te pe)) (hemp : t.toList.isEmpty = false)
    (hs : s.size ≤ 100000) (hsub2 : (s.size : Int) - (r.size : Int) = t.size) (hts : t.size ≤ s.size) (hext2 : s.extract 0 t.size = t)
    (d1 : ((c.toNat : Int) == 64) = true) (hg : 0 ≤ V) (hg2 : V ≤ 1000) (h48 : (t.toList == [48]) = false) (hx : ((x.toNat : Int) == 48) = false) (cA : ∀ W, (∃ te pe, W.cell? ⟨2, 0, none⟩ = some (.iface te pe)) → Calls Tryz.prog 93 #[.string t] W fun e W' => ∃ ev, e = .returned (.tuple #[.int .i64 V, ev]) ∧ ev = .nilIface ∧ Below W.heap.size W W') :
    Calls Tryz.prog 69 #[.pointer (some ⟨g, 0, none⟩), .string s] w fun e w' => e = .returned (.tuple #[.string r, .bool true]) ∧ Blk w' g 81 [.int .u8 c.toNat, a, b, d, .bool false, .int .i64 V] ∧ Below g w w' := by
  obtain ⟨h0, h1, h2, h3, h4, h5⟩ := h.six
  have HB := Lib.hid h
  clear h
  have hg' : (0 : Int) ≤ V := by omega
  have hd1 : decide ((0 : Int) ≤ V) = true := decide_eq_true (by omega)
  have hd2 : decide ((V : Int) ≤ 1000) = true := decide_eq_true (by omega)
  have hxn : ((x.toNat : Int) != 48) = true := by simp only [bne, hx, Bool.not_false]
  go_enter Tryz.func69, Tryz.ntmps69
  go_wp2_with fail
  refine (cP _).mono ?_
  rintro e1 w1 ⟨rfl, rfl⟩
  go_wp2_with fail
  refine (cT _).mono ?_
  rintro e2 w2 ⟨rfl, hb2⟩
  have K2 := HB.out.below hb2 HB.out.lt
  have B2 := hb2.mono (Nat.le_of_lt HB.out.lt)
  have her2 := below_cell hb2 her
  have HK := Lib.hid K2
  clear hb2 K2
  go_wp2_with fail
  refine (cA _ ⟨te, pe, her2⟩).mono ?_
  rintro e3 w3 ⟨ev, rfl, hev, hb3⟩
  obtain rfl := hev
  have K3 := HK.out.below hb3 HK.out.lt
  have B3 := B2.trans (hb3.mono (Nat.le_of_lt HK.out.lt))
  obtain ⟨h0, h1, h2, h3, h4, h5⟩ := K3.six
  have f5 := K3.free 5
  have K4 := K3.set 5 (.int .i64 V)
  have B4 := bSet B3 g 5 (Nat.le_refl g) (.int .i64 V)
  have HK4 := Lib.hid K4
  clear hb3 K3 K4 B3 B2
  go_upto_region 15 with fail
  go_quiet (fail)
  go_wp2
  go_ret2
  exact ⟨rfl, HK4.out, below_drewN B4 _⟩
set_option maxRecDepth 100000 in
set_option maxHeartbeats 2000000 in
theorem t69_0g4f (g : Nat) (c : UInt8) (a b d : Value) (s r t : ByteArray) (T : List UInt8) (x : UInt8) (V : Nat) (te : TypeId) (pe : Value) (w : World) (hpos : 0 < t.size) (hx0 : t[0]'hpos = x)
    (cP : ∀ w, Calls Tryz.prog 92 #[.string s, .string ⟨#[42]⟩] w fun e w' => e = .returned (.tuple #[.string ⟨T.toArray⟩, .bool false]) ∧ w' = w)
    (cT : ∀ w, Calls Tryz.prog 91 #[.string s, .string ⟨#[48, 49, 50, 51, 52, 53, 54, 55, 56, 57]⟩] w fun e w' => e = .returned (.string r) ∧ Below w.heap.size w w')
    (h : Blk w g 81 [.int .u8 c.toNat, a, b, d, .bool false, .int .i64 0]) (her : w.cell? ⟨2, 0, none⟩ = some (.iface te pe)) (hemp : t.toList.isEmpty = false)
    (hs : s.size ≤ 100000) (hsub2 : (s.size : Int) - (r.size : Int) = t.size) (hts : t.size ≤ s.size) (hext2 : s.extract 0 t.size = t)
    (d1 : ((c.toNat : Int) == 64) = true) (hg : 0 ≤ V) (hg2 : V ≤ 1000) (h48 : (t.toList == [48]) = false) (hx : ((x.toNat : Int) == 48) = true) (cA : ∀ W, (∃ te pe, W.cell? ⟨2, 0, none⟩ = some (.iface te pe)) → Calls Tryz.prog 93 #[.string t] W fun e W' => ∃ ev, e = .returned (.tuple #[.int .i64 V, ev]) ∧ ev = .nilIface ∧ Below W.heap.size W W') :
    Calls Tryz.prog 69 #[.pointer (some ⟨g, 0, none⟩), .string s] w fun e w' => e = .returned (.tuple #[.string r, .bool false]) ∧ Blk w' g 81 [.int .u8 c.toNat, a, b, d, .bool false, .int .i64 V] ∧ Below g w w' := by
  obtain ⟨h0, h1, h2, h3, h4, h5⟩ := h.six
  have HB := Lib.hid h
  clear h
  have hg' : (0 : Int) ≤ V := by omega
  have hd1 : decide ((0 : Int) ≤ V) = true := decide_eq_true (by omega)
  have hd2 : decide ((V : Int) ≤ 1000) = true := decide_eq_true (by omega)
  have hxn : ((x.toNat : Int) != 48) = false := by simp only [bne, hx, Bool.not_true]
  go_enter Tryz.func69, Tryz.ntmps69
  go_wp2_with fail
  refine (cP _).mono ?_
  rintro e1 w1 ⟨rfl, rfl⟩
  go_wp2_with fail
  refine (cT _).mono ?_
  rintro e2 w2 ⟨rfl, hb2⟩
  have K2 := HB.out.below hb2 HB.out.lt
  have B2 := hb2.mono (Nat.le_of_lt HB.out.lt)
  have her2 := below_cell hb2 her
  have HK := Lib.hid K2
  clear hb2 K2
  go_wp2_with fail
  refine (cA _ ⟨te, pe, her2⟩).mono ?_
  rintro e3 w3 ⟨ev, rfl, hev, hb3⟩
  obtain rfl := hev
  have K3 := HK.out.below hb3 HK.out.lt
  have B3 := B2.trans (hb3.mono (Nat.le_of_lt HK.out.lt))
  obtain ⟨h0, h1, h2, h3, h4, h5⟩ := K3.six
  have f5 := K3.free 5
  have K4 := K3.set 5 (.int .i64 V)
  have B4 := bSet B3 g 5 (Nat.le_refl g) (.int .i64 V)
  have HK4 := Lib.hid K4
  clear hb3 K3 K4 B3 B2
  go_upto_region 15 with fail
  go_quiet (fail)
  go_wp2
  go_ret2
  exact ⟨rfl, HK4.out, below_drewN B4 _⟩
set_option maxRecDepth 100000 in
set_option maxHeartbeats 2000000 in
theorem t69_0range (g : Nat) (c : UInt8) (a b d : Value) (s r t : ByteArray) (T : List UInt8) (x : UInt8) (V : Int) (te : TypeId) (pe : Value) (w : World) (hpos : 0 < t.size) (_hx0 : t[0]'hpos = x)
    (cP : ∀ w, Calls Tryz.prog 92 #[.string s, .string ⟨#[42]⟩] w fun e w' => e = .returned (.tuple #[.string ⟨T.toArray⟩, .bool false]) ∧ w' = w)
    (cT : ∀ w, Calls Tryz.prog 91 #[.string s, .string ⟨#[48, 49, 50, 51, 52, 53, 54, 55, 56, 57]⟩] w fun e w' => e = .returned (.string r) ∧ Below w.heap.size w w')
    (h : Blk w g 81 [.int .u8 c.toNat, a, b, d, .bool false, .int .i64 0]) (her : w.cell? ⟨2, 0, none⟩ = some (.iface te pe)) (hemp : t.toList.isEmpty = false)
    (hs : s.size ≤ 100000) (hsub2 : (s.size : Int) - (r.size : Int) = t.size) (hts : t.size ≤ s.size) (hext2 : s.extract 0 t.size = t)
    (d1 : ((c.toNat : Int) == 64) = true) (cA : ∀ W, (∃ te pe, W.cell? ⟨2, 0, none⟩ = some (.iface te pe)) → Calls Tryz.prog 93 #[.string t] W fun e W' => ∃ ev, e = .returned (.tuple #[.int .i64 V, ev]) ∧ (∃ N, ev = .iface 169 (.pointer (some ⟨N, 0, none⟩))) ∧ Below W.heap.size W W') :
    Calls Tryz.prog 69 #[.pointer (some ⟨g, 0, none⟩), .string s] w fun e w' => e = .returned (.tuple #[.string r, .bool false]) ∧ Below g w w' := by
  obtain ⟨h0, h1, h2, h3, h4, h5⟩ := h.six
  have HB := Lib.hid h
  clear h
  go_enter Tryz.func69, Tryz.ntmps69
  go_wp2_with fail
  refine (cP _).mono ?_
  rintro e1 w1 ⟨rfl, rfl⟩
  go_wp2_with fail
  refine (cT _).mono ?_
  rintro e2 w2 ⟨rfl, hb2⟩
  have K2 := HB.out.below hb2 HB.out.lt
  have B2 := hb2.mono (Nat.le_of_lt HB.out.lt)
  have her2 := below_cell hb2 her
  have HK := Lib.hid K2
  clear hb2 K2
  go_wp2_with fail
  refine (cA _ ⟨te, pe, her2⟩).mono ?_
  rintro e3 w3 ⟨ev, rfl, hev, hb3⟩
  obtain ⟨N, rfl⟩ := hev
  have K3 := HK.out.below hb3 HK.out.lt
  have B3 := B2.trans (hb3.mono (Nat.le_of_lt HK.out.lt))
  obtain ⟨h0, h1, h2, h3, h4, h5⟩ := K3.six
  have f5 := K3.free 5
  have K4 := K3.set 5 (.int .i64 V)
  have B4 := bSet B3 g 5 (Nat.le_refl g) (.int .i64 V)
  have HK4 := Lib.hid K4
  clear hb3 K3 K4 B3 B2
  go_upto_region 15 with fail
  go_quiet (fail)
  go_wp2
  go_ret2
  exact ⟨rfl, below_drewN B4 _⟩
set_option maxRecDepth 100000 in
set_option maxHeartbeats 2000000 in
theorem t69_1g1f (g : Nat) (c : UInt8) (a b d : Value) (s r t : ByteArray) (T : List UInt8) (x : UInt8) (V : Nat) (te : TypeId) (pe : Value) (w : World) (hpos : 0 < t.size) (_hx0 : t[0]'hpos = x)
    (cP : ∀ w, Calls Tryz.prog 92 #[.string s, .string ⟨#[42]⟩] w fun e w' => e = .returned (.tuple #[.string ⟨T.toArray⟩, .bool false]) ∧ w' = w)
    (cT : ∀ w, Calls Tryz.prog 91 #[.string s, .string ⟨#[48, 49, 50, 51, 52, 53, 54, 55, 56, 57]⟩] w fun e w' => e = .returned (.string r) ∧ Below w.heap.size w w')
    (h : Blk w g 81 [.int .u8 c.toNat, a, b, d, .bool false, .int .i64 0]) (her : w.cell? ⟨2, 0, none⟩ = some (.iface te pe)) (hemp : t.toList.isEmpty = false)
    (hs : s.size ≤ 100000) (hsub2 : (s.size : Int) - (r.size : Int) = t.size) (hts : t.size ≤ s.size) (hext2 : s.extract 0 t.size = t)
    (d1 : ((c.toNat : Int) == 64) = false) (hg : V < 1) (cA : ∀ W, (∃ te pe, W.cell? ⟨2, 0, none⟩ = some (.iface te pe)) → Calls Tryz.prog 93 #[.string t] W fun e W' => ∃ ev, e = .returned (.tuple #[.int .i64 V, ev]) ∧ ev = .nilIface ∧ Below W.heap.size W W') :
    Calls Tryz.prog 69 #[.pointer (some ⟨g, 0, none⟩), .string s] w fun e w' => e = .returned (.tuple #[.string r, .bool false]) ∧ Blk w' g 81 [.int .u8 c.toNat, a, b, d, .bool false, .int .i64 V] ∧ Below g w w' := by
  obtain ⟨h0, h1, h2, h3, h4, h5⟩ := h.six
  have HB := Lib.hid h
  clear h
  have hg' : (V : Int) < 1 := by omega
  have hd1 : decide ((1 : Int) ≤ V) = false := decide_eq_false (by omega)
  go_enter Tryz.func69, Tryz.ntmps69
  go_wp2_with fail
  refine (cP _).mono ?_
  rintro e1 w1 ⟨rfl, rfl⟩
  go_wp2_with fail
  refine (cT _).mono ?_
  rintro e2 w2 ⟨rfl, hb2⟩
  have K2 := HB.out.below hb2 HB.out.lt
  have B2 := hb2.mono (Nat.le_of_lt HB.out.lt)
  have her2 := below_cell hb2 her
  have HK := Lib.hid K2
  clear hb2 K2
  go_wp2_with fail
  refine (cA _ ⟨te, pe, her2⟩).mono ?_
  rintro e3 w3 ⟨ev, rfl, hev, hb3⟩
  obtain rfl := hev
  have K3 := HK.out.below hb3 HK.out.lt
  have B3 := B2.trans (hb3.mono (Nat.le_of_lt HK.out.lt))
  obtain ⟨h0, h1, h2, h3, h4, h5⟩ := K3.six
  have f5 := K3.free 5
  have K4 := K3.set 5 (.int .i64 V)
  have B4 := bSet B3 g 5 (Nat.le_refl g) (.int .i64 V)
  have HK4 := Lib.hid K4
  clear hb3 K3 K4 B3 B2
  go_upto_region 15 with fail
  go_quiet (fail)
  go_wp2
  go_ret2
  exact ⟨rfl, HK4.out, below_drewN B4 _⟩
set_option maxRecDepth 100000 in
set_option maxHeartbeats 2000000 in
theorem t69_1g2f (g : Nat) (c : UInt8) (a b d : Value) (s r t : ByteArray) (T : List UInt8) (x : UInt8) (V : Nat) (te : TypeId) (pe : Value) (w : World) (hpos : 0 < t.size) (_hx0 : t[0]'hpos = x)
    (cP : ∀ w, Calls Tryz.prog 92 #[.string s, .string ⟨#[42]⟩] w fun e w' => e = .returned (.tuple #[.string ⟨T.toArray⟩, .bool false]) ∧ w' = w)
    (cT : ∀ w, Calls Tryz.prog 91 #[.string s, .string ⟨#[48, 49, 50, 51, 52, 53, 54, 55, 56, 57]⟩] w fun e w' => e = .returned (.string r) ∧ Below w.heap.size w w')
    (h : Blk w g 81 [.int .u8 c.toNat, a, b, d, .bool false, .int .i64 0]) (her : w.cell? ⟨2, 0, none⟩ = some (.iface te pe)) (hemp : t.toList.isEmpty = false)
    (hs : s.size ≤ 100000) (hsub2 : (s.size : Int) - (r.size : Int) = t.size) (hts : t.size ≤ s.size) (hext2 : s.extract 0 t.size = t)
    (d1 : ((c.toNat : Int) == 64) = false) (_hg : 1 ≤ V) (hg2 : 1000 < V) (cA : ∀ W, (∃ te pe, W.cell? ⟨2, 0, none⟩ = some (.iface te pe)) → Calls Tryz.prog 93 #[.string t] W fun e W' => ∃ ev, e = .returned (.tuple #[.int .i64 V, ev]) ∧ ev = .nilIface ∧ Below W.heap.size W W') :
    Calls Tryz.prog 69 #[.pointer (some ⟨g, 0, none⟩), .string s] w fun e w' => e = .returned (.tuple #[.string r, .bool false]) ∧ Blk w' g 81 [.int .u8 c.toNat, a, b, d, .bool false, .int .i64 V] ∧ Below g w w' := by
  obtain ⟨h0, h1, h2, h3, h4, h5⟩ := h.six
  have HB := Lib.hid h
  clear h
  have hg' : (1 : Int) ≤ V := by omega
  have hd1 : decide ((1 : Int) ≤ V) = true := decide_eq_true (by omega)
  have hd2 : decide ((V : Int) ≤ 1000) = false := decide_eq_false (by omega)
  go_enter Tryz.func69, Tryz.ntmps69
  go_wp2_with fail
  refine (cP _).mono ?_
  rintro e1 w1 ⟨rfl, rfl⟩
  go_wp2_with fail
  refine (cT _).mono ?_
  rintro e2 w2 ⟨rfl, hb2⟩
  have K2 := HB.out.below hb2 HB.out.lt
  have B2 := hb2.mono (Nat.le_of_lt HB.out.lt)
  have her2 := below_cell hb2 her
  have HK := Lib.hid K2
  clear hb2 K2
  go_wp2_with fail
  refine (cA _ ⟨te, pe, her2⟩).mono ?_
  rintro e3 w3 ⟨ev, rfl, hev, hb3⟩
  obtain rfl := hev
  have K3 := HK.out.below hb3 HK.out.lt
  have B3 := B2.trans (hb3.mono (Nat.le_of_lt HK.out.lt))
  obtain ⟨h0, h1, h2, h3, h4, h5⟩ := K3.six
  have f5 := K3.free 5
  have K4 := K3.set 5 (.int .i64 V)
  have B4 := bSet B3 g 5 (Nat.le_refl g) (.int .i64 V)
  have HK4 := Lib.hid K4
  clear hb3 K3 K4 B3 B2
  go_upto_region 15 with fail
  go_quiet (fail)
  go_wp2
  go_ret2
  exact ⟨rfl, HK4.out, below_drewN B4 _⟩
set_option maxRecDepth 100000 in
set_option maxHeartbeats 2000000 in
theorem t69_1g3t (g : Nat) (c : UInt8) (a b d : Value) (s r t : ByteArray) (T : List UInt8) (x : UInt8) (V : Nat) (te : TypeId) (pe : Value) (w : World) (hpos : 0 < t.size) (_hx0 : t[0]'hpos = x)
    (cP : ∀ w, Calls Tryz.prog 92 #[.string s, .string ⟨#[42]⟩] w fun e w' => e = .returned (.tuple #[.string ⟨T.toArray⟩, .bool false]) ∧ w' = w)
    (cT : ∀ w, Calls Tryz.prog 91 #[.string s, .string ⟨#[48, 49, 50, 51, 52, 53, 54, 55, 56, 57]⟩] w fun e w' => e = .returned (.string r) ∧ Below w.heap.size w w')
    (h : Blk w g 81 [.int .u8 c.toNat, a, b, d, .bool false, .int .i64 0]) (her : w.cell? ⟨2, 0, none⟩ = some (.iface te pe)) (hemp : t.toList.isEmpty = false)
    (hs : s.size ≤ 100000) (hsub2 : (s.size : Int) - (r.size : Int) = t.size) (hts : t.size ≤ s.size) (hext2 : s.extract 0 t.size = t)
    (d1 : ((c.toNat : Int) == 64) = false) (hg : 1 ≤ V) (hg2 : V ≤ 1000) (h48 : (t.toList == [48]) = true) (cA : ∀ W, (∃ te pe, W.cell? ⟨2, 0, none⟩ = some (.iface te pe)) → Calls Tryz.prog 93 #[.string t] W fun e W' => ∃ ev, e = .returned (.tuple #[.int .i64 V, ev]) ∧ ev = .nilIface ∧ Below W.heap.size W W') :
    Calls Tryz.prog 69 #[.pointer (some ⟨g, 0, none⟩), .string s] w fun e w' => e = .returned (.tuple #[.string r, .bool true]) ∧ Blk w' g 81 [.int .u8 c.toNat, a, b, d, .bool false, .int .i64 V] ∧ Below g w w' := by
  obtain ⟨h0, h1, h2, h3, h4, h5⟩ := h.six
  have HB := Lib.hid h
  clear h
  have hg' : (1 : Int) ≤ V := by omega
  have hd1 : decide ((1 : Int) ≤ V) = true := decide_eq_true (by omega)
  have hd2 : decide ((V : Int) ≤ 1000) = true := decide_eq_true (by omega)
  go_enter Tryz.func69, Tryz.ntmps69
  go_wp2_with fail
  refine (cP _).mono ?_
  rintro e1 w1 ⟨rfl, rfl⟩
  go_wp2_with fail
  refine (cT _).mono ?_
  rintro e2 w2 ⟨rfl, hb2⟩
  have K2 := HB.out.below hb2 HB.out.lt
  have B2 := hb2.mono (Nat.le_of_lt HB.out.lt)
  have her2 := below_cell hb2 her
  have HK := Lib.hid K2
  clear hb2 K2
  go_wp2_with fail
  refine (cA _ ⟨te, pe, her2⟩).mono ?_
  rintro e3 w3 ⟨ev, rfl, hev, hb3⟩
  obtain rfl := hev
  have K3 := HK.out.below hb3 HK.out.lt
  have B3 := B2.trans (hb3.mono (Nat.le_of_lt HK.out.lt))
  obtain ⟨h0, h1, h2, h3, h4, h5⟩ := K3.six
  have f5 := K3.free 5
  have K4 := K3.set 5 (.int .i64 V)
  have B4 := bSet B3 g 5 (Nat.le_refl g) (.int .i64 V)
  have HK4 := Lib.hid K4
  clear hb3 K3 K4 B3 B2
  go_upto_region 15 with fail
  go_quiet (fail)
  go_wp2
  go_ret2
  exact ⟨rfl, HK4.out, below_drewN B4 _⟩
set_option maxRecDepth 100000 in
set_option maxHeartbeats 2000000 in
theorem t69_1g4t (g : Nat) (c : UInt8) (a b d : Value) (s r t : ByteArray) (T : List UInt8) (x : UInt8) (V : Nat) (te : TypeId) (pe : Value) (w : World) (hpos : 0 < t.size) (hx0 : t[0]'hpos = x)
    (cP : ∀ w, Calls Tryz.prog 92 #[.string s, .string ⟨#[42]⟩] w fun e w' => e = .returned (.tuple #[.string ⟨T.toArray⟩, .bool false]) ∧ w' = w)
    (cT : ∀ w, Calls Tryz.prog 91 #[.string s, .string ⟨#[48, 49, 50, 51, 52, 53, 54, 55, 56, 57]⟩] w fun e w' => e = .returned (.string r) ∧ Below w.heap.size w w')
    (h : Blk w g 81 [.int .u8 c.toNat, a, b, d, .bool false, .int .i64 0]) (her : w.cell? ⟨2, 0, none⟩ = some (.iface te pe)) (hemp : t.toList.isEmpty = false)
    (hs : s.size ≤ 100000) (hsub2 : (s.size : Int) - (r.size : Int) = t.size) (hts : t.size ≤ s.size) (hext2 : s.extract 0 t.size = t)
    (d1 : ((c.toNat : Int) == 64) = false) (hg : 1 ≤ V) (hg2 : V ≤ 1000) (h48 : (t.toList == [48]) = false) (hx : ((x.toNat : Int) == 48) = false) (cA : ∀ W, (∃ te pe, W.cell? ⟨2, 0, none⟩ = some (.iface te pe)) → Calls Tryz.prog 93 #[.string t] W fun e W' => ∃ ev, e = .returned (.tuple #[.int .i64 V, ev]) ∧ ev = .nilIface ∧ Below W.heap.size W W') :
    Calls Tryz.prog 69 #[.pointer (some ⟨g, 0, none⟩), .string s] w fun e w' => e = .returned (.tuple #[.string r, .bool true]) ∧ Blk w' g 81 [.int .u8 c.toNat, a, b, d, .bool false, .int .i64 V] ∧ Below g w w' := by
  obtain ⟨h0, h1, h2, h3, h4, h5⟩ := h.six
  have HB := Lib.hid h
  clear h
  have hg' : (1 : Int) ≤ V := by omega
  have hd1 : decide ((1 : Int) ≤ V) = true := decide_eq_true (by omega)
  have hd2 : decide ((V : Int) ≤ 1000) = true := decide_eq_true (by omega)
  have hxn : ((x.toNat : Int) != 48) = true := by simp only [bne, hx, Bool.not_false]
  go_enter Tryz.func69, Tryz.ntmps69
  go_wp2_with fail
  refine (cP _).mono ?_
  rintro e1 w1 ⟨rfl, rfl⟩
  go_wp2_with fail
  refine (cT _).mono ?_
  rintro e2 w2 ⟨rfl, hb2⟩
  have K2 := HB.out.below hb2 HB.out.lt
  have B2 := hb2.mono (Nat.le_of_lt HB.out.lt)
  have her2 := below_cell hb2 her
  have HK := Lib.hid K2
  clear hb2 K2
  go_wp2_with fail
  refine (cA _ ⟨te, pe, her2⟩).mono ?_
  rintro e3 w3 ⟨ev, rfl, hev, hb3⟩
  obtain rfl := hev
  have K3 := HK.out.below hb3 HK.out.lt
  have B3 := B2.trans (hb3.mono (Nat.le_of_lt HK.out.lt))
  obtain ⟨h0, h1, h2, h3, h4, h5⟩ := K3.six
  have f5 := K3.free 5
  have K4 := K3.set 5 (.int .i64 V)
  have B4 := bSet B3 g 5 (Nat.le_refl g) (.int .i64 V)
  have HK4 := Lib.hid K4
  clear hb3 K3 K4 B3 B2
  go_upto_region 15 with fail
  go_quiet (fail)
  go_wp2
  go_ret2
  exact ⟨rfl, HK4.out, below_drewN B4 _⟩
set_option maxRecDepth 100000 in
set_option maxHeartbeats 2000000 in
theorem t69_1g4f (g : Nat) (c : UInt8) (a b d : Value) (s r t : ByteArray) (T : List UInt8) (x : UInt8) (V : Nat) (te : TypeId) (pe : Value) (w : World) (hpos : 0 < t.size) (hx0 : t[0]'hpos = x)
    (cP : ∀ w, Calls Tryz.prog 92 #[.string s, .string ⟨#[42]⟩] w fun e w' => e = .returned (.tuple #[.string ⟨T.toArray⟩, .bool false]) ∧ w' = w)
    (cT : ∀ w, Calls Tryz.prog 91 #[.string s, .string ⟨#[48, 49, 50, 51, 52, 53, 54, 55, 56, 57]⟩] w fun e w' => e = .returned (.string r) ∧ Below w.heap.size w w')
    (h : Blk w g 81 [.int .u8 c.toNat, a, b, d, .bool false, .int .i64 0]) (her : w.cell? ⟨2, 0, none⟩ = some (.iface te pe)) (hemp : t.toList.isEmpty = false)
    (hs : s.size ≤ 100000) (hsub2 : (s.size : Int) - (r.size : Int) = t.size) (hts : t.size ≤ s.size) (hext2 : s.extract 0 t.size = t)
    (d1 : ((c.toNat : Int) == 64) = false) (hg : 1 ≤ V) (hg2 : V ≤ 1000) (h48 : (t.toList == [48]) = false) (hx : ((x.toNat : Int) == 48) = true) (cA : ∀ W, (∃ te pe, W.cell? ⟨2, 0, none⟩ = some (.iface te pe)) → Calls Tryz.prog 93 #[.string t] W fun e W' => ∃ ev, e = .returned (.tuple #[.int .i64 V, ev]) ∧ ev = .nilIface ∧ Below W.heap.size W W') :
    Calls Tryz.prog 69 #[.pointer (some ⟨g, 0, none⟩), .string s] w fun e w' => e = .returned (.tuple #[.string r, .bool false]) ∧ Blk w' g 81 [.int .u8 c.toNat, a, b, d, .bool false, .int .i64 V] ∧ Below g w w' := by
  obtain ⟨h0, h1, h2, h3, h4, h5⟩ := h.six
  have HB := Lib.hid h
  clear h
  have hg' : (1 : Int) ≤ V := by omega
  have hd1 : decide ((1 : Int) ≤ V) = true := decide_eq_true (by omega)
  have hd2 : decide ((V : Int) ≤ 1000) = true := decide_eq_true (by omega)
  have hxn : ((x.toNat : Int) != 48) = false := by simp only [bne, hx, Bool.not_true]
  go_enter Tryz.func69, Tryz.ntmps69
  go_wp2_with fail
  refine (cP _).mono ?_
  rintro e1 w1 ⟨rfl, rfl⟩
  go_wp2_with fail
  refine (cT _).mono ?_
  rintro e2 w2 ⟨rfl, hb2⟩
  have K2 := HB.out.below hb2 HB.out.lt
  have B2 := hb2.mono (Nat.le_of_lt HB.out.lt)
  have her2 := below_cell hb2 her
  have HK := Lib.hid K2
  clear hb2 K2
  go_wp2_with fail
  refine (cA _ ⟨te, pe, her2⟩).mono ?_
  rintro e3 w3 ⟨ev, rfl, hev, hb3⟩
  obtain rfl := hev
  have K3 := HK.out.below hb3 HK.out.lt
  have B3 := B2.trans (hb3.mono (Nat.le_of_lt HK.out.lt))
  obtain ⟨h0, h1, h2, h3, h4, h5⟩ := K3.six
  have f5 := K3.free 5
  have K4 := K3.set 5 (.int .i64 V)
  have B4 := bSet B3 g 5 (Nat.le_refl g) (.int .i64 V)
  have HK4 := Lib.hid K4
  clear hb3 K3 K4 B3 B2
  go_upto_region 15 with fail
  go_quiet (fail)
  go_wp2
  go_ret2
  exact ⟨rfl, HK4.out, below_drewN B4 _⟩
set_option maxRecDepth 100000 in
set_option maxHeartbeats 2000000 in
theorem t69_1range (g : Nat) (c : UInt8) (a b d : Value) (s r t : ByteArray) (T : List UInt8) (x : UInt8) (V : Int) (te : TypeId) (pe : Value) (w : World) (hpos : 0 < t.size) (_hx0 : t[0]'hpos = x)
    (cP : ∀ w, Calls Tryz.prog 92 #[.string s, .string ⟨#[42]⟩] w fun e w' => e = .returned (.tuple #[.string ⟨T.toArray⟩, .bool false]) ∧ w' = w)
    (cT : ∀ w, Calls Tryz.prog 91 #[.string s, .string ⟨#[48, 49, 50, 51, 52, 53, 54, 55, 56, 57]⟩] w fun e w' => e = .returned (.string r) ∧ Below w.heap.size w w')
    (h : Blk w g 81 [.int .u8 c.toNat, a, b, d, .bool false, .int .i64 0]) (her : w.cell? ⟨2, 0, none⟩ = some (.iface te pe)) (hemp : t.toList.isEmpty = false)
    (hs : s.size ≤ 100000) (hsub2 : (s.size : Int) - (r.size : Int) = t.size) (hts : t.size ≤ s.size) (hext2 : s.extract 0 t.size = t)
    (d1 : ((c.toNat : Int) == 64) = false) (cA : ∀ W, (∃ te pe, W.cell? ⟨2, 0, none⟩ = some (.iface te pe)) → Calls Tryz.prog 93 #[.string t] W fun e W' => ∃ ev, e = .returned (.tuple #[.int .i64 V, ev]) ∧ (∃ N, ev = .iface 169 (.pointer (some ⟨N, 0, none⟩))) ∧ Below W.heap.size W W') :
    Calls Tryz.prog 69 #[.pointer (some ⟨g, 0, none⟩), .string s] w fun e w' => e = .returned (.tuple #[.string r, .bool false]) ∧ Below g w w' := by
  obtain ⟨h0, h1, h2, h3, h4, h5⟩ := h.six
  have HB := Lib.hid h
  clear h
  go_enter Tryz.func69, Tryz.ntmps69
  go_wp2_with fail
  refine (cP _).mono ?_
  rintro e1 w1 ⟨rfl, rfl⟩
  go_wp2_with fail
  refine (cT _).mono ?_
  rintro e2 w2 ⟨rfl, hb2⟩
  have K2 := HB.out.below hb2 HB.out.lt
  have B2 := hb2.mono (Nat.le_of_lt HB.out.lt)
  have her2 := below_cell hb2 her
  have HK := Lib.hid K2
  clear hb2 K2
  go_wp2_with fail
  refine (cA _ ⟨te, pe, her2⟩).mono ?_
  rintro e3 w3 ⟨ev, rfl, hev, hb3⟩
  obtain ⟨N, rfl⟩ := hev
  have K3 := HK.out.below hb3 HK.out.lt
  have B3 := B2.trans (hb3.mono (Nat.le_of_lt HK.out.lt))
  obtain ⟨h0, h1, h2, h3, h4, h5⟩ := K3.six
  have f5 := K3.free 5
  have K4 := K3.set 5 (.int .i64 V)
  have B4 := bSet B3 g 5 (Nat.le_refl g) (.int .i64 V)
  have HK4 := Lib.hid K4
  clear hb3 K3 K4 B3 B2
  go_upto_region 15 with fail
  go_quiet (fail)
  go_wp2
  go_ret2
  exact ⟨rfl, below_drewN B4 _⟩
end Go.Proofs.YtmbnckmhngijdaaGreatDoor
