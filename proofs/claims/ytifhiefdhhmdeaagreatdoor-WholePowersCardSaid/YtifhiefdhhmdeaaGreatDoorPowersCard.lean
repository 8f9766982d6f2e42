/- It is proved that the law WholePowers holds: for every struct of two slices of ints, two strings and an int the Go function WholePowers returns true and changes nothing that was there; conditions: package internal/strconv's table of powers of ten holds what Go's text lays in it (tied by the card). -/
import Derived.Test.YtifhiefdhhmdeaaGreatDoorRow2
import Derived.Test.YtifhiefdhhmdeaaGreatDoorXI
namespace Go.Proofs.YtifhiefdhhmdeaaGreatDoor.wholePowers
open Go Go.ChangeShapes Go.WideShapes Go.ChangeAt Go.RowKit Go.Proofs.YtifhiefdhhmdeaaGreatDoor
open Go.ChangeMaps (open_string shut_string)
open Go.Joins (array2 array3 array4)
theorem cells31 : Tryz.prog.cellsOf 31 = 5 := by kernel_rfl

set_option maxRecDepth 100000 in
theorem contract (H : Type) (enc : TypeId × Value → H) (W : World) (base : Nat) (args : Array Value) (ds gs : List (DataW H)) (before : List MemPlace)
    (hval : ∀ (j : Nat) t v, Tryz.f5.params[j]? = some t → args[j]? = some v → Value.okWide Tryz.prog W .any base t v)
    (hW : DataW.Whole enc Tryz.prog Tryz.f5.params.toList Rows.wholePowersSpec.vars false W args.toList ds gs before) (hL : laidMetH Tryz.prog theLaid W) (hM : ∃ m, W.cell? ⟨0, 0, none⟩ = some (.int .i64 m)) :
    Calls Tryz.prog 5 args W fun e W' => ∃ v, e = .returned v ∧ Rows.wholePowersSpec.post enc Tryz.prog Tryz.f5 false true false false W args v W' := by
  have hW' := hW
  obtain ⟨p, q, hA0, hV, rfl, hfz, hnd⟩ := hW
  have hA : DataW.TrodAll enc Tryz.prog W 0 (fun _ => true) true Tryz.f5.params.toList args.toList ds p := hA0
  rw [Tryz.params5] at hA hval
  obtain ⟨v0, vs0, d0, ds0, p0, q0, hargs, rfl, rfl, h0, r0⟩ := trodAll_cons hA
  obtain ⟨rfl, rfl, rfl⟩ := trodAll_nil r0
  obtain rfl : args = #[v0] := by cases args; simp_all
  obtain ⟨rfl, rfl⟩ := trodVars_none hV
  obtain ⟨cs0, rfl, hsz0, hfs0⟩ := open_S Tryz.underlying31 (by kernel_rfl) (hval 0 31 v0 rfl rfl) h0
  obtain ⟨c00, c01, c02, c03, c04, rfl⟩ := array5 (hsz0.trans cells31)
  obtain ⟨n00, y00, t00⟩ := hfs0 0 _ c00 rfl rfl
  obtain ⟨xs00, hr00, hxl00, hin00⟩ := open_list1 t00
  obtain ⟨n01, y01, t01⟩ := hfs0 1 _ c01 rfl rfl
  obtain ⟨xs01, hr01, hxl01, hin01⟩ := open_list1 t01
  obtain ⟨n02, y02, t02⟩ := hfs0 2 _ c02 rfl rfl
  obtain ⟨s02, e02, -, hs02⟩ := DataW.trod_string Tryz.underlying9 t02
  have hz02 : s02.size ≤ 9223372036854775807 := hs02
  obtain rfl := List.head_eq_of_cons_eq e02
  obtain ⟨n03, y03, t03⟩ := hfs0 3 _ c03 rfl rfl
  obtain ⟨s03, e03, -, hs03⟩ := DataW.trod_string Tryz.underlying9 t03
  have hz03 : s03.size ≤ 9223372036854775807 := hs03
  obtain rfl := List.head_eq_of_cons_eq e03
  obtain ⟨n04, y04, t04⟩ := hfs0 4 _ c04 rfl rfl
  obtain ⟨z04, e04, -, hw04⟩ := DataW.trod_int Tryz.underlying3 t04
  have hn04 := int_range hw04
  obtain rfl := List.head_eq_of_cons_eq e04
  clear hA0
  simp only [List.append_nil] at hW'
  have hT := tabs hL
  obtain ⟨m0, hm0⟩ := hM
  have hlt0 : ∀ x ∈ p0, x.block < W.heap.size := fun x hx => hW'.lt x (by simp [hx])
  refine (t5 s02 s03 c00 c01 xs00 xs01 z04 m0 W hr00 hr01 hin00 hin01 hT hxl00 hxl01 hz02 hz03 hm0).mono fun e W' ⟨he, hb⟩ => ?_
  subst he
  exact ⟨_, rfl, post_below (pa := (p0 ++ [])) (pv := []) hW' (fun _ _ _ => trodAll_cons_mk (shut_bool Tryz.underlying4 _) trodAll_mk0) (fun sp hsp => trodAll_cons_mk (WideElems.Trod_stays laidOut (by kernel_rfl) (of_decide_eq_true (by kernel_rfl)) h0 (fun x hx => hb.same (hlt0 x hx)) (fun x hx => hsp x (by simp [hx]))) (trodAll_mk0)) (fun _ _ => rfl) (by simp) hb (ok_one (by kernel_rfl) rfl (okWide_bool_mk Tryz.underlying4 _))⟩

theorem reads (os : Os) {H : Type} (enc : TypeId × Value → H) : ∃ places, DataW.whole enc Tryz.prog ((laidWorld os).forCall (fun _ _ => 0) ⟨#[], #[.agg #[.slice none 0 0, .slice none 0 0, .string ⟨#[]⟩, .string ⟨#[]⟩, .int .i64 0]], []⟩).memory Tryz.f5.params.toList Rows.wholePowersSpec.vars false #[Value.agg #[.slice none 0 0, .slice none 0 0, .string ⟨#[]⟩, .string ⟨#[]⟩, .int .i64 0]].toList 8 = some ([.agg [.nil, .nil, .lit (.string []), .lit (.string []), .lit (.int .i64 0)]], [], places) :=
  ⟨[], by kernel_rfl⟩

set_option maxRecDepth 100000 in
theorem lifted (os : Os) (started : os.Started) (H : Type) (enc : TypeId × Value → H) (F : Stop.Interp) :
    ReturnsInHanded {} Tryz.checked os 5 .any ((OpenSpec.ofChange Rows.wholePowersSpec).preRow enc Tryz.prog Tryz.f5 Rows.wholePowersRow.domain false Rows.wholePowersRow.laid) (((OpenSpec.ofChange Rows.wholePowersSpec).at F).post enc Tryz.prog Tryz.f5 false true false false) := by
  obtain ⟨places, hx⟩ := reads os enc
  refine returnsInHanded_of_row (C := Tryz.checked) (s := OpenSpec.ofChange Rows.wholePowersSpec) own started (by kernel_rfl) Tryz.func5
    (witness_row_at (enc := enc) (C := Tryz.checked) false (laidWorld os) #[.agg #[.slice none 0 0, .slice none 0 0, .string ⟨#[]⟩, .string ⟨#[]⟩, .int .i64 0]] rfl (by kernel_rfl) (by kernel_rfl) (by kernel_rfl)
      (OpenSpec.preRow_of_cond 8 hx (by kernel_rfl) (fun k hk => by cases hk) (by kernel_rfl) (laid_met os _))) ?_
  intro W base args ds gs before hval hW _ _ _ hL hSh _
  exact contract H enc W base args ds gs before hval hW hL (maxCell hSh)

theorem said : Rows.WholePowersSaid :=
  OpenClaim.holds_of_cond 5 Tryz.f5 rfl rfl rfl rfl rfl rfl rfl ⟨rfl, rfl, rfl, rfl, rfl⟩ rfl rfl rfl rfl rfl (by kernel_rfl) Tryz.func5 (by kernel_rfl)
    (of_decide_eq_true (by kernel_rfl)) (by unfold Func.isWrapper; first | (rw [if_pos (by decide +kernel)]; kernel_rfl) | (rw [if_neg (by decide +kernel)]; exact ⟨rfl, rfl⟩))
    (fun os started H enc _ F => by rw [OpenClaim.pre_eq_preRow]; exact lifted os started H enc F)

theorem plain (f : FuncId) (fn : Func) (hf : Tryz.pinned.checked.prog.funcNamed "cabochon/cabochonlaw02.WholePowers" = some f) (hfn : Tryz.pinned.checked.prog.funcs[f]? = some fn) :
    true = Tryz.pinned.checked.prog.looks [] ∧ ∀ (j : Nat) t, fn.params[j]? = some t → Tryz.pinned.checked.prog.wantsStandIn t = false := by
  obtain rfl : f = 5 := Option.some.inj ((show Tryz.prog.funcNamed "cabochon/cabochonlaw02.WholePowers" = some 5 by kernel_rfl).symm.trans hf) |>.symm
  obtain rfl : fn = Tryz.f5 := (Option.some.inj (Tryz.func5.symm.trans hfn)).symm
  refine ⟨by kernel_rfl, fun j t ht => ?_⟩
  rw [Tryz.params5] at ht
  have hm := Array.mem_of_getElem? ht
  have hall : ∀ x ∈ ([31] : List TypeId), Tryz.pinned.checked.prog.wantsStandIn x = false := by
    intro x hx
    simp only [List.mem_cons, List.mem_nil_iff, or_false] at hx
    rcases hx with rfl
    · exact (show Tryz.prog.wantsStandIn 31 = false by kernel_rfl)
  exact hall t (by simpa using hm)
end Go.Proofs.YtifhiefdhhmdeaaGreatDoor.wholePowers
namespace Go.Proofs.YtifhiefdhhmdeaaGreatDoor
open Go
theorem wholePowers_card : Rows.WholePowersCardSaid :=
  Claim7.holds_tied_plain_at .later [] _ _ _ _ wholePowers.said (fun _ h => by cases h) (by kernel_rfl) (fun _ h => by cases h) wholePowers_row_tie rfl ⟨rfl, rfl⟩ (by kernel_rfl) rfl wholePowers.plain (by kernel_rfl)
end Go.Proofs.YtifhiefdhhmdeaaGreatDoor
