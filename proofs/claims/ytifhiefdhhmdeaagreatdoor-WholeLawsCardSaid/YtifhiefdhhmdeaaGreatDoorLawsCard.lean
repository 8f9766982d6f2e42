/- It is proved that the law WholeLaws holds: for every struct of three slices of ints the Go function WholeLaws returns true and changes nothing that was there; conditions: package internal/strconv's table of powers of ten holds what Go's text lays in it (tied by the card). -/
import Derived.Test.YtifhiefdhhmdeaaGreatDoorRow2
import Derived.Test.YtifhiefdhhmdeaaGreatDoorZP
namespace Go.Proofs.YtifhiefdhhmdeaaGreatDoor.wholeLaws
open Go Go.ChangeShapes Go.WideShapes Go.ChangeAt Go.RowKit Go.Proofs.YtifhiefdhhmdeaaGreatDoor
open Go.ChangeMaps (open_string shut_string)
open Go.Joins (array2 array3 array4)
theorem cells54 : Tryz.prog.cellsOf 54 = 3 := by kernel_rfl

set_option maxRecDepth 100000 in
theorem contract (H : Type) (enc : TypeId × Value → H) (W : World) (base : Nat) (args : Array Value) (ds gs : List (DataW H)) (before : List MemPlace)
    (hval : ∀ (j : Nat) t v, Tryz.f9.params[j]? = some t → args[j]? = some v → Value.okWide Tryz.prog W .any base t v)
    (hW : DataW.Whole enc Tryz.prog Tryz.f9.params.toList Rows.wholeLawsSpec.vars false W args.toList ds gs before) (hL : laidMetH Tryz.prog theLaid W) (hM : ∃ m, W.cell? ⟨0, 0, none⟩ = some (.int .i64 m)) :
    Calls Tryz.prog 9 args W fun e W' => ∃ v, e = .returned v ∧ Rows.wholeLawsSpec.post enc Tryz.prog Tryz.f9 false true false false W args v W' := by
  have hW' := hW
  obtain ⟨p, q, hA0, hV, rfl, hfz, hnd⟩ := hW
  have hA : DataW.TrodAll enc Tryz.prog W 0 (fun _ => true) true Tryz.f9.params.toList args.toList ds p := hA0
  rw [Tryz.params9] at hA hval
  obtain ⟨v0, vs0, d0, ds0, p0, q0, hargs, rfl, rfl, h0, r0⟩ := trodAll_cons hA
  obtain ⟨rfl, rfl, rfl⟩ := trodAll_nil r0
  obtain rfl : args = #[v0] := by cases args; simp_all
  obtain ⟨rfl, rfl⟩ := trodVars_none hV
  obtain ⟨cs0, rfl, hsz0, hfs0⟩ := open_S Tryz.underlying54 (by kernel_rfl) (hval 0 54 v0 rfl rfl) h0
  obtain ⟨c00, c01, c02, rfl⟩ := array3 (hsz0.trans cells54)
  obtain ⟨n00, y00, t00⟩ := hfs0 0 _ c00 rfl rfl
  obtain ⟨xs00, hr00, hxl00, hin00⟩ := open_list1 t00
  obtain ⟨n01, y01, t01⟩ := hfs0 1 _ c01 rfl rfl
  obtain ⟨xs01, hr01, hxl01, hin01⟩ := open_list1 t01
  obtain ⟨n02, y02, t02⟩ := hfs0 2 _ c02 rfl rfl
  obtain ⟨xs02, hr02, hxl02, hin02⟩ := open_list1 t02
  clear hA0
  simp only [List.append_nil] at hW'
  have hT := tabs hL
  obtain ⟨m0, hm0⟩ := hM
  have hlt0 : ∀ x ∈ p0, x.block < W.heap.size := fun x hx => hW'.lt x (by simp [hx])
  refine (t9 c00 c01 c02 xs00 xs01 xs02 m0 W hr00 hr01 hr02 hin00 hin01 hin02 hT hxl00 hxl01 hxl02 hm0).mono fun e W' ⟨he, hb⟩ => ?_
  subst he
  exact ⟨_, rfl, post_below (pa := (p0 ++ [])) (pv := []) hW' (fun _ _ _ => trodAll_cons_mk (shut_bool Tryz.underlying4 _) trodAll_mk0) (fun sp hsp => trodAll_cons_mk (WideElems.Trod_stays laidOut (by kernel_rfl) (of_decide_eq_true (by kernel_rfl)) h0 (fun x hx => hb.same (hlt0 x hx)) (fun x hx => hsp x (by simp [hx]))) (trodAll_mk0)) (fun _ _ => rfl) (by simp) hb (ok_one (by kernel_rfl) rfl (okWide_bool_mk Tryz.underlying4 _))⟩

theorem reads (os : Os) {H : Type} (enc : TypeId × Value → H) : ∃ places, DataW.whole enc Tryz.prog ((laidWorld os).forCall (fun _ _ => 0) ⟨#[], #[.agg #[.slice none 0 0, .slice none 0 0, .slice none 0 0]], []⟩).memory Tryz.f9.params.toList Rows.wholeLawsSpec.vars false #[Value.agg #[.slice none 0 0, .slice none 0 0, .slice none 0 0]].toList 8 = some ([.agg [.nil, .nil, .nil]], [], places) :=
  ⟨[], by kernel_rfl⟩

set_option maxRecDepth 100000 in
theorem lifted (os : Os) (started : os.Started) (H : Type) (enc : TypeId × Value → H) (F : Stop.Interp) :
    ReturnsInHanded {} Tryz.checked os 9 .any ((OpenSpec.ofChange Rows.wholeLawsSpec).preRow enc Tryz.prog Tryz.f9 Rows.wholeLawsRow.domain false Rows.wholeLawsRow.laid) (((OpenSpec.ofChange Rows.wholeLawsSpec).at F).post enc Tryz.prog Tryz.f9 false true false false) := by
  obtain ⟨places, hx⟩ := reads os enc
  refine returnsInHanded_of_row (C := Tryz.checked) (s := OpenSpec.ofChange Rows.wholeLawsSpec) own started (by kernel_rfl) Tryz.func9
    (witness_row_at (enc := enc) (C := Tryz.checked) false (laidWorld os) #[.agg #[.slice none 0 0, .slice none 0 0, .slice none 0 0]] rfl (by kernel_rfl) (by kernel_rfl) (by kernel_rfl)
      (OpenSpec.preRow_of_cond 8 hx (by kernel_rfl) (fun k hk => by cases hk) (by kernel_rfl) (laid_met os _))) ?_
  intro W base args ds gs before hval hW _ _ _ hL hSh _
  exact contract H enc W base args ds gs before hval hW hL (maxCell hSh)

theorem said : Rows.WholeLawsSaid :=
  OpenClaim.holds_of_cond 9 Tryz.f9 rfl rfl rfl rfl rfl rfl rfl ⟨rfl, rfl, rfl, rfl, rfl⟩ rfl rfl rfl rfl rfl (by kernel_rfl) Tryz.func9 (by kernel_rfl)
    (of_decide_eq_true (by kernel_rfl)) (by unfold Func.isWrapper; first | (rw [if_pos (by decide +kernel)]; kernel_rfl) | (rw [if_neg (by decide +kernel)]; exact ⟨rfl, rfl⟩))
    (fun os started H enc _ F => by rw [OpenClaim.pre_eq_preRow]; exact lifted os started H enc F)

theorem plain (f : FuncId) (fn : Func) (hf : Tryz.pinned.checked.prog.funcNamed "cabochon/cabochonlaw02.WholeLaws" = some f) (hfn : Tryz.pinned.checked.prog.funcs[f]? = some fn) :
    true = Tryz.pinned.checked.prog.looks [] ∧ ∀ (j : Nat) t, fn.params[j]? = some t → Tryz.pinned.checked.prog.wantsStandIn t = false := by
  obtain rfl : f = 9 := Option.some.inj ((show Tryz.prog.funcNamed "cabochon/cabochonlaw02.WholeLaws" = some 9 by kernel_rfl).symm.trans hf) |>.symm
  obtain rfl : fn = Tryz.f9 := (Option.some.inj (Tryz.func9.symm.trans hfn)).symm
  refine ⟨by kernel_rfl, fun j t ht => ?_⟩
  rw [Tryz.params9] at ht
  have hm := Array.mem_of_getElem? ht
  have hall : ∀ x ∈ ([54] : List TypeId), Tryz.pinned.checked.prog.wantsStandIn x = false := by
    intro x hx
    simp only [List.mem_cons, List.mem_nil_iff, or_false] at hx
    rcases hx with rfl
    · exact (show Tryz.prog.wantsStandIn 54 = false by kernel_rfl)
  exact hall t (by simpa using hm)
end Go.Proofs.YtifhiefdhhmdeaaGreatDoor.wholeLaws
namespace Go.Proofs.YtifhiefdhhmdeaaGreatDoor
open Go
theorem wholeLaws_card : Rows.WholeLawsCardSaid :=
  Claim7.holds_tied_plain_at .later [] _ _ _ _ wholeLaws.said (fun _ h => by cases h) (by kernel_rfl) (fun _ h => by cases h) wholeLaws_row_tie rfl ⟨rfl, rfl⟩ (by kernel_rfl) rfl wholeLaws.plain (by kernel_rfl)
end Go.Proofs.YtifhiefdhhmdeaaGreatDoor
