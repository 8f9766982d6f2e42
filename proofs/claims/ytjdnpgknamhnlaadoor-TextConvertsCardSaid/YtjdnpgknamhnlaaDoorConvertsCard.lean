/- It is proved that the law TextConverts holds: for every struct of two strings and two ints the Go function TextConverts returns true and changes nothing that was there; conditions: package unicode/utf8's tables first and acceptRanges hold what Go's text lays in them (tied by the card). -/
import Derived.Test.YtjdnpgknamhnlaaDoorRow
import Derived.Test.YtjdnpgknamhnlaaDoorZM
import Derived.Lib.SmallJoins
namespace Go.Proofs.YtjdnpgknamhnlaaDoor.textConverts
open Go Go.ChangeShapes Go.WideShapes Go.ChangeAt Go.RowKit Go.Proofs.YtjdnpgknamhnlaaDoor
open Go.ChangeMaps (open_string shut_string)
open Go.Joins (open_agg4 shut_agg4 field_of_Trod)
theorem cells46 : Tryd.prog.cellsOf 46 = 4 := by kernel_rfl

set_option maxRecDepth 100000 in
theorem contract (H : Type) (enc : TypeId × Value → H) (W : World) (base : Nat) (args : Array Value) (ds gs : List (DataW H)) (before : List MemPlace)
    (hval : ∀ (j : Nat) t v, Tryd.f8.params[j]? = some t → args[j]? = some v → Value.okWide Tryd.prog W .any base t v)
    (hW : DataW.Whole enc Tryd.prog Tryd.f8.params.toList Rows.textConvertsSpec.vars false W args.toList ds gs before) (hL : laidMetH Tryd.prog theLaid W) :
    Calls Tryd.prog 8 args W fun e W' => ∃ v, e = .returned v ∧ Rows.textConvertsSpec.post enc Tryd.prog Tryd.f8 false true false false W args v W' := by
  have hW' := hW
  obtain ⟨p, q, hA0, hV, rfl, hfz, hnd⟩ := hW
  have hA : DataW.TrodAll enc Tryd.prog W 0 (fun _ => true) true Tryd.f8.params.toList args.toList ds p := hA0
  rw [Tryd.params8] at hA hval
  obtain ⟨v0, vs0, d0, ds0, p0, q0, hargs, rfl, rfl, h0, r0⟩ := trodAll_cons hA
  obtain ⟨rfl, rfl, rfl⟩ := trodAll_nil r0
  obtain rfl : args = #[v0] := by cases args; simp_all
  obtain ⟨rfl, rfl⟩ := trodVars_none hV
  obtain ⟨c00, c01, c02, c03, y00, y01, y02, y03, m0, rfl, rfl, rfl, t00, t01, t02, t03⟩ := open_agg4 Tryd.underlying46 (by kernel_rfl) cells46 (hval 0 46 v0 rfl rfl) h0
  obtain ⟨s00, e00, rfl, hs00⟩ := DataW.trod_string Tryd.underlying9 t00
  have hz00 : s00.size ≤ 9223372036854775807 := hs00
  obtain ⟨n01, e01, rfl, hw01⟩ := DataW.trod_int Tryd.underlying3 t01
  have hn01 := int_range hw01
  obtain ⟨n02, e02, rfl, hw02⟩ := DataW.trod_int Tryd.underlying3 t02
  have hn02 := int_range hw02
  obtain ⟨s03, e03, rfl, hs03⟩ := DataW.trod_string Tryd.underlying9 t03
  have hz03 : s03.size ≤ 9223372036854775807 := hs03
  obtain rfl := List.head_eq_of_cons_eq e00
  obtain rfl := List.head_eq_of_cons_eq e01
  obtain rfl := List.head_eq_of_cons_eq e02
  obtain rfl := List.head_eq_of_cons_eq e03
  clear hA0
  simp only [List.append_nil] at hW'
  have hT := tabs hL
  have structReads0 : ∀ (W' : World) (sp : Nat → Bool), DataW.Trod enc Tryd.prog W' 0 sp true 46 (.agg #[.string s00, .int .i64 n01, .int .i64 n02, .string s03]) (.agg [.lit (.string s00.data.toList), .lit (.int .i64 n01), .lit (.int .i64 n02), .lit (.string s03.data.toList)]) [] := fun W' sp =>
    shut_agg4 (y0 := (.lit (.string s00.data.toList), [])) (y1 := (.lit (.int .i64 n01), [])) (y2 := (.lit (.int .i64 n02), [])) (y3 := (.lit (.string s03.data.toList), [])) Tryd.underlying46 (by kernel_rfl) cells46 (field_of_Trod (shut_string Tryd.underlying9 hs00) rfl) (field_of_Trod (shut_int Tryd.underlying3 hw01) rfl) (field_of_Trod (shut_int Tryd.underlying3 hw02) rfl) (field_of_Trod (shut_string Tryd.underlying9 hs03) rfl)
  refine (c8 s00 s03 n01 n02 W hT).mono fun e W' ⟨he, hb⟩ => ?_
  subst he
  exact ⟨_, rfl, post_below (pa := []) (pv := []) hW' (fun _ _ _ => trodAll_cons_mk (shut_bool Tryd.underlying4 _) trodAll_mk0) (fun _ _ => trodAll_cons_mk (structReads0 _ _) (trodAll_mk0)) (fun _ _ => rfl) rfl hb (ok_one (by kernel_rfl) rfl (okWide_bool_mk Tryd.underlying4 _))⟩

theorem reads (os : Os) {H : Type} (enc : TypeId × Value → H) : ∃ places, DataW.whole enc Tryd.prog ((laidWorld os).forCall (fun _ _ => 0) ⟨#[], #[.agg #[.string ⟨#[]⟩, .int .i64 0, .int .i64 0, .string ⟨#[]⟩]], []⟩).memory Tryd.f8.params.toList Rows.textConvertsSpec.vars false #[Value.agg #[.string ⟨#[]⟩, .int .i64 0, .int .i64 0, .string ⟨#[]⟩]].toList 8 = some ([.agg [.lit (.string []), .lit (.int .i64 0), .lit (.int .i64 0), .lit (.string [])]], [], places) :=
  ⟨[], by kernel_rfl⟩

set_option maxRecDepth 100000 in
theorem lifted (os : Os) (started : os.Started) (H : Type) (enc : TypeId × Value → H) (F : Stop.Interp) :
    ReturnsInHanded {} Tryd.checked os 8 .any ((OpenSpec.ofChange Rows.textConvertsSpec).preRow enc Tryd.prog Tryd.f8 Rows.textConvertsRow.domain false Rows.textConvertsRow.laid) (((OpenSpec.ofChange Rows.textConvertsSpec).at F).post enc Tryd.prog Tryd.f8 false true false false) := by
  obtain ⟨places, hx⟩ := reads os enc
  refine returnsInHanded_of_row (C := Tryd.checked) (s := OpenSpec.ofChange Rows.textConvertsSpec) own started (by kernel_rfl) Tryd.func8
    (witness_row_at (enc := enc) (C := Tryd.checked) false (laidWorld os) #[.agg #[.string ⟨#[]⟩, .int .i64 0, .int .i64 0, .string ⟨#[]⟩]] rfl (by kernel_rfl) (by kernel_rfl) (by kernel_rfl)
      (OpenSpec.preRow_of_cond 8 hx (by kernel_rfl) (fun k hk => by cases hk) (by kernel_rfl) (laid_met os _))) ?_
  intro W base args ds gs before hval hW _ _ _ hL _ _
  exact contract H enc W base args ds gs before hval hW hL

theorem said : Rows.TextConvertsSaid :=
  OpenClaim.holds_of_cond 8 Tryd.f8 rfl rfl rfl rfl rfl rfl rfl ⟨rfl, rfl, rfl, rfl, rfl⟩ rfl rfl rfl rfl rfl (by kernel_rfl) Tryd.func8 (by kernel_rfl)
    (of_decide_eq_true (by kernel_rfl)) (by unfold Func.isWrapper; first | (rw [if_pos (by decide +kernel)]; kernel_rfl) | (rw [if_neg (by decide +kernel)]; exact ⟨rfl, rfl⟩))
    (fun os started H enc _ F => by rw [OpenClaim.pre_eq_preRow]; exact lifted os started H enc F)

theorem plain (f : FuncId) (fn : Func) (hf : Tryd.pinned.checked.prog.funcNamed "cabochon/cabochonlaw01.TextConverts" = some f) (hfn : Tryd.pinned.checked.prog.funcs[f]? = some fn) :
    false = Tryd.pinned.checked.prog.looks [] ∧ ∀ (j : Nat) t, fn.params[j]? = some t → Tryd.pinned.checked.prog.wantsStandIn t = false := by
  obtain rfl : f = 8 := Option.some.inj ((show Tryd.prog.funcNamed "cabochon/cabochonlaw01.TextConverts" = some 8 by kernel_rfl).symm.trans hf) |>.symm
  obtain rfl : fn = Tryd.f8 := (Option.some.inj (Tryd.func8.symm.trans hfn)).symm
  refine ⟨by kernel_rfl, fun j t ht => ?_⟩
  rw [Tryd.params8] at ht
  have hm := Array.mem_of_getElem? ht
  have hall : ∀ x ∈ ([46] : List TypeId), Tryd.pinned.checked.prog.wantsStandIn x = false := by
    intro x hx
    simp only [List.mem_cons, List.mem_nil_iff, or_false] at hx
    rcases hx with rfl
    · exact (show Tryd.prog.wantsStandIn 46 = false by kernel_rfl)
  exact hall t (by simpa using hm)
end Go.Proofs.YtjdnpgknamhnlaaDoor.textConverts
namespace Go.Proofs.YtjdnpgknamhnlaaDoor
open Go
theorem textConverts_card : Rows.TextConvertsCardSaid :=
  Claim7.holds_tied_plain_at .later [] _ _ _ _ textConverts.said (fun _ h => by cases h) (by kernel_rfl) (fun _ h => by cases h) textConverts_row_tie rfl ⟨rfl, rfl⟩ (by kernel_rfl) rfl textConverts.plain (by kernel_rfl)
end Go.Proofs.YtjdnpgknamhnlaaDoor
