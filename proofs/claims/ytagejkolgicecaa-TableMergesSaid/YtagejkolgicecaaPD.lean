/- Both pairs of tables, and a call at each. -/
import Derived.Test.YtagejkolgicecaaPC
namespace Go.Proofs.Ytagejkolgicecaa
open Go Go.RowKit Go.Maps
structure Game (n N : Nat) (f : Nat → Option Th) (t o r p : Nat) (S O : Tb) (R Q : Rt) : Prop where
  ft : f n = some (.t t S)
  fo : f (n + 1) = some (.t o O)
  fr : f (n + 2) = some (.r r R)
  fp : f (n + 3) = some (.r p Q)
  okS : Ok S
  okO : Ok O
  aS : ∃ Y, Al S R Y
  aO : ∃ Y, Al O Q Y
  b1 : S.pt ≤ 1000 * N
  b2 : R.now ≤ 1000 * N
  b3 : O.pt ≤ 1000 * N
  b4 : Q.now ≤ 1000 * N
  b5 : S.bg ≤ N
  b6 : O.bg ≤ N
  b7 : N ≤ 900
section
variable {P : Nat → Prop} {w0 w : World} {f : Nat → Option Th} {c b r : Nat} {S S' : Tb} {R : Rt} {fn : Nat} {args : Array Value}
theorem zT (h : Zoo P w0 w f) (hc : f c = some (.t b S)) {E : Ending → Prop} (hcall : ∀ F : Nat → Prop, Tab F w b S → (∀ i, w.heap.size ≤ i → F i) → Calls Try.prog fn args w fun e w' => E e ∧ Tab F w' b S' ∧ Turn F w w') :
    Calls Try.prog fn args w fun e w' => E e ∧ Zoo P w0 w' (fset f c (.t b S')) ∧ Ok S' := by
  obtain ⟨F, h1, h2, h3⟩ := h.call hc
  refine (hcall F h1 h2).mono ?_
  rintro e w' ⟨h4, h5, h6⟩
  exact ⟨h4, h3 w' (.t b S') h5 h6, h5.1⟩
theorem zR (h : Zoo P w0 w f) (hc : f c = some (.r r R)) {E : Ending → Rt → Prop} (hcall : ∀ F : Nat → Prop, RTab F w r R → (∀ i, w.heap.size ≤ i → F i) → Calls Try.prog fn args w fun e w' => ∃ R', E e R' ∧ RTab F w' r R' ∧ Turn F w w') :
    Calls Try.prog fn args w fun e w' => ∃ R', E e R' ∧ Zoo P w0 w' (fset f c (.r r R')) := by
  obtain ⟨F, h1, h2, h3⟩ := h.call hc
  refine (hcall F h1 h2).mono ?_
  rintro e w' ⟨R', h4, h5, h6⟩
  exact ⟨R', h4, h3 w' (.r r R') h5 h6⟩
theorem zput (h : Zoo P w0 w f) (hc : f c = some (.t b S)) {k : Int} (hk : WF k) (v : Int) (hp : S.pt < 4611686018427386904) :
    Calls Try.prog 21 #[.pointer (some ⟨b, 0, none⟩), .int .i64 k, .int .i64 v] w fun e w' => e = .returned (.int .i64 (S.allE [(k, v)])) ∧ Zoo P w0 w' (fset f c (.t b (S.all [(k, v)]))) ∧ Ok (S.all [(k, v)]) :=
  zT h hc (E := fun e => e = .returned (.int .i64 (S.allE [(k, v)]))) (fun F h1 h2 => t21 F b S w h1 h2 hk v hp)
theorem zputR (h : Zoo P w0 w f) (hc : f c = some (.r r R)) {Y : List Yo} (hA : Al S R Y) (hO : Ok S) {k : Int} (hk : WF k) (v : Int) (hp : R.now < 1000000) (hw : R.walks.length ≤ 1000) :
    Calls Try.prog 44 #[.pointer (some ⟨r, 0, none⟩), .int .i64 k, .int .i64 v] w fun e w' => ∃ R', (e = .returned (.int .i64 (S.allE [(k, v)])) ∧ (∃ Y', Al (S.all [(k, v)]) R' Y') ∧ R'.now ≤ R.now + 1) ∧ Zoo P w0 w' (fset f c (.r r R')) := by
  refine zR h hc (E := fun e R' => e = .returned (.int .i64 (S.allE [(k, v)])) ∧ (∃ Y', Al (S.all [(k, v)]) R' Y') ∧ R'.now ≤ R.now + 1) (fun F h1 h2 => (t44 w h1 h2 (by rw [hA.len]; exact hO.len) hw (by omega) k v).mono ?_)
  rintro e w' ⟨x, R', rfl, h3, h4, h5⟩
  obtain ⟨rfl, h6⟩ := hA.putR hO hk h3
  exact ⟨R', ⟨rfl, h6, (h3.bounds (by rw [hA.len]; exact hO.len)).2.2.1⟩, h4, h5⟩
theorem zdel (h : Zoo P w0 w f) (hc : f c = some (.t b S)) {k : Int} (hk : WF k) :
    Calls Try.prog 22 #[.pointer (some ⟨b, 0, none⟩), .int .i64 k] w fun e w' => e = S.delE k ∧ Zoo P w0 w' (fset f c (.t b (S.del k))) ∧ Ok (S.del k) :=
  zT h hc (E := fun e => e = S.delE k) (fun _ h1 _ => t22 w h1 hk)
theorem zdelR (h : Zoo P w0 w f) (hc : f c = some (.r r R)) {Y : List Yo} (hA : Al S R Y) (hO : Ok S) {k : Int} (hk : WF k) :
    Calls Try.prog 45 #[.pointer (some ⟨r, 0, none⟩), .int .i64 k] w fun e w' => ∃ R', (e = S.delE k ∧ (∃ Y', Al (S.del k) R' Y') ∧ R'.now ≤ R.now + 1) ∧ Zoo P w0 w' (fset f c (.r r R')) := by
  refine zR h hc (E := fun e R' => e = S.delE k ∧ (∃ Y', Al (S.del k) R' Y') ∧ R'.now ≤ R.now + 1) (fun F h1 h2 => (t45 w h1 h2 (by rw [hA.len]; exact hO.len) k).mono ?_)
  rintro e w' ⟨R', h3, h4, h5⟩
  obtain ⟨rfl, h6⟩ := hA.delR hO hk h3
  refine ⟨R', ⟨rfl, h6, ?_⟩, h4, h5⟩
  rcases h3 with ⟨_, _, rfl⟩ | ⟨_, _, _, rfl⟩ | ⟨_, j, v, t, _, _, _, rfl⟩
  · omega
  · omega
  · exact Nat.le_succ _
theorem zshift (h : Zoo P w0 w f) (hc : f c = some (.t b S)) :
    Calls Try.prog 40 #[.pointer (some ⟨b, 0, none⟩)] w fun e w' => e = S.shiftE ∧ Zoo P w0 w' (fset f c (.t b S.shift)) ∧ Ok S.shift :=
  zT h hc (E := fun e => e = S.shiftE) (fun _ h1 _ => t40 w h1)
theorem zshiftR (h : Zoo P w0 w f) (hc : f c = some (.r r R)) {Y : List Yo} (hA : Al S R Y) (hO : Ok S) :
    Calls Try.prog 46 #[.pointer (some ⟨r, 0, none⟩)] w fun e w' => ∃ R', (e = S.shiftE ∧ (∃ Y', Al S.shift R' Y') ∧ R'.now ≤ R.now + 1) ∧ Zoo P w0 w' (fset f c (.r r R')) := by
  refine zR h hc (E := fun e R' => e = S.shiftE ∧ (∃ Y', Al S.shift R' Y') ∧ R'.now ≤ R.now + 1) (fun F h1 h2 => (t46 w h1 h2 (by rw [hA.len]; exact hO.len)).mono ?_)
  rintro e w' ⟨rfl, h4, h5⟩
  obtain ⟨h6, h7⟩ := hA.shift hO
  exact ⟨_, ⟨h6, h7, by unfold Rt.shift; split <;> exact Nat.le_succ _⟩, h4, h5⟩
theorem zwalk (h : Zoo P w0 w f) (hc : f c = some (.t b S)) (hb : S.bg < 4611686018427387904) :
    Calls Try.prog 24 #[.pointer (some ⟨b, 0, none⟩)] w fun e w' => e = S.walkE ∧ Zoo P w0 w' (fset f c (.t b S.walk)) ∧ Ok S.walk :=
  zT h hc (E := fun e => e = S.walkE) (fun _ h1 _ => t24 w h1 hb)
theorem zwalkR (h : Zoo P w0 w f) (hc : f c = some (.r r R)) {Y : List Yo} (hA : Al S R Y) (hO : Ok S) (hw : R.walks.length ≤ 1000) :
    Calls Try.prog 47 #[.pointer (some ⟨r, 0, none⟩)] w fun e w' => ∃ R', (e = S.walkE ∧ (∃ Y', Al S.walk R' Y') ∧ R'.now ≤ R.now + 1) ∧ Zoo P w0 w' (fset f c (.r r R')) := by
  refine zR h hc (E := fun e R' => e = S.walkE ∧ (∃ Y', Al S.walk R' Y') ∧ R'.now ≤ R.now + 1) (fun F h1 h2 => (t47 w h1 h2 hw).mono ?_)
  rintro e w' ⟨rfl, h4, h5⟩
  obtain ⟨h6, h7⟩ := hA.walk hO (by have := hA.bg; omega)
  exact ⟨_, ⟨h6, ⟨_, h7⟩, by unfold Rt.begin_; split <;> exact Nat.le_succ _⟩, h4, h5⟩
theorem znext (h : Zoo P w0 w f) (hc : f c = some (.t b S)) {k : Int} (hk : WF k) :
    Calls Try.prog 25 #[.pointer (some ⟨b, 0, none⟩), .int .i64 k] w fun e w' => e = S.nextE k ∧ Zoo P w0 w' (fset f c (.t b (S.next k))) ∧ Ok (S.next k) :=
  zT h hc (E := fun e => e = S.nextE k) (fun _ h1 _ => t25 w h1 hk)
theorem znextR (h : Zoo P w0 w f) (hc : f c = some (.r r R)) {Y : List Yo} (hA : Al S R Y) (hO : Ok S) (hw : R.walks.length ≤ 1000) {k : Int} (hk : WF k) :
    Calls Try.prog 48 #[.pointer (some ⟨r, 0, none⟩), .int .i64 k] w fun e w' => ∃ R', (e = S.nextE k ∧ (∃ Y', Al (S.next k) R' Y') ∧ R'.now ≤ R.now + 1) ∧ Zoo P w0 w' (fset f c (.r r R')) := by
  refine zR h hc (E := fun e R' => e = S.nextE k ∧ (∃ Y', Al (S.next k) R' Y') ∧ R'.now ≤ R.now + 1) (fun F h1 h2 => (t48 w h1 (by rw [hA.len]; have := hO.len; omega) hw k).mono ?_)
  rintro e w' ⟨rfl, h4, h5⟩
  obtain ⟨h6, h7⟩ := hA.next hO hk
  exact ⟨_, ⟨h6, ⟨_, h7⟩, by unfold Rt.next; (repeat' split) <;> exact Nat.le_succ _⟩, h4, h5⟩
theorem zstop (h : Zoo P w0 w f) (hc : f c = some (.t b S)) {k : Int} (hk : WF k) :
    Calls Try.prog 27 #[.pointer (some ⟨b, 0, none⟩), .int .i64 k] w fun e w' => e = .returned (.int .i64 (S.stopE k)) ∧ Zoo P w0 w' (fset f c (.t b (S.stop k))) ∧ Ok (S.stop k) :=
  zT h hc (E := fun e => e = .returned (.int .i64 (S.stopE k))) (fun _ h1 _ => t27 w h1 hk)
theorem zstopR (h : Zoo P w0 w f) (hc : f c = some (.r r R)) {Y : List Yo} (hA : Al S R Y) (hw : R.walks.length ≤ 1000) {k : Int} (hk : WF k) :
    Calls Try.prog 49 #[.pointer (some ⟨r, 0, none⟩), .int .i64 k] w fun e w' => ∃ R', (e = .returned (.int .i64 (S.stopE k)) ∧ (∃ Y', Al (S.stop k) R' Y') ∧ R'.now ≤ R.now + 1) ∧ Zoo P w0 w' (fset f c (.r r R')) := by
  refine zR h hc (E := fun e R' => e = .returned (.int .i64 (S.stopE k)) ∧ (∃ Y', Al (S.stop k) R' Y') ∧ R'.now ≤ R.now + 1) (fun F h1 h2 => (t49 w h1 hw k).mono ?_)
  rintro e w' ⟨rfl, h4, h5⟩
  obtain ⟨h6, h7⟩ := hA.stop hk
  exact ⟨_, ⟨by rw [h6], ⟨_, h7⟩, by unfold Rt.stop; split <;> exact Nat.le_succ _⟩, h4, h5⟩
theorem zstrict (h : Zoo P w0 w f) (hc : f c = some (.t b S)) (x : Bool) :
    Calls Try.prog 37 #[.pointer (some ⟨b, 0, none⟩), .bool x] w fun e w' => e = .returned (.tuple #[]) ∧ Zoo P w0 w' (fset f c (.t b { S with st := x })) ∧ Ok { S with st := x } :=
  zT h hc (E := fun e => e = .returned (.tuple #[])) (fun _ h1 _ => t37 w x h1)
theorem zfreeze (h : Zoo P w0 w f) (hc : f c = some (.t b S)) :
    Calls Try.prog 38 #[.pointer (some ⟨b, 0, none⟩)] w fun e w' => e = .returned (.tuple #[]) ∧ Zoo P w0 w' (fset f c (.t b { S with fz := true })) ∧ Ok { S with fz := true } :=
  zT h hc (E := fun e => e = .returned (.tuple #[])) (fun _ h1 _ => t38 w h1)
theorem zstore (h : Zoo P w0 w f) (hc : f c = some (.r r R)) (i : Nat) (x : Bool) (R' : Rt) (hi : (i = 1 ∧ R' = { R with st := x }) ∨ (i = 2 ∧ R' = { R with fz := x })) :
    (∃ y, w.cell? ⟨r, i, none⟩ = some (.bool y)) ∧ w.frozen? ⟨r, i, none⟩ = false ∧ Zoo P w0 (w.setCell ⟨r, i, none⟩ (.bool x)) (fset f c (.r r R')) := by
  obtain ⟨F, h1, _, h3⟩ := h.call hc
  obtain ⟨rv, wv, hW⟩ := h1
  have hT := turnSet w r i (.bool x)
  have hr := hW.rows.turn hT (fun g hg e => hW.ne.1 (by rw [hg, e]))
  have hw := hW.walks.turn hT (fun g hg e => hW.ne.2.1 (by rw [hg, e]))
  refine ⟨?_, hW.blk.free i, h3 _ _ ⟨rv, wv, ?_⟩ (hT.mono (fun k _ e => by rw [e]; exact hW.fr))⟩
  · rcases hi with ⟨rfl, _⟩ | ⟨rfl, _⟩
    · exact ⟨_, hW.blk.cell 1 rfl⟩
    · exact ⟨_, hW.blk.cell 2 rfl⟩
  · rcases hi with ⟨rfl, rfl⟩ | ⟨rfl, rfl⟩
    · exact ⟨hW.blk.set 1 _, hr, hw, hW.fr, hW.fv, hW.fw⟩
    · exact ⟨hW.blk.set 2 _, hr, hw, hW.fr, hW.fv, hW.fw⟩
theorem zrek (h : Zoo P w0 w f) (hc : f c = some (.t b S)) (ao : Option Addr) (cap : Nat) (ps : List (Int × Int)) (hr : RowsO w ao ps) (hk : ∀ p ∈ ps, WF p.1 ∧ WF p.2) (hl : ps.length ≤ 500) :
    Calls Try.prog 17 #[.pointer (some ⟨b, 0, none⟩), .slice ao ps.length cap] w fun e w' => e = .returned (.int .i64 (S.rekE ps)) ∧ Zoo P w0 w' (fset f c (.t b (S.rekS ps))) ∧ Ok (S.rekS ps) := by
  refine zT h hc (E := fun e => e = .returned (.int .i64 (S.rekE ps))) (fun F h1 h2 => ?_)
  obtain ⟨hO, m0, m1, kv, hW⟩ := h1
  refine (t17 w hO hW h2 ao cap ps hr hk hl).mono ?_
  rintro e w' ⟨rfl, ⟨q, kv', h3⟩, h4⟩
  exact ⟨rfl, ⟨hO.rekS ps (fun p hp => (hk p hp).2), q, m1, kv', h3⟩, h4⟩
theorem outS_now (R : Rt) (ps : List (Int × Int)) (e : Int) (R' : Rt) (h : R.RekR ps e R') : R'.now = R.now ∧ R'.walks = R.walks := by
  rcases h with ⟨_, _, rfl⟩ | ⟨_, _, rfl⟩
  · exact ⟨rfl, rfl⟩
  · split <;> exact ⟨rfl, rfl⟩
theorem zrekR (h : Zoo P w0 w f) (hc : f c = some (.r r R)) {Y : List Yo} (hA : Al S R Y) (hO : Ok S) (hw : R.walks.length ≤ 1000) (ao : Option Addr) (cap : Nat) (ps : List (Int × Int)) (hr : RowsO w ao ps) (hk : ∀ p ∈ ps, WF p.1 ∧ WF p.2) (hl : ps.length ≤ 500) :
    Calls Try.prog 18 #[.pointer (some ⟨r, 0, none⟩), .slice ao ps.length cap] w fun e w' => ∃ R', (e = .returned (.int .i64 (S.rekE ps)) ∧ (∃ Y', Al (S.rekS ps) R' Y') ∧ R'.now ≤ R.now + 1) ∧ Zoo P w0 w' (fset f c (.r r R')) := by
  refine zR h hc (E := fun e R' => e = .returned (.int .i64 (S.rekE ps)) ∧ (∃ Y', Al (S.rekS ps) R' Y') ∧ R'.now ≤ R.now + 1) (fun F h1 h2 => (t18 w h1 h2 (by rw [hA.len]; exact hO.len) hw (by rw [hA.keys]; exact hO.nd) ao cap ps hr hl).mono ?_)
  rintro e w' ⟨x, R', rfl, h3, h4, h5⟩
  obtain ⟨rfl, h6⟩ := hA.rek hO hk h3
  exact ⟨R', ⟨rfl, h6, by have := (outS_now _ _ _ _ h3).1; omega⟩, h4, h5⟩
theorem zmerge (h : Zoo P w0 w f) (hc : f c = some (.t b S)) {d b2 : Nat} {S2 : Tb} (hd : f d = some (.t b2 S2)) (hp : S.pt < 4611686018427386904) :
    Calls Try.prog 29 #[.pointer (some ⟨b, 0, none⟩), .pointer (some ⟨b2, 0, none⟩)] w fun e w' => e = .returned (.int .i64 (S.allE S2.rows)) ∧ Zoo P w0 w' (fset f c (.t b (S.all S2.rows))) ∧ Ok (S.all S2.rows) := by
  obtain ⟨G, hG⟩ := h.get hd
  exact zT h hc (E := fun e => e = .returned (.int .i64 (S.allE S2.rows))) (fun F h1 h2 => t29 w h1 h2 hG hp)
theorem PutR_now {R R' : Rt} {k v e : Int} (h : R.PutR k v e R') : R'.now ≤ R.now + 1 := by
  rcases h with ⟨_, _, rfl⟩ | ⟨_, j, v0, t, _, _, _, rfl⟩ | ⟨_, _, _, _, rfl⟩ | ⟨_, _, _, _, _, rfl⟩ | ⟨_, _, _, h5, _, rfl⟩
  all_goals (first | exact Nat.le_succ _ | exact Nat.le_refl _)
theorem PutsR_now {ps : List (Int × Int)} {R R' : Rt} (h : PutsR ps R R') : R'.now ≤ R.now + ps.length := by
  induction h with
  | nil R => exact Nat.le_refl _
  | snoc _ h2 ih => have := PutR_now h2; rw [List.length_append]; simp; omega
theorem zmergeR (h : Zoo P w0 w f) (hc : f c = some (.r r R)) {Y : List Yo} (hA : Al S R Y) (hO : Ok S) {d r2 : Nat} {R2 : Rt} {S2 : Tb} {Y2 : List Yo} (hd : f d = some (.r r2 R2)) (hA2 : Al S2 R2 Y2) (hO2 : Ok S2) (hp : R.now < 1000000) (hw : R.walks.length ≤ 1000) :
    Calls Try.prog 30 #[.pointer (some ⟨r, 0, none⟩), .pointer (some ⟨r2, 0, none⟩)] w fun e w' => ∃ R', (e = .returned (.int .i64 (S.allE S2.rows)) ∧ (∃ Y', Al (S.all S2.rows) R' Y') ∧ R'.now ≤ R.now + 500) ∧ Zoo P w0 w' (fset f c (.r r R')) := by
  obtain ⟨G, hG⟩ := h.get hd
  have hl2 : R2.rows.length ≤ 500 := by rw [hA2.len]; exact hO2.len
  refine zR h hc (E := fun e R' => e = .returned (.int .i64 (S.allE S2.rows)) ∧ (∃ Y', Al (S.all S2.rows) R' Y') ∧ R'.now ≤ R.now + 500) (fun F h1 h2 => (t30 w h1 hG h2 (by rw [hA.len]; exact hO.len) hl2 hw (by omega)).mono ?_)
  rintro e w' ⟨x, R', rfl, h3, h4, h5⟩
  obtain ⟨rfl, h6⟩ := hA.merge hO hA2 hO2 h3
  refine ⟨R', ⟨rfl, h6, ?_⟩, h4, h5⟩
  rcases h3 with ⟨_, _, rfl⟩ | ⟨_, _, _, _, rfl⟩ | ⟨_, _, _, _, rfl⟩ | ⟨_, _, _, _, h7⟩
  · omega
  · omega
  · omega
  · have h8 := PutsR_now h7
    have h9 : R2.prs.length ≤ 500 := by unfold Rt.prs; rw [List.length_map]; exact hl2
    omega
end
end Go.Proofs.Ytagejkolgicecaa
