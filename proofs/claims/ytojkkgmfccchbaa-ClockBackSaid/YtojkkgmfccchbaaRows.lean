/-
  No cell of these rows narrows 'for every input' (looked for: loops, veiled, ifaces, maps, wideKeys, modest, calm, conditions, laid).
  DERIVED. THE GIVEN ROWS OF THIS SEAT. 7 by the template 'for every input the law returns true; each argument reads behind the call as it read before'; 0 by the template 'total and deterministic' (their statements: YtojkkgmfccchbaaTotals.lean).
  GIVEN WITH THE SEED: the statements are not yours to turn. If you find one false, say at which input.
  Laid BY PROGRAM, IN A SANDBOX (cutbox-rows.mjs): the forced cells as the released guide's own fill.sh prints them over the translation bb165749fbcdb94a… (all of the seat's roots in one cut). By AI agents, Wed Nov 11 2026. No macro, syntax, notation, axiom, sorry.
-/
import Derived.Test.YtojkkgmfccchbaaChecked
import GoSem.Claim
import GoSem.ClaimJoined
import GoSem.ClaimMapViews
import Derived.JoinedTies
import Derived.KernelRfl
namespace Go.Proofs.Ytojkkgmfccchbaa
/- THE CELL 'sum', in the pinned program and in every row, IS THE sha256 OF THE DUMP (.gsa) THAT YtojkkgmfccchbaaProg.lean LOADS. Nothing in Lean hashes anything: it is a label: what it is worth is what the hold of that sum in a sandbox is worth. -/
noncomputable def Try.pinned : Pinned := { name := "ytojkkgmfccchbaa", sum := "bb165749fbcdb94ade6905069b0e188cb4c51f5fdd55049c4c090ac0374ebc2c", checked := Try.checked }
namespace Rows
def none {H : Type} : Left H := { results := [], args := [] }

/-- 'cabochonlaw05.ClockOf': WHATEVER THE INPUT: true; the input reads as it did. -/
def clockOfSpec : ChangeSpec := { name := "clockOf", fn := fun _ => fun
  | [d1, d2, d3] => { results := [.lit (.bool true)], args := [d1, d2, d3] }
  | _ => none }
def clockOfRow : OpenClaim := { program := "ytojkkgmfccchbaa", sum := "bb165749fbcdb94ade6905069b0e188cb4c51f5fdd55049c4c090ac0374ebc2c", func := "cabochon/cabochonlaw05.ClockOf", spec := "clockOf", apart := false }
def ClockOfSaid : Prop := clockOfRow.holds Try.pinned (OpenSpec.ofChange clockOfSpec)

/-- ITS FALSE NEIGHBOUR: 'it returns false'. Refute it at one input. -/
def clockOfWrong : ChangeSpec := { name := "clockOf", fn := fun _ => fun
  | [d1, d2, d3] => { results := [.lit (.bool false)], args := [d1, d2, d3] }
  | _ => none }
def ClockOfWrongFalsely : Prop := clockOfRow.holds Try.pinned (OpenSpec.ofChange clockOfWrong)

/-- 'cabochonlaw05.ClockAdds': WHATEVER THE INPUT: true; the input reads as it did. -/
def clockAddsSpec : ChangeSpec := { name := "clockAdds", fn := fun _ => fun
  | [d] => { results := [.lit (.bool true)], args := [d] }
  | _ => none }
def clockAddsRow : OpenClaim := { program := "ytojkkgmfccchbaa", sum := "bb165749fbcdb94ade6905069b0e188cb4c51f5fdd55049c4c090ac0374ebc2c", func := "cabochon/cabochonlaw05.ClockAdds", spec := "clockAdds", apart := false }
def ClockAddsSaid : Prop := clockAddsRow.holds Try.pinned (OpenSpec.ofChange clockAddsSpec)

/-- ITS FALSE NEIGHBOUR: 'it returns false'. Refute it at one input. -/
def clockAddsWrong : ChangeSpec := { name := "clockAdds", fn := fun _ => fun
  | [d] => { results := [.lit (.bool false)], args := [d] }
  | _ => none }
def ClockAddsWrongFalsely : Prop := clockAddsRow.holds Try.pinned (OpenSpec.ofChange clockAddsWrong)

/-- 'cabochonlaw05.ClockBetween': WHATEVER THE INPUT: true; the input reads as it did. -/
def clockBetweenSpec : ChangeSpec := { name := "clockBetween", fn := fun _ => fun
  | [d] => { results := [.lit (.bool true)], args := [d] }
  | _ => none }
def clockBetweenRow : OpenClaim := { program := "ytojkkgmfccchbaa", sum := "bb165749fbcdb94ade6905069b0e188cb4c51f5fdd55049c4c090ac0374ebc2c", func := "cabochon/cabochonlaw05.ClockBetween", spec := "clockBetween", apart := false }
def ClockBetweenSaid : Prop := clockBetweenRow.holds Try.pinned (OpenSpec.ofChange clockBetweenSpec)

/-- ITS FALSE NEIGHBOUR: 'it returns false'. Refute it at one input. -/
def clockBetweenWrong : ChangeSpec := { name := "clockBetween", fn := fun _ => fun
  | [d] => { results := [.lit (.bool false)], args := [d] }
  | _ => none }
def ClockBetweenWrongFalsely : Prop := clockBetweenRow.holds Try.pinned (OpenSpec.ofChange clockBetweenWrong)

/-- 'cabochonlaw05.ClockZones': WHATEVER THE INPUT: true; the input reads as it did. -/
def clockZonesSpec : ChangeSpec := { name := "clockZones", fn := fun _ => fun
  | [d] => { results := [.lit (.bool true)], args := [d] }
  | _ => none }
def clockZonesRow : OpenClaim := { program := "ytojkkgmfccchbaa", sum := "bb165749fbcdb94ade6905069b0e188cb4c51f5fdd55049c4c090ac0374ebc2c", func := "cabochon/cabochonlaw05.ClockZones", spec := "clockZones", unfollowed := true, recurses := true, apart := false }
def ClockZonesSaid : Prop := clockZonesRow.holds Try.pinned (OpenSpec.ofChange clockZonesSpec)

/-- ITS FALSE NEIGHBOUR: 'it returns false'. Refute it at one input. -/
def clockZonesWrong : ChangeSpec := { name := "clockZones", fn := fun _ => fun
  | [d] => { results := [.lit (.bool false)], args := [d] }
  | _ => none }
def ClockZonesWrongFalsely : Prop := clockZonesRow.holds Try.pinned (OpenSpec.ofChange clockZonesWrong)

/-- 'cabochonlaw05.ClockBack': WHATEVER THE INPUT: true; the input reads as it did. -/
def clockBackSpec : ChangeSpec := { name := "clockBack", fn := fun _ => fun
  | [d1, d2] => { results := [.lit (.bool true)], args := [d1, d2] }
  | _ => none }
def clockBackRow : OpenClaim := { program := "ytojkkgmfccchbaa", sum := "bb165749fbcdb94ade6905069b0e188cb4c51f5fdd55049c4c090ac0374ebc2c", func := "cabochon/cabochonlaw05.ClockBack", spec := "clockBack", unfollowed := true, recurses := true, apart := false }
def ClockBackSaid : Prop := clockBackRow.holds Try.pinned (OpenSpec.ofChange clockBackSpec)

/-- ITS FALSE NEIGHBOUR: 'it returns false'. Refute it at one input. -/
def clockBackWrong : ChangeSpec := { name := "clockBack", fn := fun _ => fun
  | [d1, d2] => { results := [.lit (.bool false)], args := [d1, d2] }
  | _ => none }
def ClockBackWrongFalsely : Prop := clockBackRow.holds Try.pinned (OpenSpec.ofChange clockBackWrong)

/-- 'cabochonlaw05.ClockGaps': WHATEVER THE INPUT: true; the input reads as it did. -/
def clockGapsSpec : ChangeSpec := { name := "clockGaps", fn := fun _ => fun
  | [d1, d2, d3] => { results := [.lit (.bool true)], args := [d1, d2, d3] }
  | _ => none }
def clockGapsRow : OpenClaim := { program := "ytojkkgmfccchbaa", sum := "bb165749fbcdb94ade6905069b0e188cb4c51f5fdd55049c4c090ac0374ebc2c", func := "cabochon/cabochonlaw05.ClockGaps", spec := "clockGaps", unfollowed := true, recurses := true, apart := false }
def ClockGapsSaid : Prop := clockGapsRow.holds Try.pinned (OpenSpec.ofChange clockGapsSpec)

/-- ITS FALSE NEIGHBOUR: 'it returns false'. Refute it at one input. -/
def clockGapsWrong : ChangeSpec := { name := "clockGaps", fn := fun _ => fun
  | [d1, d2, d3] => { results := [.lit (.bool false)], args := [d1, d2, d3] }
  | _ => none }
def ClockGapsWrongFalsely : Prop := clockGapsRow.holds Try.pinned (OpenSpec.ofChange clockGapsWrong)

/-- 'cabochonlaw05.ClockWalks': WHATEVER THE INPUT: true; the input reads as it did. -/
def clockWalksSpec : ChangeSpec := { name := "clockWalks", fn := fun _ => fun
  | [d] => { results := [.lit (.bool true)], args := [d] }
  | _ => none }
def clockWalksRow : OpenClaim := { program := "ytojkkgmfccchbaa", sum := "bb165749fbcdb94ade6905069b0e188cb4c51f5fdd55049c4c090ac0374ebc2c", func := "cabochon/cabochonlaw05.ClockWalks", spec := "clockWalks", apart := false }
def ClockWalksSaid : Prop := clockWalksRow.holds Try.pinned (OpenSpec.ofChange clockWalksSpec)

/-- ITS FALSE NEIGHBOUR: 'it returns false'. Refute it at one input. -/
def clockWalksWrong : ChangeSpec := { name := "clockWalks", fn := fun _ => fun
  | [d] => { results := [.lit (.bool false)], args := [d] }
  | _ => none }
def ClockWalksWrongFalsely : Prop := clockWalksRow.holds Try.pinned (OpenSpec.ofChange clockWalksWrong)

/- THE SECOND FORM. 'bulk': how many values and letters a reading holds, each counted each time it is reached (what is shared counts as often as it is met; a slice's spare places count too). A statement '..UptoSaid' is the law's where the arguments, and the package variables that the reading takes, are together of bulk at most 1048576: NARROWER than '..Said'. Prove '..Said' where nothing that the law and all that it calls make is longer than what came in: it says more and counts as full. Else prove '..UptoSaid'. A law counts once. -/
mutual
def uptoBulk {H : Type} : DataW H → Nat
  | .lit (.string bytes) => bytes.length + 1
  | .lit _ => 1
  | .nil => 1
  | .ptr d => uptoBulk d + 1
  | .slice elems spare => uptoBulkAll elems + uptoBulkAll spare + 1
  | .agg parts => uptoBulkAll parts + 1
  | .iface _ d => uptoBulk d + 1
  | .map entries => uptoBulkEntries entries + 1
  | .held _ => 1
def uptoBulkAll {H : Type} : List (DataW H) → Nat
  | [] => 0
  | d :: r => uptoBulk d + uptoBulkAll r
def uptoBulkEntries {H : Type} : List (Lit × DataW H) → Nat
  | [] => 0
  | x :: r => uptoBulkEntry x + uptoBulkEntries r
def uptoBulkEntry {H : Type} : Lit × DataW H → Nat
  | (.string bytes, d) => bytes.length + uptoBulk d + 1
  | (_, d) => uptoBulk d + 1
 end
def uptoSmall : (H : Type) → List (DataW H) → Bool := fun _ ds => decide (uptoBulkAll ds ≤ 1048576)
def OpenSpec.upto (s : _root_.Go.ChangeSpec) : _root_.Go.OpenSpec := { _root_.Go.OpenSpec.ofChange s with cond := some uptoSmall }

/-- 'cabochonlaw05.ClockOf', WHERE WHAT IT READS IS OF BULK AT MOST 1048576: true; the input reads as it did. -/
def clockOfUptoRow : OpenClaim := { program := "ytojkkgmfccchbaa", sum := "bb165749fbcdb94ade6905069b0e188cb4c51f5fdd55049c4c090ac0374ebc2c", func := "cabochon/cabochonlaw05.ClockOf", spec := "clockOf", apart := false, narrowed := true }
def ClockOfUptoSaid : Prop := clockOfUptoRow.holds Try.pinned (OpenSpec.upto clockOfSpec)

/-- 'cabochonlaw05.ClockAdds', WHERE WHAT IT READS IS OF BULK AT MOST 1048576: true; the input reads as it did. -/
def clockAddsUptoRow : OpenClaim := { program := "ytojkkgmfccchbaa", sum := "bb165749fbcdb94ade6905069b0e188cb4c51f5fdd55049c4c090ac0374ebc2c", func := "cabochon/cabochonlaw05.ClockAdds", spec := "clockAdds", apart := false, narrowed := true }
def ClockAddsUptoSaid : Prop := clockAddsUptoRow.holds Try.pinned (OpenSpec.upto clockAddsSpec)

/-- 'cabochonlaw05.ClockBetween', WHERE WHAT IT READS IS OF BULK AT MOST 1048576: true; the input reads as it did. -/
def clockBetweenUptoRow : OpenClaim := { program := "ytojkkgmfccchbaa", sum := "bb165749fbcdb94ade6905069b0e188cb4c51f5fdd55049c4c090ac0374ebc2c", func := "cabochon/cabochonlaw05.ClockBetween", spec := "clockBetween", apart := false, narrowed := true }
def ClockBetweenUptoSaid : Prop := clockBetweenUptoRow.holds Try.pinned (OpenSpec.upto clockBetweenSpec)

/-- 'cabochonlaw05.ClockZones', WHERE WHAT IT READS IS OF BULK AT MOST 1048576: true; the input reads as it did. -/
def clockZonesUptoRow : OpenClaim := { program := "ytojkkgmfccchbaa", sum := "bb165749fbcdb94ade6905069b0e188cb4c51f5fdd55049c4c090ac0374ebc2c", func := "cabochon/cabochonlaw05.ClockZones", spec := "clockZones", unfollowed := true, recurses := true, apart := false, narrowed := true }
def ClockZonesUptoSaid : Prop := clockZonesUptoRow.holds Try.pinned (OpenSpec.upto clockZonesSpec)

/-- 'cabochonlaw05.ClockBack', WHERE WHAT IT READS IS OF BULK AT MOST 1048576: true; the input reads as it did. -/
def clockBackUptoRow : OpenClaim := { program := "ytojkkgmfccchbaa", sum := "bb165749fbcdb94ade6905069b0e188cb4c51f5fdd55049c4c090ac0374ebc2c", func := "cabochon/cabochonlaw05.ClockBack", spec := "clockBack", unfollowed := true, recurses := true, apart := false, narrowed := true }
def ClockBackUptoSaid : Prop := clockBackUptoRow.holds Try.pinned (OpenSpec.upto clockBackSpec)

/-- 'cabochonlaw05.ClockGaps', WHERE WHAT IT READS IS OF BULK AT MOST 1048576: true; the input reads as it did. -/
def clockGapsUptoRow : OpenClaim := { program := "ytojkkgmfccchbaa", sum := "bb165749fbcdb94ade6905069b0e188cb4c51f5fdd55049c4c090ac0374ebc2c", func := "cabochon/cabochonlaw05.ClockGaps", spec := "clockGaps", unfollowed := true, recurses := true, apart := false, narrowed := true }
def ClockGapsUptoSaid : Prop := clockGapsUptoRow.holds Try.pinned (OpenSpec.upto clockGapsSpec)

/-- 'cabochonlaw05.ClockWalks', WHERE WHAT IT READS IS OF BULK AT MOST 1048576: true; the input reads as it did. -/
def clockWalksUptoRow : OpenClaim := { program := "ytojkkgmfccchbaa", sum := "bb165749fbcdb94ade6905069b0e188cb4c51f5fdd55049c4c090ac0374ebc2c", func := "cabochon/cabochonlaw05.ClockWalks", spec := "clockWalks", apart := false, narrowed := true }
def ClockWalksUptoSaid : Prop := clockWalksUptoRow.holds Try.pinned (OpenSpec.upto clockWalksSpec)

end Rows
end Go.Proofs.Ytojkkgmfccchbaa
