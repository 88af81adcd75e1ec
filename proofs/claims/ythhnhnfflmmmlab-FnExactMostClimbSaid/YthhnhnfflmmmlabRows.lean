/-
  No cell of these rows narrows 'for every input' (looked for: loops, veiled, ifaces, maps, wideKeys, modest, calm, conditions, laid).
  DERIVED. THE GIVEN ROWS OF THIS SEAT. 5 by the template 'for every input the law returns true; each argument reads behind the call as it read before'; 0 by the template 'total and deterministic' (their statements: YthhnhnfflmmmlabTotals.lean).
  GIVEN WITH THE SEED: the statements are not yours to turn. If you find one false, say at which input.
  Laid BY PROGRAM, IN A SANDBOX (cutbox-rows.mjs): the forced cells as the released guide's own fill.sh prints them over the translation 649d6c28d362a846… (all of the seat's roots in one cut). By AI agents, Wed Nov 11 2026. No macro, syntax, notation, axiom, sorry.
-/
import Derived.Test.YthhnhnfflmmmlabChecked
import GoSem.Claim
import GoSem.ClaimJoined
import GoSem.ClaimMapViews
import Derived.JoinedTies
import Derived.KernelRfl
namespace Go.Proofs.Ythhnhnfflmmmlab
/- THE CELL 'sum', in the pinned program and in every row, IS THE sha256 OF THE DUMP (.gsa) THAT YthhnhnfflmmmlabProg.lean LOADS. Nothing in Lean hashes anything: it is a label: what it is worth is what the hold of that sum in a sandbox is worth. -/
noncomputable def Try.pinned : Pinned := { name := "ythhnhnfflmmmlab", sum := "649d6c28d362a8469dc86c5dd48ad103d6b3a92705e302724c1ceffa56987c7c", checked := Try.checked }
namespace Rows
def none {H : Type} : Left H := { results := [], args := [] }

/-- 'laws.FnExactRiseOf': WHATEVER THE INPUT: true; the input reads as it did. -/
def fnExactRiseOfSpec : ChangeSpec := { name := "fnExactRiseOf", fn := fun _ => fun
  | [d1, d2, d3] => { results := [.lit (.bool true)], args := [d1, d2, d3] }
  | _ => none }
def fnExactRiseOfRow : OpenClaim := { program := "ythhnhnfflmmmlab", sum := "649d6c28d362a8469dc86c5dd48ad103d6b3a92705e302724c1ceffa56987c7c", func := "loop.example/firingnets/laws.FnExactRiseOf", spec := "fnExactRiseOf", apart := false }
def FnExactRiseOfSaid : Prop := fnExactRiseOfRow.holds Try.pinned (OpenSpec.ofChange fnExactRiseOfSpec)

/-- ITS FALSE NEIGHBOUR: 'it returns false'. Refute it at one input. -/
def fnExactRiseOfWrong : ChangeSpec := { name := "fnExactRiseOf", fn := fun _ => fun
  | [d1, d2, d3] => { results := [.lit (.bool false)], args := [d1, d2, d3] }
  | _ => none }
def FnExactRiseOfWrongFalsely : Prop := fnExactRiseOfRow.holds Try.pinned (OpenSpec.ofChange fnExactRiseOfWrong)

/-- 'laws.FnExactTourOk': WHATEVER THE INPUT: true; the input reads as it did. -/
def fnExactTourOkSpec : ChangeSpec := { name := "fnExactTourOk", fn := fun _ => fun
  | [d1, d2] => { results := [.lit (.bool true)], args := [d1, d2] }
  | _ => none }
def fnExactTourOkRow : OpenClaim := { program := "ythhnhnfflmmmlab", sum := "649d6c28d362a8469dc86c5dd48ad103d6b3a92705e302724c1ceffa56987c7c", func := "loop.example/firingnets/laws.FnExactTourOk", spec := "fnExactTourOk", apart := false }
def FnExactTourOkSaid : Prop := fnExactTourOkRow.holds Try.pinned (OpenSpec.ofChange fnExactTourOkSpec)

/-- ITS FALSE NEIGHBOUR: 'it returns false'. Refute it at one input. -/
def fnExactTourOkWrong : ChangeSpec := { name := "fnExactTourOk", fn := fun _ => fun
  | [d1, d2] => { results := [.lit (.bool false)], args := [d1, d2] }
  | _ => none }
def FnExactTourOkWrongFalsely : Prop := fnExactTourOkRow.holds Try.pinned (OpenSpec.ofChange fnExactTourOkWrong)

/-- 'laws.FnExactClimbOf': WHATEVER THE INPUT: true; the input reads as it did. -/
def fnExactClimbOfSpec : ChangeSpec := { name := "fnExactClimbOf", fn := fun _ => fun
  | [d1, d2, d3] => { results := [.lit (.bool true)], args := [d1, d2, d3] }
  | _ => none }
def fnExactClimbOfRow : OpenClaim := { program := "ythhnhnfflmmmlab", sum := "649d6c28d362a8469dc86c5dd48ad103d6b3a92705e302724c1ceffa56987c7c", func := "loop.example/firingnets/laws.FnExactClimbOf", spec := "fnExactClimbOf", apart := false }
def FnExactClimbOfSaid : Prop := fnExactClimbOfRow.holds Try.pinned (OpenSpec.ofChange fnExactClimbOfSpec)

/-- ITS FALSE NEIGHBOUR: 'it returns false'. Refute it at one input. -/
def fnExactClimbOfWrong : ChangeSpec := { name := "fnExactClimbOf", fn := fun _ => fun
  | [d1, d2, d3] => { results := [.lit (.bool false)], args := [d1, d2, d3] }
  | _ => none }
def FnExactClimbOfWrongFalsely : Prop := fnExactClimbOfRow.holds Try.pinned (OpenSpec.ofChange fnExactClimbOfWrong)

/-- 'laws.FnExactMostClimb': WHATEVER THE INPUT: true; the input reads as it did. -/
def fnExactMostClimbSpec : ChangeSpec := { name := "fnExactMostClimb", fn := fun _ => fun
  | [d1, d2, d3] => { results := [.lit (.bool true)], args := [d1, d2, d3] }
  | _ => none }
def fnExactMostClimbRow : OpenClaim := { program := "ythhnhnfflmmmlab", sum := "649d6c28d362a8469dc86c5dd48ad103d6b3a92705e302724c1ceffa56987c7c", func := "loop.example/firingnets/laws.FnExactMostClimb", spec := "fnExactMostClimb", unfollowed := true, recurses := true, apart := false }
def FnExactMostClimbSaid : Prop := fnExactMostClimbRow.holds Try.pinned (OpenSpec.ofChange fnExactMostClimbSpec)

/-- ITS FALSE NEIGHBOUR: 'it returns false'. Refute it at one input. -/
def fnExactMostClimbWrong : ChangeSpec := { name := "fnExactMostClimb", fn := fun _ => fun
  | [d1, d2, d3] => { results := [.lit (.bool false)], args := [d1, d2, d3] }
  | _ => none }
def FnExactMostClimbWrongFalsely : Prop := fnExactMostClimbRow.holds Try.pinned (OpenSpec.ofChange fnExactMostClimbWrong)

/-- 'laws.FnExactBestTour': WHATEVER THE INPUT: true; the input reads as it did. -/
def fnExactBestTourSpec : ChangeSpec := { name := "fnExactBestTour", fn := fun _ => fun
  | [d1, d2, d3, d4] => { results := [.lit (.bool true)], args := [d1, d2, d3, d4] }
  | _ => none }
def fnExactBestTourRow : OpenClaim := { program := "ythhnhnfflmmmlab", sum := "649d6c28d362a8469dc86c5dd48ad103d6b3a92705e302724c1ceffa56987c7c", func := "loop.example/firingnets/laws.FnExactBestTour", spec := "fnExactBestTour", unfollowed := true, recurses := true, apart := false }
def FnExactBestTourSaid : Prop := fnExactBestTourRow.holds Try.pinned (OpenSpec.ofChange fnExactBestTourSpec)

/-- ITS FALSE NEIGHBOUR: 'it returns false'. Refute it at one input. -/
def fnExactBestTourWrong : ChangeSpec := { name := "fnExactBestTour", fn := fun _ => fun
  | [d1, d2, d3, d4] => { results := [.lit (.bool false)], args := [d1, d2, d3, d4] }
  | _ => none }
def FnExactBestTourWrongFalsely : Prop := fnExactBestTourRow.holds Try.pinned (OpenSpec.ofChange fnExactBestTourWrong)

/- THE SECOND FORM. 'bulk': how many values and letters a reading holds, each counted each time it is reached (what is shared counts as often as it is met; a slice's spare places count too). A statement '..UptoSaid' is the law's where the arguments, and the package variables that the reading takes, are together of bulk at most 1048576: NARROWER than '..Said'. Prove '..Said' where nothing that the law and all that it calls make is longer than what came in: it says more and counts as full. Else prove '..UptoSaid'. A law counts once. -/
mutual
def uptoBulk {H : Type} : DataW H → Nat
  | .lit (.string bytes) => bytes.length + 1
  | .lit _ => 1
  | .nil => 1
  | .ptr d => uptoBulk d + 1
  | .slice elems spare => uptoBulkAll elems + uptoBulkAll spare + 1
  | .agg parts => uptoBulkAll parts + 1
  | .iface _ d => uptoBulk d + 1
  | .map entries => uptoBulkEntries entries + 1
  | .held _ => 1
def uptoBulkAll {H : Type} : List (DataW H) → Nat
  | [] => 0
  | d :: r => uptoBulk d + uptoBulkAll r
def uptoBulkEntries {H : Type} : List (Lit × DataW H) → Nat
  | [] => 0
  | x :: r => uptoBulkEntry x + uptoBulkEntries r
def uptoBulkEntry {H : Type} : Lit × DataW H → Nat
  | (.string bytes, d) => bytes.length + uptoBulk d + 1
  | (_, d) => uptoBulk d + 1
 end
def uptoSmall : (H : Type) → List (DataW H) → Bool := fun _ ds => decide (uptoBulkAll ds ≤ 1048576)
def OpenSpec.upto (s : _root_.Go.ChangeSpec) : _root_.Go.OpenSpec := { _root_.Go.OpenSpec.ofChange s with cond := some uptoSmall }

/-- 'laws.FnExactRiseOf', WHERE WHAT IT READS IS OF BULK AT MOST 1048576: true; the input reads as it did. -/
def fnExactRiseOfUptoRow : OpenClaim := { program := "ythhnhnfflmmmlab", sum := "649d6c28d362a8469dc86c5dd48ad103d6b3a92705e302724c1ceffa56987c7c", func := "loop.example/firingnets/laws.FnExactRiseOf", spec := "fnExactRiseOf", apart := false, narrowed := true }
def FnExactRiseOfUptoSaid : Prop := fnExactRiseOfUptoRow.holds Try.pinned (OpenSpec.upto fnExactRiseOfSpec)

/-- 'laws.FnExactTourOk', WHERE WHAT IT READS IS OF BULK AT MOST 1048576: true; the input reads as it did. -/
def fnExactTourOkUptoRow : OpenClaim := { program := "ythhnhnfflmmmlab", sum := "649d6c28d362a8469dc86c5dd48ad103d6b3a92705e302724c1ceffa56987c7c", func := "loop.example/firingnets/laws.FnExactTourOk", spec := "fnExactTourOk", apart := false, narrowed := true }
def FnExactTourOkUptoSaid : Prop := fnExactTourOkUptoRow.holds Try.pinned (OpenSpec.upto fnExactTourOkSpec)

/-- 'laws.FnExactClimbOf', WHERE WHAT IT READS IS OF BULK AT MOST 1048576: true; the input reads as it did. -/
def fnExactClimbOfUptoRow : OpenClaim := { program := "ythhnhnfflmmmlab", sum := "649d6c28d362a8469dc86c5dd48ad103d6b3a92705e302724c1ceffa56987c7c", func := "loop.example/firingnets/laws.FnExactClimbOf", spec := "fnExactClimbOf", apart := false, narrowed := true }
def FnExactClimbOfUptoSaid : Prop := fnExactClimbOfUptoRow.holds Try.pinned (OpenSpec.upto fnExactClimbOfSpec)

/-- 'laws.FnExactMostClimb', WHERE WHAT IT READS IS OF BULK AT MOST 1048576: true; the input reads as it did. -/
def fnExactMostClimbUptoRow : OpenClaim := { program := "ythhnhnfflmmmlab", sum := "649d6c28d362a8469dc86c5dd48ad103d6b3a92705e302724c1ceffa56987c7c", func := "loop.example/firingnets/laws.FnExactMostClimb", spec := "fnExactMostClimb", unfollowed := true, recurses := true, apart := false, narrowed := true }
def FnExactMostClimbUptoSaid : Prop := fnExactMostClimbUptoRow.holds Try.pinned (OpenSpec.upto fnExactMostClimbSpec)

/-- 'laws.FnExactBestTour', WHERE WHAT IT READS IS OF BULK AT MOST 1048576: true; the input reads as it did. -/
def fnExactBestTourUptoRow : OpenClaim := { program := "ythhnhnfflmmmlab", sum := "649d6c28d362a8469dc86c5dd48ad103d6b3a92705e302724c1ceffa56987c7c", func := "loop.example/firingnets/laws.FnExactBestTour", spec := "fnExactBestTour", unfollowed := true, recurses := true, apart := false, narrowed := true }
def FnExactBestTourUptoSaid : Prop := fnExactBestTourUptoRow.holds Try.pinned (OpenSpec.upto fnExactBestTourSpec)

end Rows
end Go.Proofs.Ythhnhnfflmmmlab
