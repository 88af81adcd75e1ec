/-
  No cell of these rows narrows 'for every input' (looked for: loops, veiled, ifaces, maps, wideKeys, modest, calm, conditions, laid).
  DERIVED. THE GIVEN ROWS OF THIS SEAT. 7 by the template 'for every input the law returns true; each argument reads behind the call as it read before'; 0 by the template 'total and deterministic' (their statements: YthhnhnfflmmmlaaTotals.lean).
  GIVEN WITH THE SEED: the statements are not yours to turn. If you find one false, say at which input.
  Laid BY PROGRAM, IN A SANDBOX (cutbox-rows.mjs): the forced cells as the released guide's own fill.sh prints them over the translation 577914c351fbbe91… (all of the seat's roots in one cut). By AI agents, Wed Nov 11 2026. No macro, syntax, notation, axiom, sorry.
-/
import Derived.Test.YthhnhnfflmmmlaaChecked
import GoSem.Claim
import GoSem.ClaimJoined
import GoSem.ClaimMapViews
import Derived.JoinedTies
import Derived.KernelRfl
namespace Go.Proofs.Ythhnhnfflmmmlaa
/- THE CELL 'sum', in the pinned program and in every row, IS THE sha256 OF THE DUMP (.gsa) THAT YthhnhnfflmmmlaaProg.lean LOADS. Nothing in Lean hashes anything: it is a label: what it is worth is what the hold of that sum in a sandbox is worth. -/
noncomputable def Try.pinned : Pinned := { name := "ythhnhnfflmmmlaa", sum := "577914c351fbbe91c7234e9101da37e9e1f4eb595e6613f0ef2c59fe7f032971", checked := Try.checked }
namespace Rows
def none {H : Type} : Left H := { results := [], args := [] }

/-- 'laws.FnRiseOf': WHATEVER THE INPUT: true; the input reads as it did. -/
def fnRiseOfSpec : ChangeSpec := { name := "fnRiseOf", fn := fun _ => fun
  | [d] => { results := [.lit (.bool true)], args := [d] }
  | _ => none }
def fnRiseOfRow : OpenClaim := { program := "ythhnhnfflmmmlaa", sum := "577914c351fbbe91c7234e9101da37e9e1f4eb595e6613f0ef2c59fe7f032971", func := "loop.example/firingnets/laws.FnRiseOf", spec := "fnRiseOf", unfollowed := true, recurses := true, apart := false }
def FnRiseOfSaid : Prop := fnRiseOfRow.holds Try.pinned (OpenSpec.ofChange fnRiseOfSpec)

/-- ITS FALSE NEIGHBOUR: 'it returns false'. Refute it at one input. -/
def fnRiseOfWrong : ChangeSpec := { name := "fnRiseOf", fn := fun _ => fun
  | [d] => { results := [.lit (.bool false)], args := [d] }
  | _ => none }
def FnRiseOfWrongFalsely : Prop := fnRiseOfRow.holds Try.pinned (OpenSpec.ofChange fnRiseOfWrong)

/-- 'laws.FnTourOk': WHATEVER THE INPUT: true; the input reads as it did. -/
def fnTourOkSpec : ChangeSpec := { name := "fnTourOk", fn := fun _ => fun
  | [d] => { results := [.lit (.bool true)], args := [d] }
  | _ => none }
def fnTourOkRow : OpenClaim := { program := "ythhnhnfflmmmlaa", sum := "577914c351fbbe91c7234e9101da37e9e1f4eb595e6613f0ef2c59fe7f032971", func := "loop.example/firingnets/laws.FnTourOk", spec := "fnTourOk", apart := false }
def FnTourOkSaid : Prop := fnTourOkRow.holds Try.pinned (OpenSpec.ofChange fnTourOkSpec)

/-- ITS FALSE NEIGHBOUR: 'it returns false'. Refute it at one input. -/
def fnTourOkWrong : ChangeSpec := { name := "fnTourOk", fn := fun _ => fun
  | [d] => { results := [.lit (.bool false)], args := [d] }
  | _ => none }
def FnTourOkWrongFalsely : Prop := fnTourOkRow.holds Try.pinned (OpenSpec.ofChange fnTourOkWrong)

/-- 'laws.FnClimbOf': WHATEVER THE INPUT: true; the input reads as it did. -/
def fnClimbOfSpec : ChangeSpec := { name := "fnClimbOf", fn := fun _ => fun
  | [d] => { results := [.lit (.bool true)], args := [d] }
  | _ => none }
def fnClimbOfRow : OpenClaim := { program := "ythhnhnfflmmmlaa", sum := "577914c351fbbe91c7234e9101da37e9e1f4eb595e6613f0ef2c59fe7f032971", func := "loop.example/firingnets/laws.FnClimbOf", spec := "fnClimbOf", apart := false }
def FnClimbOfSaid : Prop := fnClimbOfRow.holds Try.pinned (OpenSpec.ofChange fnClimbOfSpec)

/-- ITS FALSE NEIGHBOUR: 'it returns false'. Refute it at one input. -/
def fnClimbOfWrong : ChangeSpec := { name := "fnClimbOf", fn := fun _ => fun
  | [d] => { results := [.lit (.bool false)], args := [d] }
  | _ => none }
def FnClimbOfWrongFalsely : Prop := fnClimbOfRow.holds Try.pinned (OpenSpec.ofChange fnClimbOfWrong)

/-- 'laws.FnMostClimb': WHATEVER THE INPUT: true; the input reads as it did. -/
def fnMostClimbSpec : ChangeSpec := { name := "fnMostClimb", fn := fun _ => fun
  | [d] => { results := [.lit (.bool true)], args := [d] }
  | _ => none }
def fnMostClimbRow : OpenClaim := { program := "ythhnhnfflmmmlaa", sum := "577914c351fbbe91c7234e9101da37e9e1f4eb595e6613f0ef2c59fe7f032971", func := "loop.example/firingnets/laws.FnMostClimb", spec := "fnMostClimb", unfollowed := true, recurses := true, apart := false }
def FnMostClimbSaid : Prop := fnMostClimbRow.holds Try.pinned (OpenSpec.ofChange fnMostClimbSpec)

/-- ITS FALSE NEIGHBOUR: 'it returns false'. Refute it at one input. -/
def fnMostClimbWrong : ChangeSpec := { name := "fnMostClimb", fn := fun _ => fun
  | [d] => { results := [.lit (.bool false)], args := [d] }
  | _ => none }
def FnMostClimbWrongFalsely : Prop := fnMostClimbRow.holds Try.pinned (OpenSpec.ofChange fnMostClimbWrong)

/-- 'laws.FnBestTour': WHATEVER THE INPUT: true; the input reads as it did. -/
def fnBestTourSpec : ChangeSpec := { name := "fnBestTour", fn := fun _ => fun
  | [d1, d2] => { results := [.lit (.bool true)], args := [d1, d2] }
  | _ => none }
def fnBestTourRow : OpenClaim := { program := "ythhnhnfflmmmlaa", sum := "577914c351fbbe91c7234e9101da37e9e1f4eb595e6613f0ef2c59fe7f032971", func := "loop.example/firingnets/laws.FnBestTour", spec := "fnBestTour", unfollowed := true, recurses := true, apart := false }
def FnBestTourSaid : Prop := fnBestTourRow.holds Try.pinned (OpenSpec.ofChange fnBestTourSpec)

/-- ITS FALSE NEIGHBOUR: 'it returns false'. Refute it at one input. -/
def fnBestTourWrong : ChangeSpec := { name := "fnBestTour", fn := fun _ => fun
  | [d1, d2] => { results := [.lit (.bool false)], args := [d1, d2] }
  | _ => none }
def FnBestTourWrongFalsely : Prop := fnBestTourRow.holds Try.pinned (OpenSpec.ofChange fnBestTourWrong)

/-- 'laws.FnClimbParts': WHATEVER THE INPUT: true; the input reads as it did. -/
def fnClimbPartsSpec : ChangeSpec := { name := "fnClimbParts", fn := fun _ => fun
  | [d] => { results := [.lit (.bool true)], args := [d] }
  | _ => none }
def fnClimbPartsRow : OpenClaim := { program := "ythhnhnfflmmmlaa", sum := "577914c351fbbe91c7234e9101da37e9e1f4eb595e6613f0ef2c59fe7f032971", func := "loop.example/firingnets/laws.FnClimbParts", spec := "fnClimbParts", apart := false }
def FnClimbPartsSaid : Prop := fnClimbPartsRow.holds Try.pinned (OpenSpec.ofChange fnClimbPartsSpec)

/-- ITS FALSE NEIGHBOUR: 'it returns false'. Refute it at one input. -/
def fnClimbPartsWrong : ChangeSpec := { name := "fnClimbParts", fn := fun _ => fun
  | [d] => { results := [.lit (.bool false)], args := [d] }
  | _ => none }
def FnClimbPartsWrongFalsely : Prop := fnClimbPartsRow.holds Try.pinned (OpenSpec.ofChange fnClimbPartsWrong)

/-- 'laws.FnClimbRound': WHATEVER THE INPUT: true; the input reads as it did. -/
def fnClimbRoundSpec : ChangeSpec := { name := "fnClimbRound", fn := fun _ => fun
  | [d] => { results := [.lit (.bool true)], args := [d] }
  | _ => none }
def fnClimbRoundRow : OpenClaim := { program := "ythhnhnfflmmmlaa", sum := "577914c351fbbe91c7234e9101da37e9e1f4eb595e6613f0ef2c59fe7f032971", func := "loop.example/firingnets/laws.FnClimbRound", spec := "fnClimbRound", apart := false }
def FnClimbRoundSaid : Prop := fnClimbRoundRow.holds Try.pinned (OpenSpec.ofChange fnClimbRoundSpec)

/-- ITS FALSE NEIGHBOUR: 'it returns false'. Refute it at one input. -/
def fnClimbRoundWrong : ChangeSpec := { name := "fnClimbRound", fn := fun _ => fun
  | [d] => { results := [.lit (.bool false)], args := [d] }
  | _ => none }
def FnClimbRoundWrongFalsely : Prop := fnClimbRoundRow.holds Try.pinned (OpenSpec.ofChange fnClimbRoundWrong)

/- THE SECOND FORM. 'bulk': how many values and letters a reading holds, each counted each time it is reached (what is shared counts as often as it is met; a slice's spare places count too). A statement '..UptoSaid' is the law's where the arguments, and the package variables that the reading takes, are together of bulk at most 1048576: NARROWER than '..Said'. Prove '..Said' where nothing that the law and all that it calls make is longer than what came in: it says more and counts as full. Else prove '..UptoSaid'. A law counts once. -/
mutual
def uptoBulk {H : Type} : DataW H → Nat
  | .lit (.string bytes) => bytes.length + 1
  | .lit _ => 1
  | .nil => 1
  | .ptr d => uptoBulk d + 1
  | .slice elems spare => uptoBulkAll elems + uptoBulkAll spare + 1
  | .agg parts => uptoBulkAll parts + 1
  | .iface _ d => uptoBulk d + 1
  | .map entries => uptoBulkEntries entries + 1
  | .held _ => 1
def uptoBulkAll {H : Type} : List (DataW H) → Nat
  | [] => 0
  | d :: r => uptoBulk d + uptoBulkAll r
def uptoBulkEntries {H : Type} : List (Lit × DataW H) → Nat
  | [] => 0
  | x :: r => uptoBulkEntry x + uptoBulkEntries r
def uptoBulkEntry {H : Type} : Lit × DataW H → Nat
  | (.string bytes, d) => bytes.length + uptoBulk d + 1
  | (_, d) => uptoBulk d + 1
 end
def uptoSmall : (H : Type) → List (DataW H) → Bool := fun _ ds => decide (uptoBulkAll ds ≤ 1048576)
def OpenSpec.upto (s : _root_.Go.ChangeSpec) : _root_.Go.OpenSpec := { _root_.Go.OpenSpec.ofChange s with cond := some uptoSmall }

/-- 'laws.FnRiseOf', WHERE WHAT IT READS IS OF BULK AT MOST 1048576: true; the input reads as it did. -/
def fnRiseOfUptoRow : OpenClaim := { program := "ythhnhnfflmmmlaa", sum := "577914c351fbbe91c7234e9101da37e9e1f4eb595e6613f0ef2c59fe7f032971", func := "loop.example/firingnets/laws.FnRiseOf", spec := "fnRiseOf", unfollowed := true, recurses := true, apart := false, narrowed := true }
def FnRiseOfUptoSaid : Prop := fnRiseOfUptoRow.holds Try.pinned (OpenSpec.upto fnRiseOfSpec)

/-- 'laws.FnTourOk', WHERE WHAT IT READS IS OF BULK AT MOST 1048576: true; the input reads as it did. -/
def fnTourOkUptoRow : OpenClaim := { program := "ythhnhnfflmmmlaa", sum := "577914c351fbbe91c7234e9101da37e9e1f4eb595e6613f0ef2c59fe7f032971", func := "loop.example/firingnets/laws.FnTourOk", spec := "fnTourOk", apart := false, narrowed := true }
def FnTourOkUptoSaid : Prop := fnTourOkUptoRow.holds Try.pinned (OpenSpec.upto fnTourOkSpec)

/-- 'laws.FnClimbOf', WHERE WHAT IT READS IS OF BULK AT MOST 1048576: true; the input reads as it did. -/
def fnClimbOfUptoRow : OpenClaim := { program := "ythhnhnfflmmmlaa", sum := "577914c351fbbe91c7234e9101da37e9e1f4eb595e6613f0ef2c59fe7f032971", func := "loop.example/firingnets/laws.FnClimbOf", spec := "fnClimbOf", apart := false, narrowed := true }
def FnClimbOfUptoSaid : Prop := fnClimbOfUptoRow.holds Try.pinned (OpenSpec.upto fnClimbOfSpec)

/-- 'laws.FnMostClimb', WHERE WHAT IT READS IS OF BULK AT MOST 1048576: true; the input reads as it did. -/
def fnMostClimbUptoRow : OpenClaim := { program := "ythhnhnfflmmmlaa", sum := "577914c351fbbe91c7234e9101da37e9e1f4eb595e6613f0ef2c59fe7f032971", func := "loop.example/firingnets/laws.FnMostClimb", spec := "fnMostClimb", unfollowed := true, recurses := true, apart := false, narrowed := true }
def FnMostClimbUptoSaid : Prop := fnMostClimbUptoRow.holds Try.pinned (OpenSpec.upto fnMostClimbSpec)

/-- 'laws.FnBestTour', WHERE WHAT IT READS IS OF BULK AT MOST 1048576: true; the input reads as it did. -/
def fnBestTourUptoRow : OpenClaim := { program := "ythhnhnfflmmmlaa", sum := "577914c351fbbe91c7234e9101da37e9e1f4eb595e6613f0ef2c59fe7f032971", func := "loop.example/firingnets/laws.FnBestTour", spec := "fnBestTour", unfollowed := true, recurses := true, apart := false, narrowed := true }
def FnBestTourUptoSaid : Prop := fnBestTourUptoRow.holds Try.pinned (OpenSpec.upto fnBestTourSpec)

/-- 'laws.FnClimbParts', WHERE WHAT IT READS IS OF BULK AT MOST 1048576: true; the input reads as it did. -/
def fnClimbPartsUptoRow : OpenClaim := { program := "ythhnhnfflmmmlaa", sum := "577914c351fbbe91c7234e9101da37e9e1f4eb595e6613f0ef2c59fe7f032971", func := "loop.example/firingnets/laws.FnClimbParts", spec := "fnClimbParts", apart := false, narrowed := true }
def FnClimbPartsUptoSaid : Prop := fnClimbPartsUptoRow.holds Try.pinned (OpenSpec.upto fnClimbPartsSpec)

/-- 'laws.FnClimbRound', WHERE WHAT IT READS IS OF BULK AT MOST 1048576: true; the input reads as it did. -/
def fnClimbRoundUptoRow : OpenClaim := { program := "ythhnhnfflmmmlaa", sum := "577914c351fbbe91c7234e9101da37e9e1f4eb595e6613f0ef2c59fe7f032971", func := "loop.example/firingnets/laws.FnClimbRound", spec := "fnClimbRound", apart := false, narrowed := true }
def FnClimbRoundUptoSaid : Prop := fnClimbRoundUptoRow.holds Try.pinned (OpenSpec.upto fnClimbRoundSpec)

end Rows
end Go.Proofs.Ythhnhnfflmmmlaa
