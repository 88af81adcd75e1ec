/-
  No cell of these rows narrows 'for every input' (looked for: loops, veiled, ifaces, maps, wideKeys, modest, calm, conditions, laid).
  DERIVED. THE GIVEN ROWS OF THIS SEAT. 6 by the template 'for every input the law returns true; each argument reads behind the call as it read before'; 0 by the template 'total and deterministic' (their statements: YtgibncpgdbldnabTotals.lean).
  GIVEN WITH THE SEED: the statements are not yours to turn. If you find one false, say at which input.
  Laid BY PROGRAM, IN A SANDBOX (cutbox-rows.mjs): the forced cells as the released guide's own fill.sh prints them over the translation 9c3e6e3fd84f62b3… (all of the seat's roots in one cut). By AI agents, Wed Nov 11 2026. No macro, syntax, notation, axiom, sorry.
-/
import Derived.Test.YtgibncpgdbldnabChecked
import GoSem.Claim
import GoSem.ClaimJoined
import GoSem.ClaimMapViews
import Derived.JoinedTies
import Derived.KernelRfl
namespace Go.Proofs.Ytgibncpgdbldnab
/- THE CELL 'sum', in the pinned program and in every row, IS THE sha256 OF THE DUMP (.gsa) THAT YtgibncpgdbldnabProg.lean LOADS. Nothing in Lean hashes anything: it is a label: what it is worth is what the hold of that sum in a sandbox is worth. -/
noncomputable def Try.pinned : Pinned := { name := "ytgibncpgdbldnab", sum := "9c3e6e3fd84f62b3ad69a445334ed043b09751c9107a82c74de2f150b9592184", checked := Try.checked }
namespace Rows
def none {H : Type} : Left H := { results := [], args := [] }

/-- 'laws.FnExactNeedsOk': WHATEVER THE INPUT: true; the input reads as it did. -/
def fnExactNeedsOkSpec : ChangeSpec := { name := "fnExactNeedsOk", fn := fun _ => fun
  | [d1, d2] => { results := [.lit (.bool true)], args := [d1, d2] }
  | _ => none }
def fnExactNeedsOkRow : OpenClaim := { program := "ytgibncpgdbldnab", sum := "9c3e6e3fd84f62b3ad69a445334ed043b09751c9107a82c74de2f150b9592184", func := "loop.example/firingnets/laws.FnExactNeedsOk", spec := "fnExactNeedsOk", apart := false }
def FnExactNeedsOkSaid : Prop := fnExactNeedsOkRow.holds Try.pinned (OpenSpec.ofChange fnExactNeedsOkSpec)

/-- ITS FALSE NEIGHBOUR: 'it returns false'. Refute it at one input. -/
def fnExactNeedsOkWrong : ChangeSpec := { name := "fnExactNeedsOk", fn := fun _ => fun
  | [d1, d2] => { results := [.lit (.bool false)], args := [d1, d2] }
  | _ => none }
def FnExactNeedsOkWrongFalsely : Prop := fnExactNeedsOkRow.holds Try.pinned (OpenSpec.ofChange fnExactNeedsOkWrong)

/-- 'laws.FnExactNeedStep': WHATEVER THE INPUT: true; the input reads as it did. -/
def fnExactNeedStepSpec : ChangeSpec := { name := "fnExactNeedStep", fn := fun _ => fun
  | [d1, d2, d3, d4] => { results := [.lit (.bool true)], args := [d1, d2, d3, d4] }
  | _ => none }
def fnExactNeedStepRow : OpenClaim := { program := "ytgibncpgdbldnab", sum := "9c3e6e3fd84f62b3ad69a445334ed043b09751c9107a82c74de2f150b9592184", func := "loop.example/firingnets/laws.FnExactNeedStep", spec := "fnExactNeedStep", apart := false }
def FnExactNeedStepSaid : Prop := fnExactNeedStepRow.holds Try.pinned (OpenSpec.ofChange fnExactNeedStepSpec)

/-- ITS FALSE NEIGHBOUR: 'it returns false'. Refute it at one input. -/
def fnExactNeedStepWrong : ChangeSpec := { name := "fnExactNeedStep", fn := fun _ => fun
  | [d1, d2, d3, d4] => { results := [.lit (.bool false)], args := [d1, d2, d3, d4] }
  | _ => none }
def FnExactNeedStepWrongFalsely : Prop := fnExactNeedStepRow.holds Try.pinned (OpenSpec.ofChange fnExactNeedStepWrong)

/-- 'laws.FnExactSpreadSet': WHATEVER THE INPUT: true; the input reads as it did. -/
def fnExactSpreadSetSpec : ChangeSpec := { name := "fnExactSpreadSet", fn := fun _ => fun
  | [d1, d2, d3] => { results := [.lit (.bool true)], args := [d1, d2, d3] }
  | _ => none }
def fnExactSpreadSetRow : OpenClaim := { program := "ytgibncpgdbldnab", sum := "9c3e6e3fd84f62b3ad69a445334ed043b09751c9107a82c74de2f150b9592184", func := "loop.example/firingnets/laws.FnExactSpreadSet", spec := "fnExactSpreadSet", unfollowed := true, recurses := true, apart := false }
def FnExactSpreadSetSaid : Prop := fnExactSpreadSetRow.holds Try.pinned (OpenSpec.ofChange fnExactSpreadSetSpec)

/-- ITS FALSE NEIGHBOUR: 'it returns false'. Refute it at one input. -/
def fnExactSpreadSetWrong : ChangeSpec := { name := "fnExactSpreadSet", fn := fun _ => fun
  | [d1, d2, d3] => { results := [.lit (.bool false)], args := [d1, d2, d3] }
  | _ => none }
def FnExactSpreadSetWrongFalsely : Prop := fnExactSpreadSetRow.holds Try.pinned (OpenSpec.ofChange fnExactSpreadSetWrong)

/-- 'laws.FnExactLeastSpark': WHATEVER THE INPUT: true; the input reads as it did. -/
def fnExactLeastSparkSpec : ChangeSpec := { name := "fnExactLeastSpark", fn := fun _ => fun
  | [d1, d2] => { results := [.lit (.bool true)], args := [d1, d2] }
  | _ => none }
def fnExactLeastSparkRow : OpenClaim := { program := "ytgibncpgdbldnab", sum := "9c3e6e3fd84f62b3ad69a445334ed043b09751c9107a82c74de2f150b9592184", func := "loop.example/firingnets/laws.FnExactLeastSpark", spec := "fnExactLeastSpark", unfollowed := true, recurses := true, apart := false }
def FnExactLeastSparkSaid : Prop := fnExactLeastSparkRow.holds Try.pinned (OpenSpec.ofChange fnExactLeastSparkSpec)

/-- ITS FALSE NEIGHBOUR: 'it returns false'. Refute it at one input. -/
def fnExactLeastSparkWrong : ChangeSpec := { name := "fnExactLeastSpark", fn := fun _ => fun
  | [d1, d2] => { results := [.lit (.bool false)], args := [d1, d2] }
  | _ => none }
def FnExactLeastSparkWrongFalsely : Prop := fnExactLeastSparkRow.holds Try.pinned (OpenSpec.ofChange fnExactLeastSparkWrong)

/-- 'laws.FnExactOneByOne': WHATEVER THE INPUT: true; the input reads as it did. -/
def fnExactOneByOneSpec : ChangeSpec := { name := "fnExactOneByOne", fn := fun _ => fun
  | [d1, d2, d3, d4] => { results := [.lit (.bool true)], args := [d1, d2, d3, d4] }
  | _ => none }
def fnExactOneByOneRow : OpenClaim := { program := "ytgibncpgdbldnab", sum := "9c3e6e3fd84f62b3ad69a445334ed043b09751c9107a82c74de2f150b9592184", func := "loop.example/firingnets/laws.FnExactOneByOne", spec := "fnExactOneByOne", unfollowed := true, recurses := true, apart := false }
def FnExactOneByOneSaid : Prop := fnExactOneByOneRow.holds Try.pinned (OpenSpec.ofChange fnExactOneByOneSpec)

/-- ITS FALSE NEIGHBOUR: 'it returns false'. Refute it at one input. -/
def fnExactOneByOneWrong : ChangeSpec := { name := "fnExactOneByOne", fn := fun _ => fun
  | [d1, d2, d3, d4] => { results := [.lit (.bool false)], args := [d1, d2, d3, d4] }
  | _ => none }
def FnExactOneByOneWrongFalsely : Prop := fnExactOneByOneRow.holds Try.pinned (OpenSpec.ofChange fnExactOneByOneWrong)

/-- 'laws.FnExactNeedRun': WHATEVER THE INPUT: true; the input reads as it did. -/
def fnExactNeedRunSpec : ChangeSpec := { name := "fnExactNeedRun", fn := fun _ => fun
  | [d1, d2, d3, d4, d5] => { results := [.lit (.bool true)], args := [d1, d2, d3, d4, d5] }
  | _ => none }
def fnExactNeedRunRow : OpenClaim := { program := "ytgibncpgdbldnab", sum := "9c3e6e3fd84f62b3ad69a445334ed043b09751c9107a82c74de2f150b9592184", func := "loop.example/firingnets/laws.FnExactNeedRun", spec := "fnExactNeedRun", unfollowed := true, recurses := true, apart := false }
def FnExactNeedRunSaid : Prop := fnExactNeedRunRow.holds Try.pinned (OpenSpec.ofChange fnExactNeedRunSpec)

/-- ITS FALSE NEIGHBOUR: 'it returns false'. Refute it at one input. -/
def fnExactNeedRunWrong : ChangeSpec := { name := "fnExactNeedRun", fn := fun _ => fun
  | [d1, d2, d3, d4, d5] => { results := [.lit (.bool false)], args := [d1, d2, d3, d4, d5] }
  | _ => none }
def FnExactNeedRunWrongFalsely : Prop := fnExactNeedRunRow.holds Try.pinned (OpenSpec.ofChange fnExactNeedRunWrong)

/- THE SECOND FORM. 'bulk': how many values and letters a reading holds, each counted each time it is reached (what is shared counts as often as it is met; a slice's spare places count too). A statement '..UptoSaid' is the law's where the arguments, and the package variables that the reading takes, are together of bulk at most 1048576: NARROWER than '..Said'. Prove '..Said' where nothing that the law and all that it calls make is longer than what came in: it says more and counts as full. Else prove '..UptoSaid'. A law counts once. -/
mutual
def uptoBulk {H : Type} : DataW H → Nat
  | .lit (.string bytes) => bytes.length + 1
  | .lit _ => 1
  | .nil => 1
  | .ptr d => uptoBulk d + 1
  | .slice elems spare => uptoBulkAll elems + uptoBulkAll spare + 1
  | .agg parts => uptoBulkAll parts + 1
  | .iface _ d => uptoBulk d + 1
  | .map entries => uptoBulkEntries entries + 1
  | .held _ => 1
def uptoBulkAll {H : Type} : List (DataW H) → Nat
  | [] => 0
  | d :: r => uptoBulk d + uptoBulkAll r
def uptoBulkEntries {H : Type} : List (Lit × DataW H) → Nat
  | [] => 0
  | x :: r => uptoBulkEntry x + uptoBulkEntries r
def uptoBulkEntry {H : Type} : Lit × DataW H → Nat
  | (.string bytes, d) => bytes.length + uptoBulk d + 1
  | (_, d) => uptoBulk d + 1
 end
def uptoSmall : (H : Type) → List (DataW H) → Bool := fun _ ds => decide (uptoBulkAll ds ≤ 1048576)
def OpenSpec.upto (s : _root_.Go.ChangeSpec) : _root_.Go.OpenSpec := { _root_.Go.OpenSpec.ofChange s with cond := some uptoSmall }

/-- 'laws.FnExactNeedsOk', WHERE WHAT IT READS IS OF BULK AT MOST 1048576: true; the input reads as it did. -/
def fnExactNeedsOkUptoRow : OpenClaim := { program := "ytgibncpgdbldnab", sum := "9c3e6e3fd84f62b3ad69a445334ed043b09751c9107a82c74de2f150b9592184", func := "loop.example/firingnets/laws.FnExactNeedsOk", spec := "fnExactNeedsOk", apart := false, narrowed := true }
def FnExactNeedsOkUptoSaid : Prop := fnExactNeedsOkUptoRow.holds Try.pinned (OpenSpec.upto fnExactNeedsOkSpec)

/-- 'laws.FnExactNeedStep', WHERE WHAT IT READS IS OF BULK AT MOST 1048576: true; the input reads as it did. -/
def fnExactNeedStepUptoRow : OpenClaim := { program := "ytgibncpgdbldnab", sum := "9c3e6e3fd84f62b3ad69a445334ed043b09751c9107a82c74de2f150b9592184", func := "loop.example/firingnets/laws.FnExactNeedStep", spec := "fnExactNeedStep", apart := false, narrowed := true }
def FnExactNeedStepUptoSaid : Prop := fnExactNeedStepUptoRow.holds Try.pinned (OpenSpec.upto fnExactNeedStepSpec)

/-- 'laws.FnExactSpreadSet', WHERE WHAT IT READS IS OF BULK AT MOST 1048576: true; the input reads as it did. -/
def fnExactSpreadSetUptoRow : OpenClaim := { program := "ytgibncpgdbldnab", sum := "9c3e6e3fd84f62b3ad69a445334ed043b09751c9107a82c74de2f150b9592184", func := "loop.example/firingnets/laws.FnExactSpreadSet", spec := "fnExactSpreadSet", unfollowed := true, recurses := true, apart := false, narrowed := true }
def FnExactSpreadSetUptoSaid : Prop := fnExactSpreadSetUptoRow.holds Try.pinned (OpenSpec.upto fnExactSpreadSetSpec)

/-- 'laws.FnExactLeastSpark', WHERE WHAT IT READS IS OF BULK AT MOST 1048576: true; the input reads as it did. -/
def fnExactLeastSparkUptoRow : OpenClaim := { program := "ytgibncpgdbldnab", sum := "9c3e6e3fd84f62b3ad69a445334ed043b09751c9107a82c74de2f150b9592184", func := "loop.example/firingnets/laws.FnExactLeastSpark", spec := "fnExactLeastSpark", unfollowed := true, recurses := true, apart := false, narrowed := true }
def FnExactLeastSparkUptoSaid : Prop := fnExactLeastSparkUptoRow.holds Try.pinned (OpenSpec.upto fnExactLeastSparkSpec)

/-- 'laws.FnExactOneByOne', WHERE WHAT IT READS IS OF BULK AT MOST 1048576: true; the input reads as it did. -/
def fnExactOneByOneUptoRow : OpenClaim := { program := "ytgibncpgdbldnab", sum := "9c3e6e3fd84f62b3ad69a445334ed043b09751c9107a82c74de2f150b9592184", func := "loop.example/firingnets/laws.FnExactOneByOne", spec := "fnExactOneByOne", unfollowed := true, recurses := true, apart := false, narrowed := true }
def FnExactOneByOneUptoSaid : Prop := fnExactOneByOneUptoRow.holds Try.pinned (OpenSpec.upto fnExactOneByOneSpec)

/-- 'laws.FnExactNeedRun', WHERE WHAT IT READS IS OF BULK AT MOST 1048576: true; the input reads as it did. -/
def fnExactNeedRunUptoRow : OpenClaim := { program := "ytgibncpgdbldnab", sum := "9c3e6e3fd84f62b3ad69a445334ed043b09751c9107a82c74de2f150b9592184", func := "loop.example/firingnets/laws.FnExactNeedRun", spec := "fnExactNeedRun", unfollowed := true, recurses := true, apart := false, narrowed := true }
def FnExactNeedRunUptoSaid : Prop := fnExactNeedRunUptoRow.holds Try.pinned (OpenSpec.upto fnExactNeedRunSpec)

end Rows
end Go.Proofs.Ytgibncpgdbldnab
