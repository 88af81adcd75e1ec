/-
  No cell of these rows narrows 'for every input' (looked for: loops, veiled, ifaces, maps, wideKeys, modest, calm, conditions, laid).
  DERIVED. THE GIVEN ROWS OF THIS SEAT. 5 by the template 'for every input the law returns true; each argument reads behind the call as it read before'; 0 by the template 'total and deterministic' (their statements: YtoeojopjdeclnabTotals.lean).
  GIVEN WITH THE SEED: the statements are not yours to turn. If you find one false, say at which input.
  Laid BY PROGRAM, IN A SANDBOX (cutbox-rows.mjs): the forced cells as the released guide's own fill.sh prints them over the translation cd18ac787a60add3… (all of the seat's roots in one cut). By AI agents, Wed Nov 11 2026. No macro, syntax, notation, axiom, sorry.
-/
import Derived.Test.YtoeojopjdeclnabChecked
import GoSem.Claim
import GoSem.ClaimJoined
import GoSem.ClaimMapViews
import Derived.JoinedTies
import Derived.KernelRfl
namespace Go.Proofs.Ytoeojopjdeclnab
/- THE CELL 'sum', in the pinned program and in every row, IS THE sha256 OF THE DUMP (.gsa) THAT YtoeojopjdeclnabProg.lean LOADS. Nothing in Lean hashes anything: it is a label: what it is worth is what the hold of that sum in a sandbox is worth. -/
noncomputable def Try.pinned : Pinned := { name := "ytoeojopjdeclnab", sum := "cd18ac787a60add3ff4af3d624378e28c99d29843a2b1129b4544307838c501e", checked := Try.checked }
namespace Rows
def none {H : Type} : Left H := { results := [], args := [] }

/-- 'laws.FnExactTurnStep': WHATEVER THE INPUT: true; the input reads as it did. -/
def fnExactTurnStepSpec : ChangeSpec := { name := "fnExactTurnStep", fn := fun _ => fun
  | [d1, d2] => { results := [.lit (.bool true)], args := [d1, d2] }
  | _ => none }
def fnExactTurnStepRow : OpenClaim := { program := "ytoeojopjdeclnab", sum := "cd18ac787a60add3ff4af3d624378e28c99d29843a2b1129b4544307838c501e", func := "loop.example/firingnets/laws.FnExactTurnStep", spec := "fnExactTurnStep", apart := false }
def FnExactTurnStepSaid : Prop := fnExactTurnStepRow.holds Try.pinned (OpenSpec.ofChange fnExactTurnStepSpec)

/-- ITS FALSE NEIGHBOUR: 'it returns false'. Refute it at one input. -/
def fnExactTurnStepWrong : ChangeSpec := { name := "fnExactTurnStep", fn := fun _ => fun
  | [d1, d2] => { results := [.lit (.bool false)], args := [d1, d2] }
  | _ => none }
def FnExactTurnStepWrongFalsely : Prop := fnExactTurnStepRow.holds Try.pinned (OpenSpec.ofChange fnExactTurnStepWrong)

/-- 'laws.FnExactTurnRun': WHATEVER THE INPUT: true; the input reads as it did. -/
def fnExactTurnRunSpec : ChangeSpec := { name := "fnExactTurnRun", fn := fun _ => fun
  | [d1, d2, d3] => { results := [.lit (.bool true)], args := [d1, d2, d3] }
  | _ => none }
def fnExactTurnRunRow : OpenClaim := { program := "ytoeojopjdeclnab", sum := "cd18ac787a60add3ff4af3d624378e28c99d29843a2b1129b4544307838c501e", func := "loop.example/firingnets/laws.FnExactTurnRun", spec := "fnExactTurnRun", unfollowed := true, recurses := true, apart := false }
def FnExactTurnRunSaid : Prop := fnExactTurnRunRow.holds Try.pinned (OpenSpec.ofChange fnExactTurnRunSpec)

/-- ITS FALSE NEIGHBOUR: 'it returns false'. Refute it at one input. -/
def fnExactTurnRunWrong : ChangeSpec := { name := "fnExactTurnRun", fn := fun _ => fun
  | [d1, d2, d3] => { results := [.lit (.bool false)], args := [d1, d2, d3] }
  | _ => none }
def FnExactTurnRunWrongFalsely : Prop := fnExactTurnRunRow.holds Try.pinned (OpenSpec.ofChange fnExactTurnRunWrong)

/-- 'laws.FnExactTurnedRow': WHATEVER THE INPUT: true; the input reads as it did. -/
def fnExactTurnedRowSpec : ChangeSpec := { name := "fnExactTurnedRow", fn := fun _ => fun
  | [d1, d2, d3] => { results := [.lit (.bool true)], args := [d1, d2, d3] }
  | _ => none }
def fnExactTurnedRowRow : OpenClaim := { program := "ytoeojopjdeclnab", sum := "cd18ac787a60add3ff4af3d624378e28c99d29843a2b1129b4544307838c501e", func := "loop.example/firingnets/laws.FnExactTurnedRow", spec := "fnExactTurnedRow", unfollowed := true, recurses := true, apart := false }
def FnExactTurnedRowSaid : Prop := fnExactTurnedRowRow.holds Try.pinned (OpenSpec.ofChange fnExactTurnedRowSpec)

/-- ITS FALSE NEIGHBOUR: 'it returns false'. Refute it at one input. -/
def fnExactTurnedRowWrong : ChangeSpec := { name := "fnExactTurnedRow", fn := fun _ => fun
  | [d1, d2, d3] => { results := [.lit (.bool false)], args := [d1, d2, d3] }
  | _ => none }
def FnExactTurnedRowWrongFalsely : Prop := fnExactTurnedRowRow.holds Try.pinned (OpenSpec.ofChange fnExactTurnedRowWrong)

/-- 'laws.FnExactStillOk': WHATEVER THE INPUT: true; the input reads as it did. -/
def fnExactStillOkSpec : ChangeSpec := { name := "fnExactStillOk", fn := fun _ => fun
  | [d1, d2] => { results := [.lit (.bool true)], args := [d1, d2] }
  | _ => none }
def fnExactStillOkRow : OpenClaim := { program := "ytoeojopjdeclnab", sum := "cd18ac787a60add3ff4af3d624378e28c99d29843a2b1129b4544307838c501e", func := "loop.example/firingnets/laws.FnExactStillOk", spec := "fnExactStillOk", apart := false }
def FnExactStillOkSaid : Prop := fnExactStillOkRow.holds Try.pinned (OpenSpec.ofChange fnExactStillOkSpec)

/-- ITS FALSE NEIGHBOUR: 'it returns false'. Refute it at one input. -/
def fnExactStillOkWrong : ChangeSpec := { name := "fnExactStillOk", fn := fun _ => fun
  | [d1, d2] => { results := [.lit (.bool false)], args := [d1, d2] }
  | _ => none }
def FnExactStillOkWrongFalsely : Prop := fnExactStillOkRow.holds Try.pinned (OpenSpec.ofChange fnExactStillOkWrong)

/-- 'laws.FnExactTurnLoop': WHATEVER THE INPUT: true; the input reads as it did. -/
def fnExactTurnLoopSpec : ChangeSpec := { name := "fnExactTurnLoop", fn := fun _ => fun
  | [d1, d2] => { results := [.lit (.bool true)], args := [d1, d2] }
  | _ => none }
def fnExactTurnLoopRow : OpenClaim := { program := "ytoeojopjdeclnab", sum := "cd18ac787a60add3ff4af3d624378e28c99d29843a2b1129b4544307838c501e", func := "loop.example/firingnets/laws.FnExactTurnLoop", spec := "fnExactTurnLoop", unfollowed := true, recurses := true, apart := false }
def FnExactTurnLoopSaid : Prop := fnExactTurnLoopRow.holds Try.pinned (OpenSpec.ofChange fnExactTurnLoopSpec)

/-- ITS FALSE NEIGHBOUR: 'it returns false'. Refute it at one input. -/
def fnExactTurnLoopWrong : ChangeSpec := { name := "fnExactTurnLoop", fn := fun _ => fun
  | [d1, d2] => { results := [.lit (.bool false)], args := [d1, d2] }
  | _ => none }
def FnExactTurnLoopWrongFalsely : Prop := fnExactTurnLoopRow.holds Try.pinned (OpenSpec.ofChange fnExactTurnLoopWrong)

/- THE SECOND FORM. 'bulk': how many values and letters a reading holds, each counted each time it is reached (what is shared counts as often as it is met; a slice's spare places count too). A statement '..UptoSaid' is the law's where the arguments, and the package variables that the reading takes, are together of bulk at most 1048576: NARROWER than '..Said'. Prove '..Said' where nothing that the law and all that it calls make is longer than what came in: it says more and counts as full. Else prove '..UptoSaid'. A law counts once. -/
mutual
def uptoBulk {H : Type} : DataW H → Nat
  | .lit (.string bytes) => bytes.length + 1
  | .lit _ => 1
  | .nil => 1
  | .ptr d => uptoBulk d + 1
  | .slice elems spare => uptoBulkAll elems + uptoBulkAll spare + 1
  | .agg parts => uptoBulkAll parts + 1
  | .iface _ d => uptoBulk d + 1
  | .map entries => uptoBulkEntries entries + 1
  | .held _ => 1
def uptoBulkAll {H : Type} : List (DataW H) → Nat
  | [] => 0
  | d :: r => uptoBulk d + uptoBulkAll r
def uptoBulkEntries {H : Type} : List (Lit × DataW H) → Nat
  | [] => 0
  | x :: r => uptoBulkEntry x + uptoBulkEntries r
def uptoBulkEntry {H : Type} : Lit × DataW H → Nat
  | (.string bytes, d) => bytes.length + uptoBulk d + 1
  | (_, d) => uptoBulk d + 1
 end
def uptoSmall : (H : Type) → List (DataW H) → Bool := fun _ ds => decide (uptoBulkAll ds ≤ 1048576)
def OpenSpec.upto (s : _root_.Go.ChangeSpec) : _root_.Go.OpenSpec := { _root_.Go.OpenSpec.ofChange s with cond := some uptoSmall }

/-- 'laws.FnExactTurnStep', WHERE WHAT IT READS IS OF BULK AT MOST 1048576: true; the input reads as it did. -/
def fnExactTurnStepUptoRow : OpenClaim := { program := "ytoeojopjdeclnab", sum := "cd18ac787a60add3ff4af3d624378e28c99d29843a2b1129b4544307838c501e", func := "loop.example/firingnets/laws.FnExactTurnStep", spec := "fnExactTurnStep", apart := false, narrowed := true }
def FnExactTurnStepUptoSaid : Prop := fnExactTurnStepUptoRow.holds Try.pinned (OpenSpec.upto fnExactTurnStepSpec)

/-- 'laws.FnExactTurnRun', WHERE WHAT IT READS IS OF BULK AT MOST 1048576: true; the input reads as it did. -/
def fnExactTurnRunUptoRow : OpenClaim := { program := "ytoeojopjdeclnab", sum := "cd18ac787a60add3ff4af3d624378e28c99d29843a2b1129b4544307838c501e", func := "loop.example/firingnets/laws.FnExactTurnRun", spec := "fnExactTurnRun", unfollowed := true, recurses := true, apart := false, narrowed := true }
def FnExactTurnRunUptoSaid : Prop := fnExactTurnRunUptoRow.holds Try.pinned (OpenSpec.upto fnExactTurnRunSpec)

/-- 'laws.FnExactTurnedRow', WHERE WHAT IT READS IS OF BULK AT MOST 1048576: true; the input reads as it did. -/
def fnExactTurnedRowUptoRow : OpenClaim := { program := "ytoeojopjdeclnab", sum := "cd18ac787a60add3ff4af3d624378e28c99d29843a2b1129b4544307838c501e", func := "loop.example/firingnets/laws.FnExactTurnedRow", spec := "fnExactTurnedRow", unfollowed := true, recurses := true, apart := false, narrowed := true }
def FnExactTurnedRowUptoSaid : Prop := fnExactTurnedRowUptoRow.holds Try.pinned (OpenSpec.upto fnExactTurnedRowSpec)

/-- 'laws.FnExactStillOk', WHERE WHAT IT READS IS OF BULK AT MOST 1048576: true; the input reads as it did. -/
def fnExactStillOkUptoRow : OpenClaim := { program := "ytoeojopjdeclnab", sum := "cd18ac787a60add3ff4af3d624378e28c99d29843a2b1129b4544307838c501e", func := "loop.example/firingnets/laws.FnExactStillOk", spec := "fnExactStillOk", apart := false, narrowed := true }
def FnExactStillOkUptoSaid : Prop := fnExactStillOkUptoRow.holds Try.pinned (OpenSpec.upto fnExactStillOkSpec)

/-- 'laws.FnExactTurnLoop', WHERE WHAT IT READS IS OF BULK AT MOST 1048576: true; the input reads as it did. -/
def fnExactTurnLoopUptoRow : OpenClaim := { program := "ytoeojopjdeclnab", sum := "cd18ac787a60add3ff4af3d624378e28c99d29843a2b1129b4544307838c501e", func := "loop.example/firingnets/laws.FnExactTurnLoop", spec := "fnExactTurnLoop", unfollowed := true, recurses := true, apart := false, narrowed := true }
def FnExactTurnLoopUptoSaid : Prop := fnExactTurnLoopUptoRow.holds Try.pinned (OpenSpec.upto fnExactTurnLoopSpec)

end Rows
end Go.Proofs.Ytoeojopjdeclnab
