/-
  No cell of these rows narrows 'for every input' (looked for: loops, veiled, ifaces, maps, wideKeys, modest, calm, conditions, laid).
  DERIVED. THE GIVEN ROWS OF THIS SEAT. 7 by the template 'for every input the law returns true; each argument reads behind the call as it read before'; 0 by the template 'total and deterministic' (their statements: YtoeojopjdeclnaaTotals.lean).
  GIVEN WITH THE SEED: the statements are not yours to turn. If you find one false, say at which input.
  Laid BY PROGRAM, IN A SANDBOX (cutbox-rows.mjs): the forced cells as the released guide's own fill.sh prints them over the translation 952046ec21169222… (all of the seat's roots in one cut). By AI agents, Wed Nov 11 2026. No macro, syntax, notation, axiom, sorry.
-/
import Derived.Test.YtoeojopjdeclnaaChecked
import GoSem.Claim
import GoSem.ClaimJoined
import GoSem.ClaimMapViews
import Derived.JoinedTies
import Derived.KernelRfl
namespace Go.Proofs.Ytoeojopjdeclnaa
/- THE CELL 'sum', in the pinned program and in every row, IS THE sha256 OF THE DUMP (.gsa) THAT YtoeojopjdeclnaaProg.lean LOADS. Nothing in Lean hashes anything: it is a label: what it is worth is what the hold of that sum in a sandbox is worth. -/
noncomputable def Try.pinned : Pinned := { name := "ytoeojopjdeclnaa", sum := "952046ec21169222d1f05aceaf58436c8f7ba875ff678064602daeb1b82e749e", checked := Try.checked }
namespace Rows
def none {H : Type} : Left H := { results := [], args := [] }

/-- 'laws.FnTurnStep': WHATEVER THE INPUT: true; the input reads as it did. -/
def fnTurnStepSpec : ChangeSpec := { name := "fnTurnStep", fn := fun _ => fun
  | [d] => { results := [.lit (.bool true)], args := [d] }
  | _ => none }
def fnTurnStepRow : OpenClaim := { program := "ytoeojopjdeclnaa", sum := "952046ec21169222d1f05aceaf58436c8f7ba875ff678064602daeb1b82e749e", func := "loop.example/firingnets/laws.FnTurnStep", spec := "fnTurnStep", unfollowed := true, recurses := true, apart := false }
def FnTurnStepSaid : Prop := fnTurnStepRow.holds Try.pinned (OpenSpec.ofChange fnTurnStepSpec)

/-- ITS FALSE NEIGHBOUR: 'it returns false'. Refute it at one input. -/
def fnTurnStepWrong : ChangeSpec := { name := "fnTurnStep", fn := fun _ => fun
  | [d] => { results := [.lit (.bool false)], args := [d] }
  | _ => none }
def FnTurnStepWrongFalsely : Prop := fnTurnStepRow.holds Try.pinned (OpenSpec.ofChange fnTurnStepWrong)

/-- 'laws.FnTurnRun': WHATEVER THE INPUT: true; the input reads as it did. -/
def fnTurnRunSpec : ChangeSpec := { name := "fnTurnRun", fn := fun _ => fun
  | [d] => { results := [.lit (.bool true)], args := [d] }
  | _ => none }
def fnTurnRunRow : OpenClaim := { program := "ytoeojopjdeclnaa", sum := "952046ec21169222d1f05aceaf58436c8f7ba875ff678064602daeb1b82e749e", func := "loop.example/firingnets/laws.FnTurnRun", spec := "fnTurnRun", unfollowed := true, recurses := true, apart := false }
def FnTurnRunSaid : Prop := fnTurnRunRow.holds Try.pinned (OpenSpec.ofChange fnTurnRunSpec)

/-- ITS FALSE NEIGHBOUR: 'it returns false'. Refute it at one input. -/
def fnTurnRunWrong : ChangeSpec := { name := "fnTurnRun", fn := fun _ => fun
  | [d] => { results := [.lit (.bool false)], args := [d] }
  | _ => none }
def FnTurnRunWrongFalsely : Prop := fnTurnRunRow.holds Try.pinned (OpenSpec.ofChange fnTurnRunWrong)

/-- 'laws.FnTurnedRow': WHATEVER THE INPUT: true; the input reads as it did. -/
def fnTurnedRowSpec : ChangeSpec := { name := "fnTurnedRow", fn := fun _ => fun
  | [d] => { results := [.lit (.bool true)], args := [d] }
  | _ => none }
def fnTurnedRowRow : OpenClaim := { program := "ytoeojopjdeclnaa", sum := "952046ec21169222d1f05aceaf58436c8f7ba875ff678064602daeb1b82e749e", func := "loop.example/firingnets/laws.FnTurnedRow", spec := "fnTurnedRow", unfollowed := true, recurses := true, apart := false }
def FnTurnedRowSaid : Prop := fnTurnedRowRow.holds Try.pinned (OpenSpec.ofChange fnTurnedRowSpec)

/-- ITS FALSE NEIGHBOUR: 'it returns false'. Refute it at one input. -/
def fnTurnedRowWrong : ChangeSpec := { name := "fnTurnedRow", fn := fun _ => fun
  | [d] => { results := [.lit (.bool false)], args := [d] }
  | _ => none }
def FnTurnedRowWrongFalsely : Prop := fnTurnedRowRow.holds Try.pinned (OpenSpec.ofChange fnTurnedRowWrong)

/-- 'laws.FnStillOk': WHATEVER THE INPUT: true; the input reads as it did. -/
def fnStillOkSpec : ChangeSpec := { name := "fnStillOk", fn := fun _ => fun
  | [d] => { results := [.lit (.bool true)], args := [d] }
  | _ => none }
def fnStillOkRow : OpenClaim := { program := "ytoeojopjdeclnaa", sum := "952046ec21169222d1f05aceaf58436c8f7ba875ff678064602daeb1b82e749e", func := "loop.example/firingnets/laws.FnStillOk", spec := "fnStillOk", unfollowed := true, recurses := true, apart := false }
def FnStillOkSaid : Prop := fnStillOkRow.holds Try.pinned (OpenSpec.ofChange fnStillOkSpec)

/-- ITS FALSE NEIGHBOUR: 'it returns false'. Refute it at one input. -/
def fnStillOkWrong : ChangeSpec := { name := "fnStillOk", fn := fun _ => fun
  | [d] => { results := [.lit (.bool false)], args := [d] }
  | _ => none }
def FnStillOkWrongFalsely : Prop := fnStillOkRow.holds Try.pinned (OpenSpec.ofChange fnStillOkWrong)

/-- 'laws.FnTurnLoop': WHATEVER THE INPUT: true; the input reads as it did. -/
def fnTurnLoopSpec : ChangeSpec := { name := "fnTurnLoop", fn := fun _ => fun
  | [d] => { results := [.lit (.bool true)], args := [d] }
  | _ => none }
def fnTurnLoopRow : OpenClaim := { program := "ytoeojopjdeclnaa", sum := "952046ec21169222d1f05aceaf58436c8f7ba875ff678064602daeb1b82e749e", func := "loop.example/firingnets/laws.FnTurnLoop", spec := "fnTurnLoop", unfollowed := true, recurses := true, apart := false }
def FnTurnLoopSaid : Prop := fnTurnLoopRow.holds Try.pinned (OpenSpec.ofChange fnTurnLoopSpec)

/-- ITS FALSE NEIGHBOUR: 'it returns false'. Refute it at one input. -/
def fnTurnLoopWrong : ChangeSpec := { name := "fnTurnLoop", fn := fun _ => fun
  | [d] => { results := [.lit (.bool false)], args := [d] }
  | _ => none }
def FnTurnLoopWrongFalsely : Prop := fnTurnLoopRow.holds Try.pinned (OpenSpec.ofChange fnTurnLoopWrong)

/-- 'laws.FnTurnNamed': WHATEVER THE INPUT: true; the input reads as it did. -/
def fnTurnNamedSpec : ChangeSpec := { name := "fnTurnNamed", fn := fun _ => fun
  | [d1, d2] => { results := [.lit (.bool true)], args := [d1, d2] }
  | _ => none }
def fnTurnNamedRow : OpenClaim := { program := "ytoeojopjdeclnaa", sum := "952046ec21169222d1f05aceaf58436c8f7ba875ff678064602daeb1b82e749e", func := "loop.example/firingnets/laws.FnTurnNamed", spec := "fnTurnNamed", apart := false }
def FnTurnNamedSaid : Prop := fnTurnNamedRow.holds Try.pinned (OpenSpec.ofChange fnTurnNamedSpec)

/-- ITS FALSE NEIGHBOUR: 'it returns false'. Refute it at one input. -/
def fnTurnNamedWrong : ChangeSpec := { name := "fnTurnNamed", fn := fun _ => fun
  | [d1, d2] => { results := [.lit (.bool false)], args := [d1, d2] }
  | _ => none }
def FnTurnNamedWrongFalsely : Prop := fnTurnNamedRow.holds Try.pinned (OpenSpec.ofChange fnTurnNamedWrong)

/-- 'laws.FnTurnedParts': WHATEVER THE INPUT: true; the input reads as it did. -/
def fnTurnedPartsSpec : ChangeSpec := { name := "fnTurnedParts", fn := fun _ => fun
  | [d] => { results := [.lit (.bool true)], args := [d] }
  | _ => none }
def fnTurnedPartsRow : OpenClaim := { program := "ytoeojopjdeclnaa", sum := "952046ec21169222d1f05aceaf58436c8f7ba875ff678064602daeb1b82e749e", func := "loop.example/firingnets/laws.FnTurnedParts", spec := "fnTurnedParts", unfollowed := true, recurses := true, apart := false }
def FnTurnedPartsSaid : Prop := fnTurnedPartsRow.holds Try.pinned (OpenSpec.ofChange fnTurnedPartsSpec)

/-- ITS FALSE NEIGHBOUR: 'it returns false'. Refute it at one input. -/
def fnTurnedPartsWrong : ChangeSpec := { name := "fnTurnedParts", fn := fun _ => fun
  | [d] => { results := [.lit (.bool false)], args := [d] }
  | _ => none }
def FnTurnedPartsWrongFalsely : Prop := fnTurnedPartsRow.holds Try.pinned (OpenSpec.ofChange fnTurnedPartsWrong)

/- THE SECOND FORM. 'bulk': how many values and letters a reading holds, each counted each time it is reached (what is shared counts as often as it is met; a slice's spare places count too). A statement '..UptoSaid' is the law's where the arguments, and the package variables that the reading takes, are together of bulk at most 1048576: NARROWER than '..Said'. Prove '..Said' where nothing that the law and all that it calls make is longer than what came in: it says more and counts as full. Else prove '..UptoSaid'. A law counts once. -/
mutual
def uptoBulk {H : Type} : DataW H → Nat
  | .lit (.string bytes) => bytes.length + 1
  | .lit _ => 1
  | .nil => 1
  | .ptr d => uptoBulk d + 1
  | .slice elems spare => uptoBulkAll elems + uptoBulkAll spare + 1
  | .agg parts => uptoBulkAll parts + 1
  | .iface _ d => uptoBulk d + 1
  | .map entries => uptoBulkEntries entries + 1
  | .held _ => 1
def uptoBulkAll {H : Type} : List (DataW H) → Nat
  | [] => 0
  | d :: r => uptoBulk d + uptoBulkAll r
def uptoBulkEntries {H : Type} : List (Lit × DataW H) → Nat
  | [] => 0
  | x :: r => uptoBulkEntry x + uptoBulkEntries r
def uptoBulkEntry {H : Type} : Lit × DataW H → Nat
  | (.string bytes, d) => bytes.length + uptoBulk d + 1
  | (_, d) => uptoBulk d + 1
 end
def uptoSmall : (H : Type) → List (DataW H) → Bool := fun _ ds => decide (uptoBulkAll ds ≤ 1048576)
def OpenSpec.upto (s : _root_.Go.ChangeSpec) : _root_.Go.OpenSpec := { _root_.Go.OpenSpec.ofChange s with cond := some uptoSmall }

/-- 'laws.FnTurnStep', WHERE WHAT IT READS IS OF BULK AT MOST 1048576: true; the input reads as it did. -/
def fnTurnStepUptoRow : OpenClaim := { program := "ytoeojopjdeclnaa", sum := "952046ec21169222d1f05aceaf58436c8f7ba875ff678064602daeb1b82e749e", func := "loop.example/firingnets/laws.FnTurnStep", spec := "fnTurnStep", unfollowed := true, recurses := true, apart := false, narrowed := true }
def FnTurnStepUptoSaid : Prop := fnTurnStepUptoRow.holds Try.pinned (OpenSpec.upto fnTurnStepSpec)

/-- 'laws.FnTurnRun', WHERE WHAT IT READS IS OF BULK AT MOST 1048576: true; the input reads as it did. -/
def fnTurnRunUptoRow : OpenClaim := { program := "ytoeojopjdeclnaa", sum := "952046ec21169222d1f05aceaf58436c8f7ba875ff678064602daeb1b82e749e", func := "loop.example/firingnets/laws.FnTurnRun", spec := "fnTurnRun", unfollowed := true, recurses := true, apart := false, narrowed := true }
def FnTurnRunUptoSaid : Prop := fnTurnRunUptoRow.holds Try.pinned (OpenSpec.upto fnTurnRunSpec)

/-- 'laws.FnTurnedRow', WHERE WHAT IT READS IS OF BULK AT MOST 1048576: true; the input reads as it did. -/
def fnTurnedRowUptoRow : OpenClaim := { program := "ytoeojopjdeclnaa", sum := "952046ec21169222d1f05aceaf58436c8f7ba875ff678064602daeb1b82e749e", func := "loop.example/firingnets/laws.FnTurnedRow", spec := "fnTurnedRow", unfollowed := true, recurses := true, apart := false, narrowed := true }
def FnTurnedRowUptoSaid : Prop := fnTurnedRowUptoRow.holds Try.pinned (OpenSpec.upto fnTurnedRowSpec)

/-- 'laws.FnStillOk', WHERE WHAT IT READS IS OF BULK AT MOST 1048576: true; the input reads as it did. -/
def fnStillOkUptoRow : OpenClaim := { program := "ytoeojopjdeclnaa", sum := "952046ec21169222d1f05aceaf58436c8f7ba875ff678064602daeb1b82e749e", func := "loop.example/firingnets/laws.FnStillOk", spec := "fnStillOk", unfollowed := true, recurses := true, apart := false, narrowed := true }
def FnStillOkUptoSaid : Prop := fnStillOkUptoRow.holds Try.pinned (OpenSpec.upto fnStillOkSpec)

/-- 'laws.FnTurnLoop', WHERE WHAT IT READS IS OF BULK AT MOST 1048576: true; the input reads as it did. -/
def fnTurnLoopUptoRow : OpenClaim := { program := "ytoeojopjdeclnaa", sum := "952046ec21169222d1f05aceaf58436c8f7ba875ff678064602daeb1b82e749e", func := "loop.example/firingnets/laws.FnTurnLoop", spec := "fnTurnLoop", unfollowed := true, recurses := true, apart := false, narrowed := true }
def FnTurnLoopUptoSaid : Prop := fnTurnLoopUptoRow.holds Try.pinned (OpenSpec.upto fnTurnLoopSpec)

/-- 'laws.FnTurnNamed', WHERE WHAT IT READS IS OF BULK AT MOST 1048576: true; the input reads as it did. -/
def fnTurnNamedUptoRow : OpenClaim := { program := "ytoeojopjdeclnaa", sum := "952046ec21169222d1f05aceaf58436c8f7ba875ff678064602daeb1b82e749e", func := "loop.example/firingnets/laws.FnTurnNamed", spec := "fnTurnNamed", apart := false, narrowed := true }
def FnTurnNamedUptoSaid : Prop := fnTurnNamedUptoRow.holds Try.pinned (OpenSpec.upto fnTurnNamedSpec)

/-- 'laws.FnTurnedParts', WHERE WHAT IT READS IS OF BULK AT MOST 1048576: true; the input reads as it did. -/
def fnTurnedPartsUptoRow : OpenClaim := { program := "ytoeojopjdeclnaa", sum := "952046ec21169222d1f05aceaf58436c8f7ba875ff678064602daeb1b82e749e", func := "loop.example/firingnets/laws.FnTurnedParts", spec := "fnTurnedParts", unfollowed := true, recurses := true, apart := false, narrowed := true }
def FnTurnedPartsUptoSaid : Prop := fnTurnedPartsUptoRow.holds Try.pinned (OpenSpec.upto fnTurnedPartsSpec)

end Rows
end Go.Proofs.Ytoeojopjdeclnaa
