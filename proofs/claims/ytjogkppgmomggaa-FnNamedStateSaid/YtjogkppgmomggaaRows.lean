/-
  No cell of these rows narrows 'for every input' (looked for: loops, veiled, ifaces, maps, wideKeys, modest, calm, conditions, laid).
  DERIVED. THE GIVEN ROWS OF THIS SEAT. 7 by the template 'for every input the law returns true; each argument reads behind the call as it read before'; 0 by the template 'total and deterministic' (their statements: YtjogkppgmomggaaTotals.lean).
  GIVEN WITH THE SEED: the statements are not yours to turn. If you find one false, say at which input.
  Laid BY PROGRAM, IN A SANDBOX (cutbox-rows.mjs): the forced cells as the released guide's own fill.sh prints them over the translation 1eaee9282de32caf… (all of the seat's roots in one cut). By AI agents, Wed Nov 11 2026. No macro, syntax, notation, axiom, sorry.
-/
import Derived.Test.YtjogkppgmomggaaChecked
import GoSem.Claim
import GoSem.ClaimJoined
import GoSem.ClaimMapViews
import Derived.JoinedTies
import Derived.KernelRfl
namespace Go.Proofs.Ytjogkppgmomggaa
/- THE CELL 'sum', in the pinned program and in every row, IS THE sha256 OF THE DUMP (.gsa) THAT YtjogkppgmomggaaProg.lean LOADS. Nothing in Lean hashes anything: it is a label: what it is worth is what the hold of that sum in a sandbox is worth. -/
noncomputable def Try.pinned : Pinned := { name := "ytjogkppgmomggaa", sum := "1eaee9282de32cafaa7b417dc887e21778715bacfcfbe1816c5540d9593eca82", checked := Try.checked }
namespace Rows
def none {H : Type} : Left H := { results := [], args := [] }

/-- 'laws.FnStateOk': WHATEVER THE INPUT: true; the input reads as it did. -/
def fnStateOkSpec : ChangeSpec := { name := "fnStateOk", fn := fun _ => fun
  | [d] => { results := [.lit (.bool true)], args := [d] }
  | _ => none }
def fnStateOkRow : OpenClaim := { program := "ytjogkppgmomggaa", sum := "1eaee9282de32cafaa7b417dc887e21778715bacfcfbe1816c5540d9593eca82", func := "loop.example/firingnets/laws.FnStateOk", spec := "fnStateOk", apart := false }
def FnStateOkSaid : Prop := fnStateOkRow.holds Try.pinned (OpenSpec.ofChange fnStateOkSpec)

/-- ITS FALSE NEIGHBOUR: 'it returns false'. Refute it at one input. -/
def fnStateOkWrong : ChangeSpec := { name := "fnStateOk", fn := fun _ => fun
  | [d] => { results := [.lit (.bool false)], args := [d] }
  | _ => none }
def FnStateOkWrongFalsely : Prop := fnStateOkRow.holds Try.pinned (OpenSpec.ofChange fnStateOkWrong)

/-- 'laws.FnCountsOf': WHATEVER THE INPUT: true; the input reads as it did. -/
def fnCountsOfSpec : ChangeSpec := { name := "fnCountsOf", fn := fun _ => fun
  | [d] => { results := [.lit (.bool true)], args := [d] }
  | _ => none }
def fnCountsOfRow : OpenClaim := { program := "ytjogkppgmomggaa", sum := "1eaee9282de32cafaa7b417dc887e21778715bacfcfbe1816c5540d9593eca82", func := "loop.example/firingnets/laws.FnCountsOf", spec := "fnCountsOf", unfollowed := true, recurses := true, apart := false }
def FnCountsOfSaid : Prop := fnCountsOfRow.holds Try.pinned (OpenSpec.ofChange fnCountsOfSpec)

/-- ITS FALSE NEIGHBOUR: 'it returns false'. Refute it at one input. -/
def fnCountsOfWrong : ChangeSpec := { name := "fnCountsOf", fn := fun _ => fun
  | [d] => { results := [.lit (.bool false)], args := [d] }
  | _ => none }
def FnCountsOfWrongFalsely : Prop := fnCountsOfRow.holds Try.pinned (OpenSpec.ofChange fnCountsOfWrong)

/-- 'laws.FnLitState': WHATEVER THE INPUT: true; the input reads as it did. -/
def fnLitStateSpec : ChangeSpec := { name := "fnLitState", fn := fun _ => fun
  | [d] => { results := [.lit (.bool true)], args := [d] }
  | _ => none }
def fnLitStateRow : OpenClaim := { program := "ytjogkppgmomggaa", sum := "1eaee9282de32cafaa7b417dc887e21778715bacfcfbe1816c5540d9593eca82", func := "loop.example/firingnets/laws.FnLitState", spec := "fnLitState", apart := false }
def FnLitStateSaid : Prop := fnLitStateRow.holds Try.pinned (OpenSpec.ofChange fnLitStateSpec)

/-- ITS FALSE NEIGHBOUR: 'it returns false'. Refute it at one input. -/
def fnLitStateWrong : ChangeSpec := { name := "fnLitState", fn := fun _ => fun
  | [d] => { results := [.lit (.bool false)], args := [d] }
  | _ => none }
def FnLitStateWrongFalsely : Prop := fnLitStateRow.holds Try.pinned (OpenSpec.ofChange fnLitStateWrong)

/-- 'laws.FnRaisedState': WHATEVER THE INPUT: true; the input reads as it did. -/
def fnRaisedStateSpec : ChangeSpec := { name := "fnRaisedState", fn := fun _ => fun
  | [d] => { results := [.lit (.bool true)], args := [d] }
  | _ => none }
def fnRaisedStateRow : OpenClaim := { program := "ytjogkppgmomggaa", sum := "1eaee9282de32cafaa7b417dc887e21778715bacfcfbe1816c5540d9593eca82", func := "loop.example/firingnets/laws.FnRaisedState", spec := "fnRaisedState", unfollowed := true, recurses := true, apart := false }
def FnRaisedStateSaid : Prop := fnRaisedStateRow.holds Try.pinned (OpenSpec.ofChange fnRaisedStateSpec)

/-- ITS FALSE NEIGHBOUR: 'it returns false'. Refute it at one input. -/
def fnRaisedStateWrong : ChangeSpec := { name := "fnRaisedState", fn := fun _ => fun
  | [d] => { results := [.lit (.bool false)], args := [d] }
  | _ => none }
def FnRaisedStateWrongFalsely : Prop := fnRaisedStateRow.holds Try.pinned (OpenSpec.ofChange fnRaisedStateWrong)

/-- 'laws.FnNamedState': WHATEVER THE INPUT: true; the input reads as it did. -/
def fnNamedStateSpec : ChangeSpec := { name := "fnNamedState", fn := fun _ => fun
  | [d] => { results := [.lit (.bool true)], args := [d] }
  | _ => none }
def fnNamedStateRow : OpenClaim := { program := "ytjogkppgmomggaa", sum := "1eaee9282de32cafaa7b417dc887e21778715bacfcfbe1816c5540d9593eca82", func := "loop.example/firingnets/laws.FnNamedState", spec := "fnNamedState", unfollowed := true, recurses := true, apart := false }
def FnNamedStateSaid : Prop := fnNamedStateRow.holds Try.pinned (OpenSpec.ofChange fnNamedStateSpec)

/-- ITS FALSE NEIGHBOUR: 'it returns false'. Refute it at one input. -/
def fnNamedStateWrong : ChangeSpec := { name := "fnNamedState", fn := fun _ => fun
  | [d] => { results := [.lit (.bool false)], args := [d] }
  | _ => none }
def FnNamedStateWrongFalsely : Prop := fnNamedStateRow.holds Try.pinned (OpenSpec.ofChange fnNamedStateWrong)

/-- 'laws.FnNumberOf': WHATEVER THE INPUT: true; the input reads as it did. -/
def fnNumberOfSpec : ChangeSpec := { name := "fnNumberOf", fn := fun _ => fun
  | [d] => { results := [.lit (.bool true)], args := [d] }
  | _ => none }
def fnNumberOfRow : OpenClaim := { program := "ytjogkppgmomggaa", sum := "1eaee9282de32cafaa7b417dc887e21778715bacfcfbe1816c5540d9593eca82", func := "loop.example/firingnets/laws.FnNumberOf", spec := "fnNumberOf", unfollowed := true, recurses := true, apart := false }
def FnNumberOfSaid : Prop := fnNumberOfRow.holds Try.pinned (OpenSpec.ofChange fnNumberOfSpec)

/-- ITS FALSE NEIGHBOUR: 'it returns false'. Refute it at one input. -/
def fnNumberOfWrong : ChangeSpec := { name := "fnNumberOf", fn := fun _ => fun
  | [d] => { results := [.lit (.bool false)], args := [d] }
  | _ => none }
def FnNumberOfWrongFalsely : Prop := fnNumberOfRow.holds Try.pinned (OpenSpec.ofChange fnNumberOfWrong)

/-- 'laws.FnStateOf': WHATEVER THE INPUT: true; the input reads as it did. -/
def fnStateOfSpec : ChangeSpec := { name := "fnStateOf", fn := fun _ => fun
  | [d] => { results := [.lit (.bool true)], args := [d] }
  | _ => none }
def fnStateOfRow : OpenClaim := { program := "ytjogkppgmomggaa", sum := "1eaee9282de32cafaa7b417dc887e21778715bacfcfbe1816c5540d9593eca82", func := "loop.example/firingnets/laws.FnStateOf", spec := "fnStateOf", unfollowed := true, recurses := true, apart := false }
def FnStateOfSaid : Prop := fnStateOfRow.holds Try.pinned (OpenSpec.ofChange fnStateOfSpec)

/-- ITS FALSE NEIGHBOUR: 'it returns false'. Refute it at one input. -/
def fnStateOfWrong : ChangeSpec := { name := "fnStateOf", fn := fun _ => fun
  | [d] => { results := [.lit (.bool false)], args := [d] }
  | _ => none }
def FnStateOfWrongFalsely : Prop := fnStateOfRow.holds Try.pinned (OpenSpec.ofChange fnStateOfWrong)

/- THE SECOND FORM. 'bulk': how many values and letters a reading holds, each counted each time it is reached (what is shared counts as often as it is met; a slice's spare places count too). A statement '..UptoSaid' is the law's where the arguments, and the package variables that the reading takes, are together of bulk at most 1048576: NARROWER than '..Said'. Prove '..Said' where nothing that the law and all that it calls make is longer than what came in: it says more and counts as full. Else prove '..UptoSaid'. A law counts once. -/
mutual
def uptoBulk {H : Type} : DataW H → Nat
  | .lit (.string bytes) => bytes.length + 1
  | .lit _ => 1
  | .nil => 1
  | .ptr d => uptoBulk d + 1
  | .slice elems spare => uptoBulkAll elems + uptoBulkAll spare + 1
  | .agg parts => uptoBulkAll parts + 1
  | .iface _ d => uptoBulk d + 1
  | .map entries => uptoBulkEntries entries + 1
  | .held _ => 1
def uptoBulkAll {H : Type} : List (DataW H) → Nat
  | [] => 0
  | d :: r => uptoBulk d + uptoBulkAll r
def uptoBulkEntries {H : Type} : List (Lit × DataW H) → Nat
  | [] => 0
  | x :: r => uptoBulkEntry x + uptoBulkEntries r
def uptoBulkEntry {H : Type} : Lit × DataW H → Nat
  | (.string bytes, d) => bytes.length + uptoBulk d + 1
  | (_, d) => uptoBulk d + 1
 end
def uptoSmall : (H : Type) → List (DataW H) → Bool := fun _ ds => decide (uptoBulkAll ds ≤ 1048576)
def OpenSpec.upto (s : _root_.Go.ChangeSpec) : _root_.Go.OpenSpec := { _root_.Go.OpenSpec.ofChange s with cond := some uptoSmall }

/-- 'laws.FnStateOk', WHERE WHAT IT READS IS OF BULK AT MOST 1048576: true; the input reads as it did. -/
def fnStateOkUptoRow : OpenClaim := { program := "ytjogkppgmomggaa", sum := "1eaee9282de32cafaa7b417dc887e21778715bacfcfbe1816c5540d9593eca82", func := "loop.example/firingnets/laws.FnStateOk", spec := "fnStateOk", apart := false, narrowed := true }
def FnStateOkUptoSaid : Prop := fnStateOkUptoRow.holds Try.pinned (OpenSpec.upto fnStateOkSpec)

/-- 'laws.FnCountsOf', WHERE WHAT IT READS IS OF BULK AT MOST 1048576: true; the input reads as it did. -/
def fnCountsOfUptoRow : OpenClaim := { program := "ytjogkppgmomggaa", sum := "1eaee9282de32cafaa7b417dc887e21778715bacfcfbe1816c5540d9593eca82", func := "loop.example/firingnets/laws.FnCountsOf", spec := "fnCountsOf", unfollowed := true, recurses := true, apart := false, narrowed := true }
def FnCountsOfUptoSaid : Prop := fnCountsOfUptoRow.holds Try.pinned (OpenSpec.upto fnCountsOfSpec)

/-- 'laws.FnLitState', WHERE WHAT IT READS IS OF BULK AT MOST 1048576: true; the input reads as it did. -/
def fnLitStateUptoRow : OpenClaim := { program := "ytjogkppgmomggaa", sum := "1eaee9282de32cafaa7b417dc887e21778715bacfcfbe1816c5540d9593eca82", func := "loop.example/firingnets/laws.FnLitState", spec := "fnLitState", apart := false, narrowed := true }
def FnLitStateUptoSaid : Prop := fnLitStateUptoRow.holds Try.pinned (OpenSpec.upto fnLitStateSpec)

/-- 'laws.FnRaisedState', WHERE WHAT IT READS IS OF BULK AT MOST 1048576: true; the input reads as it did. -/
def fnRaisedStateUptoRow : OpenClaim := { program := "ytjogkppgmomggaa", sum := "1eaee9282de32cafaa7b417dc887e21778715bacfcfbe1816c5540d9593eca82", func := "loop.example/firingnets/laws.FnRaisedState", spec := "fnRaisedState", unfollowed := true, recurses := true, apart := false, narrowed := true }
def FnRaisedStateUptoSaid : Prop := fnRaisedStateUptoRow.holds Try.pinned (OpenSpec.upto fnRaisedStateSpec)

/-- 'laws.FnNamedState', WHERE WHAT IT READS IS OF BULK AT MOST 1048576: true; the input reads as it did. -/
def fnNamedStateUptoRow : OpenClaim := { program := "ytjogkppgmomggaa", sum := "1eaee9282de32cafaa7b417dc887e21778715bacfcfbe1816c5540d9593eca82", func := "loop.example/firingnets/laws.FnNamedState", spec := "fnNamedState", unfollowed := true, recurses := true, apart := false, narrowed := true }
def FnNamedStateUptoSaid : Prop := fnNamedStateUptoRow.holds Try.pinned (OpenSpec.upto fnNamedStateSpec)

/-- 'laws.FnNumberOf', WHERE WHAT IT READS IS OF BULK AT MOST 1048576: true; the input reads as it did. -/
def fnNumberOfUptoRow : OpenClaim := { program := "ytjogkppgmomggaa", sum := "1eaee9282de32cafaa7b417dc887e21778715bacfcfbe1816c5540d9593eca82", func := "loop.example/firingnets/laws.FnNumberOf", spec := "fnNumberOf", unfollowed := true, recurses := true, apart := false, narrowed := true }
def FnNumberOfUptoSaid : Prop := fnNumberOfUptoRow.holds Try.pinned (OpenSpec.upto fnNumberOfSpec)

/-- 'laws.FnStateOf', WHERE WHAT IT READS IS OF BULK AT MOST 1048576: true; the input reads as it did. -/
def fnStateOfUptoRow : OpenClaim := { program := "ytjogkppgmomggaa", sum := "1eaee9282de32cafaa7b417dc887e21778715bacfcfbe1816c5540d9593eca82", func := "loop.example/firingnets/laws.FnStateOf", spec := "fnStateOf", unfollowed := true, recurses := true, apart := false, narrowed := true }
def FnStateOfUptoSaid : Prop := fnStateOfUptoRow.holds Try.pinned (OpenSpec.upto fnStateOfSpec)

end Rows
end Go.Proofs.Ytjogkppgmomggaa
