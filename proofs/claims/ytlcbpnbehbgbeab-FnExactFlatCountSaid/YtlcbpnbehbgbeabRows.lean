/-
  No cell of these rows narrows 'for every input' (looked for: loops, veiled, ifaces, maps, wideKeys, modest, calm, conditions, laid).
  DERIVED. THE GIVEN ROWS OF THIS SEAT. 3 by the template 'for every input the law returns true; each argument reads behind the call as it read before'; 0 by the template 'total and deterministic' (their statements: YtlcbpnbehbgbeabTotals.lean).
  GIVEN WITH THE SEED: the statements are not yours to turn. If you find one false, say at which input.
  Laid BY PROGRAM, IN A SANDBOX (cutbox-rows.mjs): the forced cells as the released guide's own fill.sh prints them over the translation 011991a8d801da30… (all of the seat's roots in one cut). By AI agents, Wed Nov 11 2026. No macro, syntax, notation, axiom, sorry.
-/
import Derived.Test.YtlcbpnbehbgbeabChecked
import GoSem.Claim
import GoSem.ClaimJoined
import GoSem.ClaimMapViews
import Derived.JoinedTies
import Derived.KernelRfl
namespace Go.Proofs.Ytlcbpnbehbgbeab
/- THE CELL 'sum', in the pinned program and in every row, IS THE sha256 OF THE DUMP (.gsa) THAT YtlcbpnbehbgbeabProg.lean LOADS. Nothing in Lean hashes anything: it is a label: what it is worth is what the hold of that sum in a sandbox is worth. -/
noncomputable def Try.pinned : Pinned := { name := "ytlcbpnbehbgbeab", sum := "011991a8d801da3016e808d5f013303c7037c8d4521d490e61a8ee6f2fd21adc", checked := Try.checked }
namespace Rows
def none {H : Type} : Left H := { results := [], args := [] }

/-- 'laws.FnExactDyingCount': WHATEVER THE INPUT: true; the input reads as it did. -/
def fnExactDyingCountSpec : ChangeSpec := { name := "fnExactDyingCount", fn := fun _ => fun
  | [d1, d2] => { results := [.lit (.bool true)], args := [d1, d2] }
  | _ => none }
def fnExactDyingCountRow : OpenClaim := { program := "ytlcbpnbehbgbeab", sum := "011991a8d801da3016e808d5f013303c7037c8d4521d490e61a8ee6f2fd21adc", func := "loop.example/firingnets/laws.FnExactDyingCount", spec := "fnExactDyingCount", unfollowed := true, recurses := true, apart := false }
def FnExactDyingCountSaid : Prop := fnExactDyingCountRow.holds Try.pinned (OpenSpec.ofChange fnExactDyingCountSpec)

/-- ITS FALSE NEIGHBOUR: 'it returns false'. Refute it at one input. -/
def fnExactDyingCountWrong : ChangeSpec := { name := "fnExactDyingCount", fn := fun _ => fun
  | [d1, d2] => { results := [.lit (.bool false)], args := [d1, d2] }
  | _ => none }
def FnExactDyingCountWrongFalsely : Prop := fnExactDyingCountRow.holds Try.pinned (OpenSpec.ofChange fnExactDyingCountWrong)

/-- 'laws.FnExactLoopCount': WHATEVER THE INPUT: true; the input reads as it did. -/
def fnExactLoopCountSpec : ChangeSpec := { name := "fnExactLoopCount", fn := fun _ => fun
  | [d1, d2] => { results := [.lit (.bool true)], args := [d1, d2] }
  | _ => none }
def fnExactLoopCountRow : OpenClaim := { program := "ytlcbpnbehbgbeab", sum := "011991a8d801da3016e808d5f013303c7037c8d4521d490e61a8ee6f2fd21adc", func := "loop.example/firingnets/laws.FnExactLoopCount", spec := "fnExactLoopCount", unfollowed := true, recurses := true, apart := false }
def FnExactLoopCountSaid : Prop := fnExactLoopCountRow.holds Try.pinned (OpenSpec.ofChange fnExactLoopCountSpec)

/-- ITS FALSE NEIGHBOUR: 'it returns false'. Refute it at one input. -/
def fnExactLoopCountWrong : ChangeSpec := { name := "fnExactLoopCount", fn := fun _ => fun
  | [d1, d2] => { results := [.lit (.bool false)], args := [d1, d2] }
  | _ => none }
def FnExactLoopCountWrongFalsely : Prop := fnExactLoopCountRow.holds Try.pinned (OpenSpec.ofChange fnExactLoopCountWrong)

/-- 'laws.FnExactFlatCount': WHATEVER THE INPUT: true; the input reads as it did. -/
def fnExactFlatCountSpec : ChangeSpec := { name := "fnExactFlatCount", fn := fun _ => fun
  | [d] => { results := [.lit (.bool true)], args := [d] }
  | _ => none }
def fnExactFlatCountRow : OpenClaim := { program := "ytlcbpnbehbgbeab", sum := "011991a8d801da3016e808d5f013303c7037c8d4521d490e61a8ee6f2fd21adc", func := "loop.example/firingnets/laws.FnExactFlatCount", spec := "fnExactFlatCount", unfollowed := true, recurses := true, apart := false }
def FnExactFlatCountSaid : Prop := fnExactFlatCountRow.holds Try.pinned (OpenSpec.ofChange fnExactFlatCountSpec)

/-- ITS FALSE NEIGHBOUR: 'it returns false'. Refute it at one input. -/
def fnExactFlatCountWrong : ChangeSpec := { name := "fnExactFlatCount", fn := fun _ => fun
  | [d] => { results := [.lit (.bool false)], args := [d] }
  | _ => none }
def FnExactFlatCountWrongFalsely : Prop := fnExactFlatCountRow.holds Try.pinned (OpenSpec.ofChange fnExactFlatCountWrong)

/- THE SECOND FORM. 'bulk': how many values and letters a reading holds, each counted each time it is reached (what is shared counts as often as it is met; a slice's spare places count too). A statement '..UptoSaid' is the law's where the arguments, and the package variables that the reading takes, are together of bulk at most 1048576: NARROWER than '..Said'. Prove '..Said' where nothing that the law and all that it calls make is longer than what came in: it says more and counts as full. Else prove '..UptoSaid'. A law counts once. -/
mutual
def uptoBulk {H : Type} : DataW H → Nat
  | .lit (.string bytes) => bytes.length + 1
  | .lit _ => 1
  | .nil => 1
  | .ptr d => uptoBulk d + 1
  | .slice elems spare => uptoBulkAll elems + uptoBulkAll spare + 1
  | .agg parts => uptoBulkAll parts + 1
  | .iface _ d => uptoBulk d + 1
  | .map entries => uptoBulkEntries entries + 1
  | .held _ => 1
def uptoBulkAll {H : Type} : List (DataW H) → Nat
  | [] => 0
  | d :: r => uptoBulk d + uptoBulkAll r
def uptoBulkEntries {H : Type} : List (Lit × DataW H) → Nat
  | [] => 0
  | x :: r => uptoBulkEntry x + uptoBulkEntries r
def uptoBulkEntry {H : Type} : Lit × DataW H → Nat
  | (.string bytes, d) => bytes.length + uptoBulk d + 1
  | (_, d) => uptoBulk d + 1
 end
def uptoSmall : (H : Type) → List (DataW H) → Bool := fun _ ds => decide (uptoBulkAll ds ≤ 1048576)
def OpenSpec.upto (s : _root_.Go.ChangeSpec) : _root_.Go.OpenSpec := { _root_.Go.OpenSpec.ofChange s with cond := some uptoSmall }

/-- 'laws.FnExactDyingCount', WHERE WHAT IT READS IS OF BULK AT MOST 1048576: true; the input reads as it did. -/
def fnExactDyingCountUptoRow : OpenClaim := { program := "ytlcbpnbehbgbeab", sum := "011991a8d801da3016e808d5f013303c7037c8d4521d490e61a8ee6f2fd21adc", func := "loop.example/firingnets/laws.FnExactDyingCount", spec := "fnExactDyingCount", unfollowed := true, recurses := true, apart := false, narrowed := true }
def FnExactDyingCountUptoSaid : Prop := fnExactDyingCountUptoRow.holds Try.pinned (OpenSpec.upto fnExactDyingCountSpec)

/-- 'laws.FnExactLoopCount', WHERE WHAT IT READS IS OF BULK AT MOST 1048576: true; the input reads as it did. -/
def fnExactLoopCountUptoRow : OpenClaim := { program := "ytlcbpnbehbgbeab", sum := "011991a8d801da3016e808d5f013303c7037c8d4521d490e61a8ee6f2fd21adc", func := "loop.example/firingnets/laws.FnExactLoopCount", spec := "fnExactLoopCount", unfollowed := true, recurses := true, apart := false, narrowed := true }
def FnExactLoopCountUptoSaid : Prop := fnExactLoopCountUptoRow.holds Try.pinned (OpenSpec.upto fnExactLoopCountSpec)

/-- 'laws.FnExactFlatCount', WHERE WHAT IT READS IS OF BULK AT MOST 1048576: true; the input reads as it did. -/
def fnExactFlatCountUptoRow : OpenClaim := { program := "ytlcbpnbehbgbeab", sum := "011991a8d801da3016e808d5f013303c7037c8d4521d490e61a8ee6f2fd21adc", func := "loop.example/firingnets/laws.FnExactFlatCount", spec := "fnExactFlatCount", unfollowed := true, recurses := true, apart := false, narrowed := true }
def FnExactFlatCountUptoSaid : Prop := fnExactFlatCountUptoRow.holds Try.pinned (OpenSpec.upto fnExactFlatCountSpec)

end Rows
end Go.Proofs.Ytlcbpnbehbgbeab
