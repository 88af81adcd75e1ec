/-
  No cell of these rows narrows 'for every input' (looked for: loops, veiled, ifaces, maps, wideKeys, modest, calm, conditions, laid).
  DERIVED. THE GIVEN ROWS OF THIS SEAT. 3 by the template 'for every input the law returns true; each argument reads behind the call as it read before'; 0 by the template 'total and deterministic' (their statements: YtilbdpcijdcffabTotals.lean).
  GIVEN WITH THE SEED: the statements are not yours to turn. If you find one false, say at which input.
  Laid BY PROGRAM, IN A SANDBOX (cutbox-rows.mjs): the forced cells as the released guide's own fill.sh prints them over the translation e6ae2f871ff70b70… (all of the seat's roots in one cut). By AI agents, Wed Nov 11 2026. No macro, syntax, notation, axiom, sorry.
-/
import Derived.Test.YtilbdpcijdcffabChecked
import GoSem.Claim
import GoSem.ClaimJoined
import GoSem.ClaimMapViews
import Derived.JoinedTies
import Derived.KernelRfl
namespace Go.Proofs.Ytilbdpcijdcffab
/- THE CELL 'sum', in the pinned program and in every row, IS THE sha256 OF THE DUMP (.gsa) THAT YtilbdpcijdcffabProg.lean LOADS. Nothing in Lean hashes anything: it is a label: what it is worth is what the hold of that sum in a sandbox is worth. -/
noncomputable def Try.pinned : Pinned := { name := "ytilbdpcijdcffab", sum := "e6ae2f871ff70b70395b9a2ed9a72c7f0b23a1142eb96605f4ff5a2d6f3ad7cd", checked := Try.checked }
namespace Rows
def none {H : Type} : Left H := { results := [], args := [] }

/-- 'laws.FnExactScriptRun': WHATEVER THE INPUT: true; the input reads as it did. -/
def fnExactScriptRunSpec : ChangeSpec := { name := "fnExactScriptRun", fn := fun _ => fun
  | [d1, d2, d3, d4, d5] => { results := [.lit (.bool true)], args := [d1, d2, d3, d4, d5] }
  | _ => none }
def fnExactScriptRunRow : OpenClaim := { program := "ytilbdpcijdcffab", sum := "e6ae2f871ff70b70395b9a2ed9a72c7f0b23a1142eb96605f4ff5a2d6f3ad7cd", func := "loop.example/firingnets/laws.FnExactScriptRun", spec := "fnExactScriptRun", apart := false }
def FnExactScriptRunSaid : Prop := fnExactScriptRunRow.holds Try.pinned (OpenSpec.ofChange fnExactScriptRunSpec)

/-- ITS FALSE NEIGHBOUR: 'it returns false'. Refute it at one input. -/
def fnExactScriptRunWrong : ChangeSpec := { name := "fnExactScriptRun", fn := fun _ => fun
  | [d1, d2, d3, d4, d5] => { results := [.lit (.bool false)], args := [d1, d2, d3, d4, d5] }
  | _ => none }
def FnExactScriptRunWrongFalsely : Prop := fnExactScriptRunRow.holds Try.pinned (OpenSpec.ofChange fnExactScriptRunWrong)

/-- 'laws.FnExactScriptFired': WHATEVER THE INPUT: true; the input reads as it did. -/
def fnExactScriptFiredSpec : ChangeSpec := { name := "fnExactScriptFired", fn := fun _ => fun
  | [d1, d2, d3, d4, d5] => { results := [.lit (.bool true)], args := [d1, d2, d3, d4, d5] }
  | _ => none }
def fnExactScriptFiredRow : OpenClaim := { program := "ytilbdpcijdcffab", sum := "e6ae2f871ff70b70395b9a2ed9a72c7f0b23a1142eb96605f4ff5a2d6f3ad7cd", func := "loop.example/firingnets/laws.FnExactScriptFired", spec := "fnExactScriptFired", apart := false }
def FnExactScriptFiredSaid : Prop := fnExactScriptFiredRow.holds Try.pinned (OpenSpec.ofChange fnExactScriptFiredSpec)

/-- ITS FALSE NEIGHBOUR: 'it returns false'. Refute it at one input. -/
def fnExactScriptFiredWrong : ChangeSpec := { name := "fnExactScriptFired", fn := fun _ => fun
  | [d1, d2, d3, d4, d5] => { results := [.lit (.bool false)], args := [d1, d2, d3, d4, d5] }
  | _ => none }
def FnExactScriptFiredWrongFalsely : Prop := fnExactScriptFiredRow.holds Try.pinned (OpenSpec.ofChange fnExactScriptFiredWrong)

/-- 'laws.FnExactPulseScript': WHATEVER THE INPUT: true; the input reads as it did. -/
def fnExactPulseScriptSpec : ChangeSpec := { name := "fnExactPulseScript", fn := fun _ => fun
  | [d1, d2, d3] => { results := [.lit (.bool true)], args := [d1, d2, d3] }
  | _ => none }
def fnExactPulseScriptRow : OpenClaim := { program := "ytilbdpcijdcffab", sum := "e6ae2f871ff70b70395b9a2ed9a72c7f0b23a1142eb96605f4ff5a2d6f3ad7cd", func := "loop.example/firingnets/laws.FnExactPulseScript", spec := "fnExactPulseScript", apart := false }
def FnExactPulseScriptSaid : Prop := fnExactPulseScriptRow.holds Try.pinned (OpenSpec.ofChange fnExactPulseScriptSpec)

/-- ITS FALSE NEIGHBOUR: 'it returns false'. Refute it at one input. -/
def fnExactPulseScriptWrong : ChangeSpec := { name := "fnExactPulseScript", fn := fun _ => fun
  | [d1, d2, d3] => { results := [.lit (.bool false)], args := [d1, d2, d3] }
  | _ => none }
def FnExactPulseScriptWrongFalsely : Prop := fnExactPulseScriptRow.holds Try.pinned (OpenSpec.ofChange fnExactPulseScriptWrong)

/- THE SECOND FORM. 'bulk': how many values and letters a reading holds, each counted each time it is reached (what is shared counts as often as it is met; a slice's spare places count too). A statement '..UptoSaid' is the law's where the arguments, and the package variables that the reading takes, are together of bulk at most 1048576: NARROWER than '..Said'. Prove '..Said' where nothing that the law and all that it calls make is longer than what came in: it says more and counts as full. Else prove '..UptoSaid'. A law counts once. -/
mutual
def uptoBulk {H : Type} : DataW H → Nat
  | .lit (.string bytes) => bytes.length + 1
  | .lit _ => 1
  | .nil => 1
  | .ptr d => uptoBulk d + 1
  | .slice elems spare => uptoBulkAll elems + uptoBulkAll spare + 1
  | .agg parts => uptoBulkAll parts + 1
  | .iface _ d => uptoBulk d + 1
  | .map entries => uptoBulkEntries entries + 1
  | .held _ => 1
def uptoBulkAll {H : Type} : List (DataW H) → Nat
  | [] => 0
  | d :: r => uptoBulk d + uptoBulkAll r
def uptoBulkEntries {H : Type} : List (Lit × DataW H) → Nat
  | [] => 0
  | x :: r => uptoBulkEntry x + uptoBulkEntries r
def uptoBulkEntry {H : Type} : Lit × DataW H → Nat
  | (.string bytes, d) => bytes.length + uptoBulk d + 1
  | (_, d) => uptoBulk d + 1
 end
def uptoSmall : (H : Type) → List (DataW H) → Bool := fun _ ds => decide (uptoBulkAll ds ≤ 1048576)
def OpenSpec.upto (s : _root_.Go.ChangeSpec) : _root_.Go.OpenSpec := { _root_.Go.OpenSpec.ofChange s with cond := some uptoSmall }

/-- 'laws.FnExactScriptRun', WHERE WHAT IT READS IS OF BULK AT MOST 1048576: true; the input reads as it did. -/
def fnExactScriptRunUptoRow : OpenClaim := { program := "ytilbdpcijdcffab", sum := "e6ae2f871ff70b70395b9a2ed9a72c7f0b23a1142eb96605f4ff5a2d6f3ad7cd", func := "loop.example/firingnets/laws.FnExactScriptRun", spec := "fnExactScriptRun", apart := false, narrowed := true }
def FnExactScriptRunUptoSaid : Prop := fnExactScriptRunUptoRow.holds Try.pinned (OpenSpec.upto fnExactScriptRunSpec)

/-- 'laws.FnExactScriptFired', WHERE WHAT IT READS IS OF BULK AT MOST 1048576: true; the input reads as it did. -/
def fnExactScriptFiredUptoRow : OpenClaim := { program := "ytilbdpcijdcffab", sum := "e6ae2f871ff70b70395b9a2ed9a72c7f0b23a1142eb96605f4ff5a2d6f3ad7cd", func := "loop.example/firingnets/laws.FnExactScriptFired", spec := "fnExactScriptFired", apart := false, narrowed := true }
def FnExactScriptFiredUptoSaid : Prop := fnExactScriptFiredUptoRow.holds Try.pinned (OpenSpec.upto fnExactScriptFiredSpec)

/-- 'laws.FnExactPulseScript', WHERE WHAT IT READS IS OF BULK AT MOST 1048576: true; the input reads as it did. -/
def fnExactPulseScriptUptoRow : OpenClaim := { program := "ytilbdpcijdcffab", sum := "e6ae2f871ff70b70395b9a2ed9a72c7f0b23a1142eb96605f4ff5a2d6f3ad7cd", func := "loop.example/firingnets/laws.FnExactPulseScript", spec := "fnExactPulseScript", apart := false, narrowed := true }
def FnExactPulseScriptUptoSaid : Prop := fnExactPulseScriptUptoRow.holds Try.pinned (OpenSpec.upto fnExactPulseScriptSpec)

end Rows
end Go.Proofs.Ytilbdpcijdcffab
