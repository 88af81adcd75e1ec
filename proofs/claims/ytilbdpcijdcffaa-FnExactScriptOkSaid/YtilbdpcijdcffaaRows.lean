/-
  No cell of these rows narrows 'for every input' (looked for: loops, veiled, ifaces, maps, wideKeys, modest, calm, conditions, laid).
  DERIVED. THE GIVEN ROWS OF THIS SEAT. 6 by the template 'for every input the law returns true; each argument reads behind the call as it read before'; 0 by the template 'total and deterministic' (their statements: YtilbdpcijdcffaaTotals.lean).
  GIVEN WITH THE SEED: the statements are not yours to turn. If you find one false, say at which input.
  Laid BY PROGRAM, IN A SANDBOX (cutbox-rows.mjs): the forced cells as the released guide's own fill.sh prints them over the translation 6a7fcf87aa5699e7… (all of the seat's roots in one cut). By AI agents, Wed Nov 11 2026. No macro, syntax, notation, axiom, sorry.
-/
import Derived.Test.YtilbdpcijdcffaaChecked
import GoSem.Claim
import GoSem.ClaimJoined
import GoSem.ClaimMapViews
import Derived.JoinedTies
import Derived.KernelRfl
namespace Go.Proofs.Ytilbdpcijdcffaa
/- THE CELL 'sum', in the pinned program and in every row, IS THE sha256 OF THE DUMP (.gsa) THAT YtilbdpcijdcffaaProg.lean LOADS. Nothing in Lean hashes anything: it is a label: what it is worth is what the hold of that sum in a sandbox is worth. -/
noncomputable def Try.pinned : Pinned := { name := "ytilbdpcijdcffaa", sum := "6a7fcf87aa5699e733db4a0c0ccc814f0c4f7df324510361d3e26930946374c7", checked := Try.checked }
namespace Rows
def none {H : Type} : Left H := { results := [], args := [] }

/-- 'laws.FnScriptOk': WHATEVER THE INPUT: true; the input reads as it did. -/
def fnScriptOkSpec : ChangeSpec := { name := "fnScriptOk", fn := fun _ => fun
  | [d] => { results := [.lit (.bool true)], args := [d] }
  | _ => none }
def fnScriptOkRow : OpenClaim := { program := "ytilbdpcijdcffaa", sum := "6a7fcf87aa5699e733db4a0c0ccc814f0c4f7df324510361d3e26930946374c7", func := "loop.example/firingnets/laws.FnScriptOk", spec := "fnScriptOk", apart := false }
def FnScriptOkSaid : Prop := fnScriptOkRow.holds Try.pinned (OpenSpec.ofChange fnScriptOkSpec)

/-- ITS FALSE NEIGHBOUR: 'it returns false'. Refute it at one input. -/
def fnScriptOkWrong : ChangeSpec := { name := "fnScriptOk", fn := fun _ => fun
  | [d] => { results := [.lit (.bool false)], args := [d] }
  | _ => none }
def FnScriptOkWrongFalsely : Prop := fnScriptOkRow.holds Try.pinned (OpenSpec.ofChange fnScriptOkWrong)

/-- 'laws.FnScriptRun': WHATEVER THE INPUT: true; the input reads as it did. -/
def fnScriptRunSpec : ChangeSpec := { name := "fnScriptRun", fn := fun _ => fun
  | [d] => { results := [.lit (.bool true)], args := [d] }
  | _ => none }
def fnScriptRunRow : OpenClaim := { program := "ytilbdpcijdcffaa", sum := "6a7fcf87aa5699e733db4a0c0ccc814f0c4f7df324510361d3e26930946374c7", func := "loop.example/firingnets/laws.FnScriptRun", spec := "fnScriptRun", unfollowed := true, recurses := true, apart := false }
def FnScriptRunSaid : Prop := fnScriptRunRow.holds Try.pinned (OpenSpec.ofChange fnScriptRunSpec)

/-- ITS FALSE NEIGHBOUR: 'it returns false'. Refute it at one input. -/
def fnScriptRunWrong : ChangeSpec := { name := "fnScriptRun", fn := fun _ => fun
  | [d] => { results := [.lit (.bool false)], args := [d] }
  | _ => none }
def FnScriptRunWrongFalsely : Prop := fnScriptRunRow.holds Try.pinned (OpenSpec.ofChange fnScriptRunWrong)

/-- 'laws.FnScriptFired': WHATEVER THE INPUT: true; the input reads as it did. -/
def fnScriptFiredSpec : ChangeSpec := { name := "fnScriptFired", fn := fun _ => fun
  | [d] => { results := [.lit (.bool true)], args := [d] }
  | _ => none }
def fnScriptFiredRow : OpenClaim := { program := "ytilbdpcijdcffaa", sum := "6a7fcf87aa5699e733db4a0c0ccc814f0c4f7df324510361d3e26930946374c7", func := "loop.example/firingnets/laws.FnScriptFired", spec := "fnScriptFired", unfollowed := true, recurses := true, apart := false }
def FnScriptFiredSaid : Prop := fnScriptFiredRow.holds Try.pinned (OpenSpec.ofChange fnScriptFiredSpec)

/-- ITS FALSE NEIGHBOUR: 'it returns false'. Refute it at one input. -/
def fnScriptFiredWrong : ChangeSpec := { name := "fnScriptFired", fn := fun _ => fun
  | [d] => { results := [.lit (.bool false)], args := [d] }
  | _ => none }
def FnScriptFiredWrongFalsely : Prop := fnScriptFiredRow.holds Try.pinned (OpenSpec.ofChange fnScriptFiredWrong)

/-- 'laws.FnPulseScript': WHATEVER THE INPUT: true; the input reads as it did. -/
def fnPulseScriptSpec : ChangeSpec := { name := "fnPulseScript", fn := fun _ => fun
  | [d1, d2] => { results := [.lit (.bool true)], args := [d1, d2] }
  | _ => none }
def fnPulseScriptRow : OpenClaim := { program := "ytilbdpcijdcffaa", sum := "6a7fcf87aa5699e733db4a0c0ccc814f0c4f7df324510361d3e26930946374c7", func := "loop.example/firingnets/laws.FnPulseScript", spec := "fnPulseScript", apart := false }
def FnPulseScriptSaid : Prop := fnPulseScriptRow.holds Try.pinned (OpenSpec.ofChange fnPulseScriptSpec)

/-- ITS FALSE NEIGHBOUR: 'it returns false'. Refute it at one input. -/
def fnPulseScriptWrong : ChangeSpec := { name := "fnPulseScript", fn := fun _ => fun
  | [d1, d2] => { results := [.lit (.bool false)], args := [d1, d2] }
  | _ => none }
def FnPulseScriptWrongFalsely : Prop := fnPulseScriptRow.holds Try.pinned (OpenSpec.ofChange fnPulseScriptWrong)

/-- 'laws.FnScriptWave': WHATEVER THE INPUT: true; the input reads as it did. -/
def fnScriptWaveSpec : ChangeSpec := { name := "fnScriptWave", fn := fun _ => fun
  | [d] => { results := [.lit (.bool true)], args := [d] }
  | _ => none }
def fnScriptWaveRow : OpenClaim := { program := "ytilbdpcijdcffaa", sum := "6a7fcf87aa5699e733db4a0c0ccc814f0c4f7df324510361d3e26930946374c7", func := "loop.example/firingnets/laws.FnScriptWave", spec := "fnScriptWave", apart := false }
def FnScriptWaveSaid : Prop := fnScriptWaveRow.holds Try.pinned (OpenSpec.ofChange fnScriptWaveSpec)

/-- ITS FALSE NEIGHBOUR: 'it returns false'. Refute it at one input. -/
def fnScriptWaveWrong : ChangeSpec := { name := "fnScriptWave", fn := fun _ => fun
  | [d] => { results := [.lit (.bool false)], args := [d] }
  | _ => none }
def FnScriptWaveWrongFalsely : Prop := fnScriptWaveRow.holds Try.pinned (OpenSpec.ofChange fnScriptWaveWrong)

/-- 'laws.FnExactScriptOk': WHATEVER THE INPUT: true; the input reads as it did. -/
def fnExactScriptOkSpec : ChangeSpec := { name := "fnExactScriptOk", fn := fun _ => fun
  | [d1, d2] => { results := [.lit (.bool true)], args := [d1, d2] }
  | _ => none }
def fnExactScriptOkRow : OpenClaim := { program := "ytilbdpcijdcffaa", sum := "6a7fcf87aa5699e733db4a0c0ccc814f0c4f7df324510361d3e26930946374c7", func := "loop.example/firingnets/laws.FnExactScriptOk", spec := "fnExactScriptOk", apart := false }
def FnExactScriptOkSaid : Prop := fnExactScriptOkRow.holds Try.pinned (OpenSpec.ofChange fnExactScriptOkSpec)

/-- ITS FALSE NEIGHBOUR: 'it returns false'. Refute it at one input. -/
def fnExactScriptOkWrong : ChangeSpec := { name := "fnExactScriptOk", fn := fun _ => fun
  | [d1, d2] => { results := [.lit (.bool false)], args := [d1, d2] }
  | _ => none }
def FnExactScriptOkWrongFalsely : Prop := fnExactScriptOkRow.holds Try.pinned (OpenSpec.ofChange fnExactScriptOkWrong)

/- THE SECOND FORM. 'bulk': how many values and letters a reading holds, each counted each time it is reached (what is shared counts as often as it is met; a slice's spare places count too). A statement '..UptoSaid' is the law's where the arguments, and the package variables that the reading takes, are together of bulk at most 1048576: NARROWER than '..Said'. Prove '..Said' where nothing that the law and all that it calls make is longer than what came in: it says more and counts as full. Else prove '..UptoSaid'. A law counts once. -/
mutual
def uptoBulk {H : Type} : DataW H → Nat
  | .lit (.string bytes) => bytes.length + 1
  | .lit _ => 1
  | .nil => 1
  | .ptr d => uptoBulk d + 1
  | .slice elems spare => uptoBulkAll elems + uptoBulkAll spare + 1
  | .agg parts => uptoBulkAll parts + 1
  | .iface _ d => uptoBulk d + 1
  | .map entries => uptoBulkEntries entries + 1
  | .held _ => 1
def uptoBulkAll {H : Type} : List (DataW H) → Nat
  | [] => 0
  | d :: r => uptoBulk d + uptoBulkAll r
def uptoBulkEntries {H : Type} : List (Lit × DataW H) → Nat
  | [] => 0
  | x :: r => uptoBulkEntry x + uptoBulkEntries r
def uptoBulkEntry {H : Type} : Lit × DataW H → Nat
  | (.string bytes, d) => bytes.length + uptoBulk d + 1
  | (_, d) => uptoBulk d + 1
 end
def uptoSmall : (H : Type) → List (DataW H) → Bool := fun _ ds => decide (uptoBulkAll ds ≤ 1048576)
def OpenSpec.upto (s : _root_.Go.ChangeSpec) : _root_.Go.OpenSpec := { _root_.Go.OpenSpec.ofChange s with cond := some uptoSmall }

/-- 'laws.FnScriptOk', WHERE WHAT IT READS IS OF BULK AT MOST 1048576: true; the input reads as it did. -/
def fnScriptOkUptoRow : OpenClaim := { program := "ytilbdpcijdcffaa", sum := "6a7fcf87aa5699e733db4a0c0ccc814f0c4f7df324510361d3e26930946374c7", func := "loop.example/firingnets/laws.FnScriptOk", spec := "fnScriptOk", apart := false, narrowed := true }
def FnScriptOkUptoSaid : Prop := fnScriptOkUptoRow.holds Try.pinned (OpenSpec.upto fnScriptOkSpec)

/-- 'laws.FnScriptRun', WHERE WHAT IT READS IS OF BULK AT MOST 1048576: true; the input reads as it did. -/
def fnScriptRunUptoRow : OpenClaim := { program := "ytilbdpcijdcffaa", sum := "6a7fcf87aa5699e733db4a0c0ccc814f0c4f7df324510361d3e26930946374c7", func := "loop.example/firingnets/laws.FnScriptRun", spec := "fnScriptRun", unfollowed := true, recurses := true, apart := false, narrowed := true }
def FnScriptRunUptoSaid : Prop := fnScriptRunUptoRow.holds Try.pinned (OpenSpec.upto fnScriptRunSpec)

/-- 'laws.FnScriptFired', WHERE WHAT IT READS IS OF BULK AT MOST 1048576: true; the input reads as it did. -/
def fnScriptFiredUptoRow : OpenClaim := { program := "ytilbdpcijdcffaa", sum := "6a7fcf87aa5699e733db4a0c0ccc814f0c4f7df324510361d3e26930946374c7", func := "loop.example/firingnets/laws.FnScriptFired", spec := "fnScriptFired", unfollowed := true, recurses := true, apart := false, narrowed := true }
def FnScriptFiredUptoSaid : Prop := fnScriptFiredUptoRow.holds Try.pinned (OpenSpec.upto fnScriptFiredSpec)

/-- 'laws.FnPulseScript', WHERE WHAT IT READS IS OF BULK AT MOST 1048576: true; the input reads as it did. -/
def fnPulseScriptUptoRow : OpenClaim := { program := "ytilbdpcijdcffaa", sum := "6a7fcf87aa5699e733db4a0c0ccc814f0c4f7df324510361d3e26930946374c7", func := "loop.example/firingnets/laws.FnPulseScript", spec := "fnPulseScript", apart := false, narrowed := true }
def FnPulseScriptUptoSaid : Prop := fnPulseScriptUptoRow.holds Try.pinned (OpenSpec.upto fnPulseScriptSpec)

/-- 'laws.FnScriptWave', WHERE WHAT IT READS IS OF BULK AT MOST 1048576: true; the input reads as it did. -/
def fnScriptWaveUptoRow : OpenClaim := { program := "ytilbdpcijdcffaa", sum := "6a7fcf87aa5699e733db4a0c0ccc814f0c4f7df324510361d3e26930946374c7", func := "loop.example/firingnets/laws.FnScriptWave", spec := "fnScriptWave", apart := false, narrowed := true }
def FnScriptWaveUptoSaid : Prop := fnScriptWaveUptoRow.holds Try.pinned (OpenSpec.upto fnScriptWaveSpec)

/-- 'laws.FnExactScriptOk', WHERE WHAT IT READS IS OF BULK AT MOST 1048576: true; the input reads as it did. -/
def fnExactScriptOkUptoRow : OpenClaim := { program := "ytilbdpcijdcffaa", sum := "6a7fcf87aa5699e733db4a0c0ccc814f0c4f7df324510361d3e26930946374c7", func := "loop.example/firingnets/laws.FnExactScriptOk", spec := "fnExactScriptOk", apart := false, narrowed := true }
def FnExactScriptOkUptoSaid : Prop := fnExactScriptOkUptoRow.holds Try.pinned (OpenSpec.upto fnExactScriptOkSpec)

end Rows
end Go.Proofs.Ytilbdpcijdcffaa
