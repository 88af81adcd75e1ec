/-
  No cell of these rows narrows 'for every input' (looked for: loops, veiled, ifaces, maps, wideKeys, modest, calm, conditions, laid).
  DERIVED. THE GIVEN ROWS OF THIS SEAT. 8 by the template 'for every input the law returns true; each argument reads behind the call as it read before'; 0 by the template 'total and deterministic' (their statements: YtlcbpnbehbgbeaaTotals.lean).
  GIVEN WITH THE SEED: the statements are not yours to turn. If you find one false, say at which input.
  Laid BY PROGRAM, IN A SANDBOX (cutbox-rows.mjs): the forced cells as the released guide's own fill.sh prints them over the translation ffe02c7e6233e3a3… (all of the seat's roots in one cut). By AI agents, Wed Nov 11 2026. No macro, syntax, notation, axiom, sorry.
-/
import Derived.Test.YtlcbpnbehbgbeaaChecked
import GoSem.Claim
import GoSem.ClaimJoined
import GoSem.ClaimMapViews
import Derived.JoinedTies
import Derived.KernelRfl
namespace Go.Proofs.Ytlcbpnbehbgbeaa
/- THE CELL 'sum', in the pinned program and in every row, IS THE sha256 OF THE DUMP (.gsa) THAT YtlcbpnbehbgbeaaProg.lean LOADS. Nothing in Lean hashes anything: it is a label: what it is worth is what the hold of that sum in a sandbox is worth. -/
noncomputable def Try.pinned : Pinned := { name := "ytlcbpnbehbgbeaa", sum := "ffe02c7e6233e3a33a306553e0c51958845eaf8adf2e6b6f00408795523d77d0", checked := Try.checked }
namespace Rows
def none {H : Type} : Left H := { results := [], args := [] }

/-- 'laws.FnBeforeCount': WHATEVER THE INPUT: true; the input reads as it did. -/
def fnBeforeCountSpec : ChangeSpec := { name := "fnBeforeCount", fn := fun _ => fun
  | [d] => { results := [.lit (.bool true)], args := [d] }
  | _ => none }
def fnBeforeCountRow : OpenClaim := { program := "ytlcbpnbehbgbeaa", sum := "ffe02c7e6233e3a33a306553e0c51958845eaf8adf2e6b6f00408795523d77d0", func := "loop.example/firingnets/laws.FnBeforeCount", spec := "fnBeforeCount", unfollowed := true, recurses := true, apart := false }
def FnBeforeCountSaid : Prop := fnBeforeCountRow.holds Try.pinned (OpenSpec.ofChange fnBeforeCountSpec)

/-- ITS FALSE NEIGHBOUR: 'it returns false'. Refute it at one input. -/
def fnBeforeCountWrong : ChangeSpec := { name := "fnBeforeCount", fn := fun _ => fun
  | [d] => { results := [.lit (.bool false)], args := [d] }
  | _ => none }
def FnBeforeCountWrongFalsely : Prop := fnBeforeCountRow.holds Try.pinned (OpenSpec.ofChange fnBeforeCountWrong)

/-- 'laws.FnEdenCount': WHATEVER THE INPUT: true; the input reads as it did. -/
def fnEdenCountSpec : ChangeSpec := { name := "fnEdenCount", fn := fun _ => fun
  | [d] => { results := [.lit (.bool true)], args := [d] }
  | _ => none }
def fnEdenCountRow : OpenClaim := { program := "ytlcbpnbehbgbeaa", sum := "ffe02c7e6233e3a33a306553e0c51958845eaf8adf2e6b6f00408795523d77d0", func := "loop.example/firingnets/laws.FnEdenCount", spec := "fnEdenCount", unfollowed := true, recurses := true, apart := false }
def FnEdenCountSaid : Prop := fnEdenCountRow.holds Try.pinned (OpenSpec.ofChange fnEdenCountSpec)

/-- ITS FALSE NEIGHBOUR: 'it returns false'. Refute it at one input. -/
def fnEdenCountWrong : ChangeSpec := { name := "fnEdenCount", fn := fun _ => fun
  | [d] => { results := [.lit (.bool false)], args := [d] }
  | _ => none }
def FnEdenCountWrongFalsely : Prop := fnEdenCountRow.holds Try.pinned (OpenSpec.ofChange fnEdenCountWrong)

/-- 'laws.FnDyingCount': WHATEVER THE INPUT: true; the input reads as it did. -/
def fnDyingCountSpec : ChangeSpec := { name := "fnDyingCount", fn := fun _ => fun
  | [d] => { results := [.lit (.bool true)], args := [d] }
  | _ => none }
def fnDyingCountRow : OpenClaim := { program := "ytlcbpnbehbgbeaa", sum := "ffe02c7e6233e3a33a306553e0c51958845eaf8adf2e6b6f00408795523d77d0", func := "loop.example/firingnets/laws.FnDyingCount", spec := "fnDyingCount", unfollowed := true, recurses := true, apart := false }
def FnDyingCountSaid : Prop := fnDyingCountRow.holds Try.pinned (OpenSpec.ofChange fnDyingCountSpec)

/-- ITS FALSE NEIGHBOUR: 'it returns false'. Refute it at one input. -/
def fnDyingCountWrong : ChangeSpec := { name := "fnDyingCount", fn := fun _ => fun
  | [d] => { results := [.lit (.bool false)], args := [d] }
  | _ => none }
def FnDyingCountWrongFalsely : Prop := fnDyingCountRow.holds Try.pinned (OpenSpec.ofChange fnDyingCountWrong)

/-- 'laws.FnLoopCount': WHATEVER THE INPUT: true; the input reads as it did. -/
def fnLoopCountSpec : ChangeSpec := { name := "fnLoopCount", fn := fun _ => fun
  | [d] => { results := [.lit (.bool true)], args := [d] }
  | _ => none }
def fnLoopCountRow : OpenClaim := { program := "ytlcbpnbehbgbeaa", sum := "ffe02c7e6233e3a33a306553e0c51958845eaf8adf2e6b6f00408795523d77d0", func := "loop.example/firingnets/laws.FnLoopCount", spec := "fnLoopCount", unfollowed := true, recurses := true, apart := false }
def FnLoopCountSaid : Prop := fnLoopCountRow.holds Try.pinned (OpenSpec.ofChange fnLoopCountSpec)

/-- ITS FALSE NEIGHBOUR: 'it returns false'. Refute it at one input. -/
def fnLoopCountWrong : ChangeSpec := { name := "fnLoopCount", fn := fun _ => fun
  | [d] => { results := [.lit (.bool false)], args := [d] }
  | _ => none }
def FnLoopCountWrongFalsely : Prop := fnLoopCountRow.holds Try.pinned (OpenSpec.ofChange fnLoopCountWrong)

/-- 'laws.FnFlatCount': WHATEVER THE INPUT: true; the input reads as it did. -/
def fnFlatCountSpec : ChangeSpec := { name := "fnFlatCount", fn := fun _ => fun
  | [d] => { results := [.lit (.bool true)], args := [d] }
  | _ => none }
def fnFlatCountRow : OpenClaim := { program := "ytlcbpnbehbgbeaa", sum := "ffe02c7e6233e3a33a306553e0c51958845eaf8adf2e6b6f00408795523d77d0", func := "loop.example/firingnets/laws.FnFlatCount", spec := "fnFlatCount", unfollowed := true, recurses := true, apart := false }
def FnFlatCountSaid : Prop := fnFlatCountRow.holds Try.pinned (OpenSpec.ofChange fnFlatCountSpec)

/-- ITS FALSE NEIGHBOUR: 'it returns false'. Refute it at one input. -/
def fnFlatCountWrong : ChangeSpec := { name := "fnFlatCount", fn := fun _ => fun
  | [d] => { results := [.lit (.bool false)], args := [d] }
  | _ => none }
def FnFlatCountWrongFalsely : Prop := fnFlatCountRow.holds Try.pinned (OpenSpec.ofChange fnFlatCountWrong)

/-- 'laws.FnNoneBefore': WHATEVER THE INPUT: true; the input reads as it did. -/
def fnNoneBeforeSpec : ChangeSpec := { name := "fnNoneBefore", fn := fun _ => fun
  | [d] => { results := [.lit (.bool true)], args := [d] }
  | _ => none }
def fnNoneBeforeRow : OpenClaim := { program := "ytlcbpnbehbgbeaa", sum := "ffe02c7e6233e3a33a306553e0c51958845eaf8adf2e6b6f00408795523d77d0", func := "loop.example/firingnets/laws.FnNoneBefore", spec := "fnNoneBefore", unfollowed := true, recurses := true, apart := false }
def FnNoneBeforeSaid : Prop := fnNoneBeforeRow.holds Try.pinned (OpenSpec.ofChange fnNoneBeforeSpec)

/-- ITS FALSE NEIGHBOUR: 'it returns false'. Refute it at one input. -/
def fnNoneBeforeWrong : ChangeSpec := { name := "fnNoneBefore", fn := fun _ => fun
  | [d] => { results := [.lit (.bool false)], args := [d] }
  | _ => none }
def FnNoneBeforeWrongFalsely : Prop := fnNoneBeforeRow.holds Try.pinned (OpenSpec.ofChange fnNoneBeforeWrong)

/-- 'laws.FnExactBeforeCount': WHATEVER THE INPUT: true; the input reads as it did. -/
def fnExactBeforeCountSpec : ChangeSpec := { name := "fnExactBeforeCount", fn := fun _ => fun
  | [d1, d2, d3] => { results := [.lit (.bool true)], args := [d1, d2, d3] }
  | _ => none }
def fnExactBeforeCountRow : OpenClaim := { program := "ytlcbpnbehbgbeaa", sum := "ffe02c7e6233e3a33a306553e0c51958845eaf8adf2e6b6f00408795523d77d0", func := "loop.example/firingnets/laws.FnExactBeforeCount", spec := "fnExactBeforeCount", unfollowed := true, recurses := true, apart := false }
def FnExactBeforeCountSaid : Prop := fnExactBeforeCountRow.holds Try.pinned (OpenSpec.ofChange fnExactBeforeCountSpec)

/-- ITS FALSE NEIGHBOUR: 'it returns false'. Refute it at one input. -/
def fnExactBeforeCountWrong : ChangeSpec := { name := "fnExactBeforeCount", fn := fun _ => fun
  | [d1, d2, d3] => { results := [.lit (.bool false)], args := [d1, d2, d3] }
  | _ => none }
def FnExactBeforeCountWrongFalsely : Prop := fnExactBeforeCountRow.holds Try.pinned (OpenSpec.ofChange fnExactBeforeCountWrong)

/-- 'laws.FnExactEdenCount': WHATEVER THE INPUT: true; the input reads as it did. -/
def fnExactEdenCountSpec : ChangeSpec := { name := "fnExactEdenCount", fn := fun _ => fun
  | [d1, d2] => { results := [.lit (.bool true)], args := [d1, d2] }
  | _ => none }
def fnExactEdenCountRow : OpenClaim := { program := "ytlcbpnbehbgbeaa", sum := "ffe02c7e6233e3a33a306553e0c51958845eaf8adf2e6b6f00408795523d77d0", func := "loop.example/firingnets/laws.FnExactEdenCount", spec := "fnExactEdenCount", unfollowed := true, recurses := true, apart := false }
def FnExactEdenCountSaid : Prop := fnExactEdenCountRow.holds Try.pinned (OpenSpec.ofChange fnExactEdenCountSpec)

/-- ITS FALSE NEIGHBOUR: 'it returns false'. Refute it at one input. -/
def fnExactEdenCountWrong : ChangeSpec := { name := "fnExactEdenCount", fn := fun _ => fun
  | [d1, d2] => { results := [.lit (.bool false)], args := [d1, d2] }
  | _ => none }
def FnExactEdenCountWrongFalsely : Prop := fnExactEdenCountRow.holds Try.pinned (OpenSpec.ofChange fnExactEdenCountWrong)

/- THE SECOND FORM. 'bulk': how many values and letters a reading holds, each counted each time it is reached (what is shared counts as often as it is met; a slice's spare places count too). A statement '..UptoSaid' is the law's where the arguments, and the package variables that the reading takes, are together of bulk at most 1048576: NARROWER than '..Said'. Prove '..Said' where nothing that the law and all that it calls make is longer than what came in: it says more and counts as full. Else prove '..UptoSaid'. A law counts once. -/
mutual
def uptoBulk {H : Type} : DataW H → Nat
  | .lit (.string bytes) => bytes.length + 1
  | .lit _ => 1
  | .nil => 1
  | .ptr d => uptoBulk d + 1
  | .slice elems spare => uptoBulkAll elems + uptoBulkAll spare + 1
  | .agg parts => uptoBulkAll parts + 1
  | .iface _ d => uptoBulk d + 1
  | .map entries => uptoBulkEntries entries + 1
  | .held _ => 1
def uptoBulkAll {H : Type} : List (DataW H) → Nat
  | [] => 0
  | d :: r => uptoBulk d + uptoBulkAll r
def uptoBulkEntries {H : Type} : List (Lit × DataW H) → Nat
  | [] => 0
  | x :: r => uptoBulkEntry x + uptoBulkEntries r
def uptoBulkEntry {H : Type} : Lit × DataW H → Nat
  | (.string bytes, d) => bytes.length + uptoBulk d + 1
  | (_, d) => uptoBulk d + 1
 end
def uptoSmall : (H : Type) → List (DataW H) → Bool := fun _ ds => decide (uptoBulkAll ds ≤ 1048576)
def OpenSpec.upto (s : _root_.Go.ChangeSpec) : _root_.Go.OpenSpec := { _root_.Go.OpenSpec.ofChange s with cond := some uptoSmall }

/-- 'laws.FnBeforeCount', WHERE WHAT IT READS IS OF BULK AT MOST 1048576: true; the input reads as it did. -/
def fnBeforeCountUptoRow : OpenClaim := { program := "ytlcbpnbehbgbeaa", sum := "ffe02c7e6233e3a33a306553e0c51958845eaf8adf2e6b6f00408795523d77d0", func := "loop.example/firingnets/laws.FnBeforeCount", spec := "fnBeforeCount", unfollowed := true, recurses := true, apart := false, narrowed := true }
def FnBeforeCountUptoSaid : Prop := fnBeforeCountUptoRow.holds Try.pinned (OpenSpec.upto fnBeforeCountSpec)

/-- 'laws.FnEdenCount', WHERE WHAT IT READS IS OF BULK AT MOST 1048576: true; the input reads as it did. -/
def fnEdenCountUptoRow : OpenClaim := { program := "ytlcbpnbehbgbeaa", sum := "ffe02c7e6233e3a33a306553e0c51958845eaf8adf2e6b6f00408795523d77d0", func := "loop.example/firingnets/laws.FnEdenCount", spec := "fnEdenCount", unfollowed := true, recurses := true, apart := false, narrowed := true }
def FnEdenCountUptoSaid : Prop := fnEdenCountUptoRow.holds Try.pinned (OpenSpec.upto fnEdenCountSpec)

/-- 'laws.FnDyingCount', WHERE WHAT IT READS IS OF BULK AT MOST 1048576: true; the input reads as it did. -/
def fnDyingCountUptoRow : OpenClaim := { program := "ytlcbpnbehbgbeaa", sum := "ffe02c7e6233e3a33a306553e0c51958845eaf8adf2e6b6f00408795523d77d0", func := "loop.example/firingnets/laws.FnDyingCount", spec := "fnDyingCount", unfollowed := true, recurses := true, apart := false, narrowed := true }
def FnDyingCountUptoSaid : Prop := fnDyingCountUptoRow.holds Try.pinned (OpenSpec.upto fnDyingCountSpec)

/-- 'laws.FnLoopCount', WHERE WHAT IT READS IS OF BULK AT MOST 1048576: true; the input reads as it did. -/
def fnLoopCountUptoRow : OpenClaim := { program := "ytlcbpnbehbgbeaa", sum := "ffe02c7e6233e3a33a306553e0c51958845eaf8adf2e6b6f00408795523d77d0", func := "loop.example/firingnets/laws.FnLoopCount", spec := "fnLoopCount", unfollowed := true, recurses := true, apart := false, narrowed := true }
def FnLoopCountUptoSaid : Prop := fnLoopCountUptoRow.holds Try.pinned (OpenSpec.upto fnLoopCountSpec)

/-- 'laws.FnFlatCount', WHERE WHAT IT READS IS OF BULK AT MOST 1048576: true; the input reads as it did. -/
def fnFlatCountUptoRow : OpenClaim := { program := "ytlcbpnbehbgbeaa", sum := "ffe02c7e6233e3a33a306553e0c51958845eaf8adf2e6b6f00408795523d77d0", func := "loop.example/firingnets/laws.FnFlatCount", spec := "fnFlatCount", unfollowed := true, recurses := true, apart := false, narrowed := true }
def FnFlatCountUptoSaid : Prop := fnFlatCountUptoRow.holds Try.pinned (OpenSpec.upto fnFlatCountSpec)

/-- 'laws.FnNoneBefore', WHERE WHAT IT READS IS OF BULK AT MOST 1048576: true; the input reads as it did. -/
def fnNoneBeforeUptoRow : OpenClaim := { program := "ytlcbpnbehbgbeaa", sum := "ffe02c7e6233e3a33a306553e0c51958845eaf8adf2e6b6f00408795523d77d0", func := "loop.example/firingnets/laws.FnNoneBefore", spec := "fnNoneBefore", unfollowed := true, recurses := true, apart := false, narrowed := true }
def FnNoneBeforeUptoSaid : Prop := fnNoneBeforeUptoRow.holds Try.pinned (OpenSpec.upto fnNoneBeforeSpec)

/-- 'laws.FnExactBeforeCount', WHERE WHAT IT READS IS OF BULK AT MOST 1048576: true; the input reads as it did. -/
def fnExactBeforeCountUptoRow : OpenClaim := { program := "ytlcbpnbehbgbeaa", sum := "ffe02c7e6233e3a33a306553e0c51958845eaf8adf2e6b6f00408795523d77d0", func := "loop.example/firingnets/laws.FnExactBeforeCount", spec := "fnExactBeforeCount", unfollowed := true, recurses := true, apart := false, narrowed := true }
def FnExactBeforeCountUptoSaid : Prop := fnExactBeforeCountUptoRow.holds Try.pinned (OpenSpec.upto fnExactBeforeCountSpec)

/-- 'laws.FnExactEdenCount', WHERE WHAT IT READS IS OF BULK AT MOST 1048576: true; the input reads as it did. -/
def fnExactEdenCountUptoRow : OpenClaim := { program := "ytlcbpnbehbgbeaa", sum := "ffe02c7e6233e3a33a306553e0c51958845eaf8adf2e6b6f00408795523d77d0", func := "loop.example/firingnets/laws.FnExactEdenCount", spec := "fnExactEdenCount", unfollowed := true, recurses := true, apart := false, narrowed := true }
def FnExactEdenCountUptoSaid : Prop := fnExactEdenCountUptoRow.holds Try.pinned (OpenSpec.upto fnExactEdenCountSpec)

end Rows
end Go.Proofs.Ytlcbpnbehbgbeaa
