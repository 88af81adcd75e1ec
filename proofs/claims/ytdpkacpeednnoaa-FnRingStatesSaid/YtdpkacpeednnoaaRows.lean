/-
  No cell of these rows narrows 'for every input' (looked for: loops, veiled, ifaces, maps, wideKeys, modest, calm, conditions, laid).
  DERIVED. THE GIVEN ROWS OF THIS SEAT. 8 by the template 'for every input the law returns true; each argument reads behind the call as it read before'; 0 by the template 'total and deterministic' (their statements: YtdpkacpeednnoaaTotals.lean).
  GIVEN WITH THE SEED: the statements are not yours to turn. If you find one false, say at which input.
  Laid BY PROGRAM, IN A SANDBOX (cutbox-rows.mjs): the forced cells as the released guide's own fill.sh prints them over the translation 6ea781ecd4edd06a… (all of the seat's roots in one cut). By AI agents, Wed Nov 11 2026. No macro, syntax, notation, axiom, sorry.
-/
import Derived.Test.YtdpkacpeednnoaaChecked
import GoSem.Claim
import GoSem.ClaimJoined
import GoSem.ClaimMapViews
import Derived.JoinedTies
import Derived.KernelRfl
namespace Go.Proofs.Ytdpkacpeednnoaa
/- THE CELL 'sum', in the pinned program and in every row, IS THE sha256 OF THE DUMP (.gsa) THAT YtdpkacpeednnoaaProg.lean LOADS. Nothing in Lean hashes anything: it is a label: what it is worth is what the hold of that sum in a sandbox is worth. -/
noncomputable def Try.pinned : Pinned := { name := "ytdpkacpeednnoaa", sum := "6ea781ecd4edd06a64664434c4639af614356aa2cffddf459de59a78a53217ab", checked := Try.checked }
namespace Rows
def none {H : Type} : Left H := { results := [], args := [] }

/-- 'laws.FnFrontRow': WHATEVER THE INPUT: true; the input reads as it did. -/
def fnFrontRowSpec : ChangeSpec := { name := "fnFrontRow", fn := fun _ => fun
  | [d] => { results := [.lit (.bool true)], args := [d] }
  | _ => none }
def fnFrontRowRow : OpenClaim := { program := "ytdpkacpeednnoaa", sum := "6ea781ecd4edd06a64664434c4639af614356aa2cffddf459de59a78a53217ab", func := "loop.example/firingnets/laws.FnFrontRow", spec := "fnFrontRow", apart := false }
def FnFrontRowSaid : Prop := fnFrontRowRow.holds Try.pinned (OpenSpec.ofChange fnFrontRowSpec)

/-- ITS FALSE NEIGHBOUR: 'it returns false'. Refute it at one input. -/
def fnFrontRowWrong : ChangeSpec := { name := "fnFrontRow", fn := fun _ => fun
  | [d] => { results := [.lit (.bool false)], args := [d] }
  | _ => none }
def FnFrontRowWrongFalsely : Prop := fnFrontRowRow.holds Try.pinned (OpenSpec.ofChange fnFrontRowWrong)

/-- 'laws.FnFrontsOk': WHATEVER THE INPUT: true; the input reads as it did. -/
def fnFrontsOkSpec : ChangeSpec := { name := "fnFrontsOk", fn := fun _ => fun
  | [d] => { results := [.lit (.bool true)], args := [d] }
  | _ => none }
def fnFrontsOkRow : OpenClaim := { program := "ytdpkacpeednnoaa", sum := "6ea781ecd4edd06a64664434c4639af614356aa2cffddf459de59a78a53217ab", func := "loop.example/firingnets/laws.FnFrontsOk", spec := "fnFrontsOk", apart := false }
def FnFrontsOkSaid : Prop := fnFrontsOkRow.holds Try.pinned (OpenSpec.ofChange fnFrontsOkSpec)

/-- ITS FALSE NEIGHBOUR: 'it returns false'. Refute it at one input. -/
def fnFrontsOkWrong : ChangeSpec := { name := "fnFrontsOk", fn := fun _ => fun
  | [d] => { results := [.lit (.bool false)], args := [d] }
  | _ => none }
def FnFrontsOkWrongFalsely : Prop := fnFrontsOkRow.holds Try.pinned (OpenSpec.ofChange fnFrontsOkWrong)

/-- 'laws.FnFrontStep': WHATEVER THE INPUT: true; the input reads as it did. -/
def fnFrontStepSpec : ChangeSpec := { name := "fnFrontStep", fn := fun _ => fun
  | [d] => { results := [.lit (.bool true)], args := [d] }
  | _ => none }
def fnFrontStepRow : OpenClaim := { program := "ytdpkacpeednnoaa", sum := "6ea781ecd4edd06a64664434c4639af614356aa2cffddf459de59a78a53217ab", func := "loop.example/firingnets/laws.FnFrontStep", spec := "fnFrontStep", apart := false }
def FnFrontStepSaid : Prop := fnFrontStepRow.holds Try.pinned (OpenSpec.ofChange fnFrontStepSpec)

/-- ITS FALSE NEIGHBOUR: 'it returns false'. Refute it at one input. -/
def fnFrontStepWrong : ChangeSpec := { name := "fnFrontStep", fn := fun _ => fun
  | [d] => { results := [.lit (.bool false)], args := [d] }
  | _ => none }
def FnFrontStepWrongFalsely : Prop := fnFrontStepRow.holds Try.pinned (OpenSpec.ofChange fnFrontStepWrong)

/-- 'laws.FnStateOfFronts': WHATEVER THE INPUT: true; the input reads as it did. -/
def fnStateOfFrontsSpec : ChangeSpec := { name := "fnStateOfFronts", fn := fun _ => fun
  | [d] => { results := [.lit (.bool true)], args := [d] }
  | _ => none }
def fnStateOfFrontsRow : OpenClaim := { program := "ytdpkacpeednnoaa", sum := "6ea781ecd4edd06a64664434c4639af614356aa2cffddf459de59a78a53217ab", func := "loop.example/firingnets/laws.FnStateOfFronts", spec := "fnStateOfFronts", apart := false }
def FnStateOfFrontsSaid : Prop := fnStateOfFrontsRow.holds Try.pinned (OpenSpec.ofChange fnStateOfFrontsSpec)

/-- ITS FALSE NEIGHBOUR: 'it returns false'. Refute it at one input. -/
def fnStateOfFrontsWrong : ChangeSpec := { name := "fnStateOfFronts", fn := fun _ => fun
  | [d] => { results := [.lit (.bool false)], args := [d] }
  | _ => none }
def FnStateOfFrontsWrongFalsely : Prop := fnStateOfFrontsRow.holds Try.pinned (OpenSpec.ofChange fnStateOfFrontsWrong)

/-- 'laws.FnRingWinding': WHATEVER THE INPUT: true; the input reads as it did. -/
def fnRingWindingSpec : ChangeSpec := { name := "fnRingWinding", fn := fun _ => fun
  | [d] => { results := [.lit (.bool true)], args := [d] }
  | _ => none }
def fnRingWindingRow : OpenClaim := { program := "ytdpkacpeednnoaa", sum := "6ea781ecd4edd06a64664434c4639af614356aa2cffddf459de59a78a53217ab", func := "loop.example/firingnets/laws.FnRingWinding", spec := "fnRingWinding", unfollowed := true, recurses := true, apart := false }
def FnRingWindingSaid : Prop := fnRingWindingRow.holds Try.pinned (OpenSpec.ofChange fnRingWindingSpec)

/-- ITS FALSE NEIGHBOUR: 'it returns false'. Refute it at one input. -/
def fnRingWindingWrong : ChangeSpec := { name := "fnRingWinding", fn := fun _ => fun
  | [d] => { results := [.lit (.bool false)], args := [d] }
  | _ => none }
def FnRingWindingWrongFalsely : Prop := fnRingWindingRow.holds Try.pinned (OpenSpec.ofChange fnRingWindingWrong)

/-- 'laws.FnRingStates': WHATEVER THE INPUT: true; the input reads as it did. -/
def fnRingStatesSpec : ChangeSpec := { name := "fnRingStates", fn := fun _ => fun
  | [d] => { results := [.lit (.bool true)], args := [d] }
  | _ => none }
def fnRingStatesRow : OpenClaim := { program := "ytdpkacpeednnoaa", sum := "6ea781ecd4edd06a64664434c4639af614356aa2cffddf459de59a78a53217ab", func := "loop.example/firingnets/laws.FnRingStates", spec := "fnRingStates", unfollowed := true, recurses := true, apart := false }
def FnRingStatesSaid : Prop := fnRingStatesRow.holds Try.pinned (OpenSpec.ofChange fnRingStatesSpec)

/-- ITS FALSE NEIGHBOUR: 'it returns false'. Refute it at one input. -/
def fnRingStatesWrong : ChangeSpec := { name := "fnRingStates", fn := fun _ => fun
  | [d] => { results := [.lit (.bool false)], args := [d] }
  | _ => none }
def FnRingStatesWrongFalsely : Prop := fnRingStatesRow.holds Try.pinned (OpenSpec.ofChange fnRingStatesWrong)

/-- 'laws.FnFrontCount': WHATEVER THE INPUT: true; the input reads as it did. -/
def fnFrontCountSpec : ChangeSpec := { name := "fnFrontCount", fn := fun _ => fun
  | [d] => { results := [.lit (.bool true)], args := [d] }
  | _ => none }
def fnFrontCountRow : OpenClaim := { program := "ytdpkacpeednnoaa", sum := "6ea781ecd4edd06a64664434c4639af614356aa2cffddf459de59a78a53217ab", func := "loop.example/firingnets/laws.FnFrontCount", spec := "fnFrontCount", apart := false }
def FnFrontCountSaid : Prop := fnFrontCountRow.holds Try.pinned (OpenSpec.ofChange fnFrontCountSpec)

/-- ITS FALSE NEIGHBOUR: 'it returns false'. Refute it at one input. -/
def fnFrontCountWrong : ChangeSpec := { name := "fnFrontCount", fn := fun _ => fun
  | [d] => { results := [.lit (.bool false)], args := [d] }
  | _ => none }
def FnFrontCountWrongFalsely : Prop := fnFrontCountRow.holds Try.pinned (OpenSpec.ofChange fnFrontCountWrong)

/-- 'laws.FnFrontsGone': WHATEVER THE INPUT: true; the input reads as it did. -/
def fnFrontsGoneSpec : ChangeSpec := { name := "fnFrontsGone", fn := fun _ => fun
  | [d] => { results := [.lit (.bool true)], args := [d] }
  | _ => none }
def fnFrontsGoneRow : OpenClaim := { program := "ytdpkacpeednnoaa", sum := "6ea781ecd4edd06a64664434c4639af614356aa2cffddf459de59a78a53217ab", func := "loop.example/firingnets/laws.FnFrontsGone", spec := "fnFrontsGone", apart := false }
def FnFrontsGoneSaid : Prop := fnFrontsGoneRow.holds Try.pinned (OpenSpec.ofChange fnFrontsGoneSpec)

/-- ITS FALSE NEIGHBOUR: 'it returns false'. Refute it at one input. -/
def fnFrontsGoneWrong : ChangeSpec := { name := "fnFrontsGone", fn := fun _ => fun
  | [d] => { results := [.lit (.bool false)], args := [d] }
  | _ => none }
def FnFrontsGoneWrongFalsely : Prop := fnFrontsGoneRow.holds Try.pinned (OpenSpec.ofChange fnFrontsGoneWrong)

/- THE SECOND FORM. 'bulk': how many values and letters a reading holds, each counted each time it is reached (what is shared counts as often as it is met; a slice's spare places count too). A statement '..UptoSaid' is the law's where the arguments, and the package variables that the reading takes, are together of bulk at most 1048576: NARROWER than '..Said'. Prove '..Said' where nothing that the law and all that it calls make is longer than what came in: it says more and counts as full. Else prove '..UptoSaid'. A law counts once. -/
mutual
def uptoBulk {H : Type} : DataW H → Nat
  | .lit (.string bytes) => bytes.length + 1
  | .lit _ => 1
  | .nil => 1
  | .ptr d => uptoBulk d + 1
  | .slice elems spare => uptoBulkAll elems + uptoBulkAll spare + 1
  | .agg parts => uptoBulkAll parts + 1
  | .iface _ d => uptoBulk d + 1
  | .map entries => uptoBulkEntries entries + 1
  | .held _ => 1
def uptoBulkAll {H : Type} : List (DataW H) → Nat
  | [] => 0
  | d :: r => uptoBulk d + uptoBulkAll r
def uptoBulkEntries {H : Type} : List (Lit × DataW H) → Nat
  | [] => 0
  | x :: r => uptoBulkEntry x + uptoBulkEntries r
def uptoBulkEntry {H : Type} : Lit × DataW H → Nat
  | (.string bytes, d) => bytes.length + uptoBulk d + 1
  | (_, d) => uptoBulk d + 1
 end
def uptoSmall : (H : Type) → List (DataW H) → Bool := fun _ ds => decide (uptoBulkAll ds ≤ 1048576)
def OpenSpec.upto (s : _root_.Go.ChangeSpec) : _root_.Go.OpenSpec := { _root_.Go.OpenSpec.ofChange s with cond := some uptoSmall }

/-- 'laws.FnFrontRow', WHERE WHAT IT READS IS OF BULK AT MOST 1048576: true; the input reads as it did. -/
def fnFrontRowUptoRow : OpenClaim := { program := "ytdpkacpeednnoaa", sum := "6ea781ecd4edd06a64664434c4639af614356aa2cffddf459de59a78a53217ab", func := "loop.example/firingnets/laws.FnFrontRow", spec := "fnFrontRow", apart := false, narrowed := true }
def FnFrontRowUptoSaid : Prop := fnFrontRowUptoRow.holds Try.pinned (OpenSpec.upto fnFrontRowSpec)

/-- 'laws.FnFrontsOk', WHERE WHAT IT READS IS OF BULK AT MOST 1048576: true; the input reads as it did. -/
def fnFrontsOkUptoRow : OpenClaim := { program := "ytdpkacpeednnoaa", sum := "6ea781ecd4edd06a64664434c4639af614356aa2cffddf459de59a78a53217ab", func := "loop.example/firingnets/laws.FnFrontsOk", spec := "fnFrontsOk", apart := false, narrowed := true }
def FnFrontsOkUptoSaid : Prop := fnFrontsOkUptoRow.holds Try.pinned (OpenSpec.upto fnFrontsOkSpec)

/-- 'laws.FnFrontStep', WHERE WHAT IT READS IS OF BULK AT MOST 1048576: true; the input reads as it did. -/
def fnFrontStepUptoRow : OpenClaim := { program := "ytdpkacpeednnoaa", sum := "6ea781ecd4edd06a64664434c4639af614356aa2cffddf459de59a78a53217ab", func := "loop.example/firingnets/laws.FnFrontStep", spec := "fnFrontStep", apart := false, narrowed := true }
def FnFrontStepUptoSaid : Prop := fnFrontStepUptoRow.holds Try.pinned (OpenSpec.upto fnFrontStepSpec)

/-- 'laws.FnStateOfFronts', WHERE WHAT IT READS IS OF BULK AT MOST 1048576: true; the input reads as it did. -/
def fnStateOfFrontsUptoRow : OpenClaim := { program := "ytdpkacpeednnoaa", sum := "6ea781ecd4edd06a64664434c4639af614356aa2cffddf459de59a78a53217ab", func := "loop.example/firingnets/laws.FnStateOfFronts", spec := "fnStateOfFronts", apart := false, narrowed := true }
def FnStateOfFrontsUptoSaid : Prop := fnStateOfFrontsUptoRow.holds Try.pinned (OpenSpec.upto fnStateOfFrontsSpec)

/-- 'laws.FnRingWinding', WHERE WHAT IT READS IS OF BULK AT MOST 1048576: true; the input reads as it did. -/
def fnRingWindingUptoRow : OpenClaim := { program := "ytdpkacpeednnoaa", sum := "6ea781ecd4edd06a64664434c4639af614356aa2cffddf459de59a78a53217ab", func := "loop.example/firingnets/laws.FnRingWinding", spec := "fnRingWinding", unfollowed := true, recurses := true, apart := false, narrowed := true }
def FnRingWindingUptoSaid : Prop := fnRingWindingUptoRow.holds Try.pinned (OpenSpec.upto fnRingWindingSpec)

/-- 'laws.FnRingStates', WHERE WHAT IT READS IS OF BULK AT MOST 1048576: true; the input reads as it did. -/
def fnRingStatesUptoRow : OpenClaim := { program := "ytdpkacpeednnoaa", sum := "6ea781ecd4edd06a64664434c4639af614356aa2cffddf459de59a78a53217ab", func := "loop.example/firingnets/laws.FnRingStates", spec := "fnRingStates", unfollowed := true, recurses := true, apart := false, narrowed := true }
def FnRingStatesUptoSaid : Prop := fnRingStatesUptoRow.holds Try.pinned (OpenSpec.upto fnRingStatesSpec)

/-- 'laws.FnFrontCount', WHERE WHAT IT READS IS OF BULK AT MOST 1048576: true; the input reads as it did. -/
def fnFrontCountUptoRow : OpenClaim := { program := "ytdpkacpeednnoaa", sum := "6ea781ecd4edd06a64664434c4639af614356aa2cffddf459de59a78a53217ab", func := "loop.example/firingnets/laws.FnFrontCount", spec := "fnFrontCount", apart := false, narrowed := true }
def FnFrontCountUptoSaid : Prop := fnFrontCountUptoRow.holds Try.pinned (OpenSpec.upto fnFrontCountSpec)

/-- 'laws.FnFrontsGone', WHERE WHAT IT READS IS OF BULK AT MOST 1048576: true; the input reads as it did. -/
def fnFrontsGoneUptoRow : OpenClaim := { program := "ytdpkacpeednnoaa", sum := "6ea781ecd4edd06a64664434c4639af614356aa2cffddf459de59a78a53217ab", func := "loop.example/firingnets/laws.FnFrontsGone", spec := "fnFrontsGone", apart := false, narrowed := true }
def FnFrontsGoneUptoSaid : Prop := fnFrontsGoneUptoRow.holds Try.pinned (OpenSpec.upto fnFrontsGoneSpec)

end Rows
end Go.Proofs.Ytdpkacpeednnoaa
