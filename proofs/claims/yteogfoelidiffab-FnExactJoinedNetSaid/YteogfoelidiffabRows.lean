/-
  No cell of these rows narrows 'for every input' (looked for: loops, veiled, ifaces, maps, wideKeys, modest, calm, conditions, laid).
  DERIVED. THE GIVEN ROWS OF THIS SEAT. 10 by the template 'for every input the law returns true; each argument reads behind the call as it read before'; 0 by the template 'total and deterministic' (their statements: YteogfoelidiffabTotals.lean).
  GIVEN WITH THE SEED: the statements are not yours to turn. If you find one false, say at which input.
  Laid BY PROGRAM, IN A SANDBOX (cutbox-rows.mjs): the forced cells as the released guide's own fill.sh prints them over the translation 18ec5092a1944aef… (all of the seat's roots in one cut). By AI agents, Wed Nov 11 2026. No macro, syntax, notation, axiom, sorry.
-/
import Derived.Test.YteogfoelidiffabChecked
import GoSem.Claim
import GoSem.ClaimJoined
import GoSem.ClaimMapViews
import Derived.JoinedTies
import Derived.KernelRfl
namespace Go.Proofs.Yteogfoelidiffab
/- THE CELL 'sum', in the pinned program and in every row, IS THE sha256 OF THE DUMP (.gsa) THAT YteogfoelidiffabProg.lean LOADS. Nothing in Lean hashes anything: it is a label: what it is worth is what the hold of that sum in a sandbox is worth. -/
noncomputable def Try.pinned : Pinned := { name := "yteogfoelidiffab", sum := "18ec5092a1944aef40ad15d995085bba3800bb5dab4e536df84034cc81eeaabc", checked := Try.checked }
namespace Rows
def none {H : Type} : Left H := { results := [], args := [] }

/-- 'laws.FnExactNetOk': WHATEVER THE INPUT: true; the input reads as it did. -/
def fnExactNetOkSpec : ChangeSpec := { name := "fnExactNetOk", fn := fun _ => fun
  | [d] => { results := [.lit (.bool true)], args := [d] }
  | _ => none }
def fnExactNetOkRow : OpenClaim := { program := "yteogfoelidiffab", sum := "18ec5092a1944aef40ad15d995085bba3800bb5dab4e536df84034cc81eeaabc", func := "loop.example/firingnets/laws.FnExactNetOk", spec := "fnExactNetOk", apart := false }
def FnExactNetOkSaid : Prop := fnExactNetOkRow.holds Try.pinned (OpenSpec.ofChange fnExactNetOkSpec)

/-- ITS FALSE NEIGHBOUR: 'it returns false'. Refute it at one input. -/
def fnExactNetOkWrong : ChangeSpec := { name := "fnExactNetOk", fn := fun _ => fun
  | [d] => { results := [.lit (.bool false)], args := [d] }
  | _ => none }
def FnExactNetOkWrongFalsely : Prop := fnExactNetOkRow.holds Try.pinned (OpenSpec.ofChange fnExactNetOkWrong)

/-- 'laws.FnExactNearOf': WHATEVER THE INPUT: true; the input reads as it did. -/
def fnExactNearOfSpec : ChangeSpec := { name := "fnExactNearOf", fn := fun _ => fun
  | [d1, d2] => { results := [.lit (.bool true)], args := [d1, d2] }
  | _ => none }
def fnExactNearOfRow : OpenClaim := { program := "yteogfoelidiffab", sum := "18ec5092a1944aef40ad15d995085bba3800bb5dab4e536df84034cc81eeaabc", func := "loop.example/firingnets/laws.FnExactNearOf", spec := "fnExactNearOf", apart := false }
def FnExactNearOfSaid : Prop := fnExactNearOfRow.holds Try.pinned (OpenSpec.ofChange fnExactNearOfSpec)

/-- ITS FALSE NEIGHBOUR: 'it returns false'. Refute it at one input. -/
def fnExactNearOfWrong : ChangeSpec := { name := "fnExactNearOf", fn := fun _ => fun
  | [d1, d2] => { results := [.lit (.bool false)], args := [d1, d2] }
  | _ => none }
def FnExactNearOfWrongFalsely : Prop := fnExactNearOfRow.holds Try.pinned (OpenSpec.ofChange fnExactNearOfWrong)

/-- 'laws.FnExactDistancesFrom': WHATEVER THE INPUT: true; the input reads as it did. -/
def fnExactDistancesFromSpec : ChangeSpec := { name := "fnExactDistancesFrom", fn := fun _ => fun
  | [d1, d2] => { results := [.lit (.bool true)], args := [d1, d2] }
  | _ => none }
def fnExactDistancesFromRow : OpenClaim := { program := "yteogfoelidiffab", sum := "18ec5092a1944aef40ad15d995085bba3800bb5dab4e536df84034cc81eeaabc", func := "loop.example/firingnets/laws.FnExactDistancesFrom", spec := "fnExactDistancesFrom", apart := false }
def FnExactDistancesFromSaid : Prop := fnExactDistancesFromRow.holds Try.pinned (OpenSpec.ofChange fnExactDistancesFromSpec)

/-- ITS FALSE NEIGHBOUR: 'it returns false'. Refute it at one input. -/
def fnExactDistancesFromWrong : ChangeSpec := { name := "fnExactDistancesFrom", fn := fun _ => fun
  | [d1, d2] => { results := [.lit (.bool false)], args := [d1, d2] }
  | _ => none }
def FnExactDistancesFromWrongFalsely : Prop := fnExactDistancesFromRow.holds Try.pinned (OpenSpec.ofChange fnExactDistancesFromWrong)

/-- 'laws.FnExactPartsOf': WHATEVER THE INPUT: true; the input reads as it did. -/
def fnExactPartsOfSpec : ChangeSpec := { name := "fnExactPartsOf", fn := fun _ => fun
  | [d] => { results := [.lit (.bool true)], args := [d] }
  | _ => none }
def fnExactPartsOfRow : OpenClaim := { program := "yteogfoelidiffab", sum := "18ec5092a1944aef40ad15d995085bba3800bb5dab4e536df84034cc81eeaabc", func := "loop.example/firingnets/laws.FnExactPartsOf", spec := "fnExactPartsOf", apart := false }
def FnExactPartsOfSaid : Prop := fnExactPartsOfRow.holds Try.pinned (OpenSpec.ofChange fnExactPartsOfSpec)

/-- ITS FALSE NEIGHBOUR: 'it returns false'. Refute it at one input. -/
def fnExactPartsOfWrong : ChangeSpec := { name := "fnExactPartsOf", fn := fun _ => fun
  | [d] => { results := [.lit (.bool false)], args := [d] }
  | _ => none }
def FnExactPartsOfWrongFalsely : Prop := fnExactPartsOfRow.holds Try.pinned (OpenSpec.ofChange fnExactPartsOfWrong)

/-- 'laws.FnExactRingNet': WHATEVER THE INPUT: true; the input reads as it did. -/
def fnExactRingNetSpec : ChangeSpec := { name := "fnExactRingNet", fn := fun _ => fun
  | [d] => { results := [.lit (.bool true)], args := [d] }
  | _ => none }
def fnExactRingNetRow : OpenClaim := { program := "yteogfoelidiffab", sum := "18ec5092a1944aef40ad15d995085bba3800bb5dab4e536df84034cc81eeaabc", func := "loop.example/firingnets/laws.FnExactRingNet", spec := "fnExactRingNet", apart := false }
def FnExactRingNetSaid : Prop := fnExactRingNetRow.holds Try.pinned (OpenSpec.ofChange fnExactRingNetSpec)

/-- ITS FALSE NEIGHBOUR: 'it returns false'. Refute it at one input. -/
def fnExactRingNetWrong : ChangeSpec := { name := "fnExactRingNet", fn := fun _ => fun
  | [d] => { results := [.lit (.bool false)], args := [d] }
  | _ => none }
def FnExactRingNetWrongFalsely : Prop := fnExactRingNetRow.holds Try.pinned (OpenSpec.ofChange fnExactRingNetWrong)

/-- 'laws.FnExactPathNet': WHATEVER THE INPUT: true; the input reads as it did. -/
def fnExactPathNetSpec : ChangeSpec := { name := "fnExactPathNet", fn := fun _ => fun
  | [d] => { results := [.lit (.bool true)], args := [d] }
  | _ => none }
def fnExactPathNetRow : OpenClaim := { program := "yteogfoelidiffab", sum := "18ec5092a1944aef40ad15d995085bba3800bb5dab4e536df84034cc81eeaabc", func := "loop.example/firingnets/laws.FnExactPathNet", spec := "fnExactPathNet", apart := false }
def FnExactPathNetSaid : Prop := fnExactPathNetRow.holds Try.pinned (OpenSpec.ofChange fnExactPathNetSpec)

/-- ITS FALSE NEIGHBOUR: 'it returns false'. Refute it at one input. -/
def fnExactPathNetWrong : ChangeSpec := { name := "fnExactPathNet", fn := fun _ => fun
  | [d] => { results := [.lit (.bool false)], args := [d] }
  | _ => none }
def FnExactPathNetWrongFalsely : Prop := fnExactPathNetRow.holds Try.pinned (OpenSpec.ofChange fnExactPathNetWrong)

/-- 'laws.FnExactJoinedNet': WHATEVER THE INPUT: true; the input reads as it did. -/
def fnExactJoinedNetSpec : ChangeSpec := { name := "fnExactJoinedNet", fn := fun _ => fun
  | [d1, d2] => { results := [.lit (.bool true)], args := [d1, d2] }
  | _ => none }
def fnExactJoinedNetRow : OpenClaim := { program := "yteogfoelidiffab", sum := "18ec5092a1944aef40ad15d995085bba3800bb5dab4e536df84034cc81eeaabc", func := "loop.example/firingnets/laws.FnExactJoinedNet", spec := "fnExactJoinedNet", apart := false }
def FnExactJoinedNetSaid : Prop := fnExactJoinedNetRow.holds Try.pinned (OpenSpec.ofChange fnExactJoinedNetSpec)

/-- ITS FALSE NEIGHBOUR: 'it returns false'. Refute it at one input. -/
def fnExactJoinedNetWrong : ChangeSpec := { name := "fnExactJoinedNet", fn := fun _ => fun
  | [d1, d2] => { results := [.lit (.bool false)], args := [d1, d2] }
  | _ => none }
def FnExactJoinedNetWrongFalsely : Prop := fnExactJoinedNetRow.holds Try.pinned (OpenSpec.ofChange fnExactJoinedNetWrong)

/-- 'laws.FnExactNamedNet': WHATEVER THE INPUT: true; the input reads as it did. -/
def fnExactNamedNetSpec : ChangeSpec := { name := "fnExactNamedNet", fn := fun _ => fun
  | [d1, d2] => { results := [.lit (.bool true)], args := [d1, d2] }
  | _ => none }
def fnExactNamedNetRow : OpenClaim := { program := "yteogfoelidiffab", sum := "18ec5092a1944aef40ad15d995085bba3800bb5dab4e536df84034cc81eeaabc", func := "loop.example/firingnets/laws.FnExactNamedNet", spec := "fnExactNamedNet", apart := false }
def FnExactNamedNetSaid : Prop := fnExactNamedNetRow.holds Try.pinned (OpenSpec.ofChange fnExactNamedNetSpec)

/-- ITS FALSE NEIGHBOUR: 'it returns false'. Refute it at one input. -/
def fnExactNamedNetWrong : ChangeSpec := { name := "fnExactNamedNet", fn := fun _ => fun
  | [d1, d2] => { results := [.lit (.bool false)], args := [d1, d2] }
  | _ => none }
def FnExactNamedNetWrongFalsely : Prop := fnExactNamedNetRow.holds Try.pinned (OpenSpec.ofChange fnExactNamedNetWrong)

/-- 'laws.FnExactWiresOf': WHATEVER THE INPUT: true; the input reads as it did. -/
def fnExactWiresOfSpec : ChangeSpec := { name := "fnExactWiresOf", fn := fun _ => fun
  | [d] => { results := [.lit (.bool true)], args := [d] }
  | _ => none }
def fnExactWiresOfRow : OpenClaim := { program := "yteogfoelidiffab", sum := "18ec5092a1944aef40ad15d995085bba3800bb5dab4e536df84034cc81eeaabc", func := "loop.example/firingnets/laws.FnExactWiresOf", spec := "fnExactWiresOf", apart := false }
def FnExactWiresOfSaid : Prop := fnExactWiresOfRow.holds Try.pinned (OpenSpec.ofChange fnExactWiresOfSpec)

/-- ITS FALSE NEIGHBOUR: 'it returns false'. Refute it at one input. -/
def fnExactWiresOfWrong : ChangeSpec := { name := "fnExactWiresOf", fn := fun _ => fun
  | [d] => { results := [.lit (.bool false)], args := [d] }
  | _ => none }
def FnExactWiresOfWrongFalsely : Prop := fnExactWiresOfRow.holds Try.pinned (OpenSpec.ofChange fnExactWiresOfWrong)

/-- 'laws.FnExactFarthestOf': WHATEVER THE INPUT: true; the input reads as it did. -/
def fnExactFarthestOfSpec : ChangeSpec := { name := "fnExactFarthestOf", fn := fun _ => fun
  | [d1, d2] => { results := [.lit (.bool true)], args := [d1, d2] }
  | _ => none }
def fnExactFarthestOfRow : OpenClaim := { program := "yteogfoelidiffab", sum := "18ec5092a1944aef40ad15d995085bba3800bb5dab4e536df84034cc81eeaabc", func := "loop.example/firingnets/laws.FnExactFarthestOf", spec := "fnExactFarthestOf", apart := false }
def FnExactFarthestOfSaid : Prop := fnExactFarthestOfRow.holds Try.pinned (OpenSpec.ofChange fnExactFarthestOfSpec)

/-- ITS FALSE NEIGHBOUR: 'it returns false'. Refute it at one input. -/
def fnExactFarthestOfWrong : ChangeSpec := { name := "fnExactFarthestOf", fn := fun _ => fun
  | [d1, d2] => { results := [.lit (.bool false)], args := [d1, d2] }
  | _ => none }
def FnExactFarthestOfWrongFalsely : Prop := fnExactFarthestOfRow.holds Try.pinned (OpenSpec.ofChange fnExactFarthestOfWrong)

/- THE SECOND FORM. 'bulk': how many values and letters a reading holds, each counted each time it is reached (what is shared counts as often as it is met; a slice's spare places count too). A statement '..UptoSaid' is the law's where the arguments, and the package variables that the reading takes, are together of bulk at most 1048576: NARROWER than '..Said'. Prove '..Said' where nothing that the law and all that it calls make is longer than what came in: it says more and counts as full. Else prove '..UptoSaid'. A law counts once. -/
mutual
def uptoBulk {H : Type} : DataW H → Nat
  | .lit (.string bytes) => bytes.length + 1
  | .lit _ => 1
  | .nil => 1
  | .ptr d => uptoBulk d + 1
  | .slice elems spare => uptoBulkAll elems + uptoBulkAll spare + 1
  | .agg parts => uptoBulkAll parts + 1
  | .iface _ d => uptoBulk d + 1
  | .map entries => uptoBulkEntries entries + 1
  | .held _ => 1
def uptoBulkAll {H : Type} : List (DataW H) → Nat
  | [] => 0
  | d :: r => uptoBulk d + uptoBulkAll r
def uptoBulkEntries {H : Type} : List (Lit × DataW H) → Nat
  | [] => 0
  | x :: r => uptoBulkEntry x + uptoBulkEntries r
def uptoBulkEntry {H : Type} : Lit × DataW H → Nat
  | (.string bytes, d) => bytes.length + uptoBulk d + 1
  | (_, d) => uptoBulk d + 1
 end
def uptoSmall : (H : Type) → List (DataW H) → Bool := fun _ ds => decide (uptoBulkAll ds ≤ 1048576)
def OpenSpec.upto (s : _root_.Go.ChangeSpec) : _root_.Go.OpenSpec := { _root_.Go.OpenSpec.ofChange s with cond := some uptoSmall }

/-- 'laws.FnExactNetOk', WHERE WHAT IT READS IS OF BULK AT MOST 1048576: true; the input reads as it did. -/
def fnExactNetOkUptoRow : OpenClaim := { program := "yteogfoelidiffab", sum := "18ec5092a1944aef40ad15d995085bba3800bb5dab4e536df84034cc81eeaabc", func := "loop.example/firingnets/laws.FnExactNetOk", spec := "fnExactNetOk", apart := false, narrowed := true }
def FnExactNetOkUptoSaid : Prop := fnExactNetOkUptoRow.holds Try.pinned (OpenSpec.upto fnExactNetOkSpec)

/-- 'laws.FnExactNearOf', WHERE WHAT IT READS IS OF BULK AT MOST 1048576: true; the input reads as it did. -/
def fnExactNearOfUptoRow : OpenClaim := { program := "yteogfoelidiffab", sum := "18ec5092a1944aef40ad15d995085bba3800bb5dab4e536df84034cc81eeaabc", func := "loop.example/firingnets/laws.FnExactNearOf", spec := "fnExactNearOf", apart := false, narrowed := true }
def FnExactNearOfUptoSaid : Prop := fnExactNearOfUptoRow.holds Try.pinned (OpenSpec.upto fnExactNearOfSpec)

/-- 'laws.FnExactDistancesFrom', WHERE WHAT IT READS IS OF BULK AT MOST 1048576: true; the input reads as it did. -/
def fnExactDistancesFromUptoRow : OpenClaim := { program := "yteogfoelidiffab", sum := "18ec5092a1944aef40ad15d995085bba3800bb5dab4e536df84034cc81eeaabc", func := "loop.example/firingnets/laws.FnExactDistancesFrom", spec := "fnExactDistancesFrom", apart := false, narrowed := true }
def FnExactDistancesFromUptoSaid : Prop := fnExactDistancesFromUptoRow.holds Try.pinned (OpenSpec.upto fnExactDistancesFromSpec)

/-- 'laws.FnExactPartsOf', WHERE WHAT IT READS IS OF BULK AT MOST 1048576: true; the input reads as it did. -/
def fnExactPartsOfUptoRow : OpenClaim := { program := "yteogfoelidiffab", sum := "18ec5092a1944aef40ad15d995085bba3800bb5dab4e536df84034cc81eeaabc", func := "loop.example/firingnets/laws.FnExactPartsOf", spec := "fnExactPartsOf", apart := false, narrowed := true }
def FnExactPartsOfUptoSaid : Prop := fnExactPartsOfUptoRow.holds Try.pinned (OpenSpec.upto fnExactPartsOfSpec)

/-- 'laws.FnExactRingNet', WHERE WHAT IT READS IS OF BULK AT MOST 1048576: true; the input reads as it did. -/
def fnExactRingNetUptoRow : OpenClaim := { program := "yteogfoelidiffab", sum := "18ec5092a1944aef40ad15d995085bba3800bb5dab4e536df84034cc81eeaabc", func := "loop.example/firingnets/laws.FnExactRingNet", spec := "fnExactRingNet", apart := false, narrowed := true }
def FnExactRingNetUptoSaid : Prop := fnExactRingNetUptoRow.holds Try.pinned (OpenSpec.upto fnExactRingNetSpec)

/-- 'laws.FnExactPathNet', WHERE WHAT IT READS IS OF BULK AT MOST 1048576: true; the input reads as it did. -/
def fnExactPathNetUptoRow : OpenClaim := { program := "yteogfoelidiffab", sum := "18ec5092a1944aef40ad15d995085bba3800bb5dab4e536df84034cc81eeaabc", func := "loop.example/firingnets/laws.FnExactPathNet", spec := "fnExactPathNet", apart := false, narrowed := true }
def FnExactPathNetUptoSaid : Prop := fnExactPathNetUptoRow.holds Try.pinned (OpenSpec.upto fnExactPathNetSpec)

/-- 'laws.FnExactJoinedNet', WHERE WHAT IT READS IS OF BULK AT MOST 1048576: true; the input reads as it did. -/
def fnExactJoinedNetUptoRow : OpenClaim := { program := "yteogfoelidiffab", sum := "18ec5092a1944aef40ad15d995085bba3800bb5dab4e536df84034cc81eeaabc", func := "loop.example/firingnets/laws.FnExactJoinedNet", spec := "fnExactJoinedNet", apart := false, narrowed := true }
def FnExactJoinedNetUptoSaid : Prop := fnExactJoinedNetUptoRow.holds Try.pinned (OpenSpec.upto fnExactJoinedNetSpec)

/-- 'laws.FnExactNamedNet', WHERE WHAT IT READS IS OF BULK AT MOST 1048576: true; the input reads as it did. -/
def fnExactNamedNetUptoRow : OpenClaim := { program := "yteogfoelidiffab", sum := "18ec5092a1944aef40ad15d995085bba3800bb5dab4e536df84034cc81eeaabc", func := "loop.example/firingnets/laws.FnExactNamedNet", spec := "fnExactNamedNet", apart := false, narrowed := true }
def FnExactNamedNetUptoSaid : Prop := fnExactNamedNetUptoRow.holds Try.pinned (OpenSpec.upto fnExactNamedNetSpec)

/-- 'laws.FnExactWiresOf', WHERE WHAT IT READS IS OF BULK AT MOST 1048576: true; the input reads as it did. -/
def fnExactWiresOfUptoRow : OpenClaim := { program := "yteogfoelidiffab", sum := "18ec5092a1944aef40ad15d995085bba3800bb5dab4e536df84034cc81eeaabc", func := "loop.example/firingnets/laws.FnExactWiresOf", spec := "fnExactWiresOf", apart := false, narrowed := true }
def FnExactWiresOfUptoSaid : Prop := fnExactWiresOfUptoRow.holds Try.pinned (OpenSpec.upto fnExactWiresOfSpec)

/-- 'laws.FnExactFarthestOf', WHERE WHAT IT READS IS OF BULK AT MOST 1048576: true; the input reads as it did. -/
def fnExactFarthestOfUptoRow : OpenClaim := { program := "yteogfoelidiffab", sum := "18ec5092a1944aef40ad15d995085bba3800bb5dab4e536df84034cc81eeaabc", func := "loop.example/firingnets/laws.FnExactFarthestOf", spec := "fnExactFarthestOf", apart := false, narrowed := true }
def FnExactFarthestOfUptoSaid : Prop := fnExactFarthestOfUptoRow.holds Try.pinned (OpenSpec.upto fnExactFarthestOfSpec)

end Rows
end Go.Proofs.Yteogfoelidiffab
