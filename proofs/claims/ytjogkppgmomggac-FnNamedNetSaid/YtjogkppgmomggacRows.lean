/-
  No cell of these rows narrows 'for every input' (looked for: loops, veiled, ifaces, maps, wideKeys, modest, calm, conditions, laid).
  DERIVED. THE GIVEN ROWS OF THIS SEAT. 7 by the template 'for every input the law returns true; each argument reads behind the call as it read before'; 0 by the template 'total and deterministic' (their statements: YtjogkppgmomggacTotals.lean).
  GIVEN WITH THE SEED: the statements are not yours to turn. If you find one false, say at which input.
  Laid BY PROGRAM, IN A SANDBOX (cutbox-rows.mjs): the forced cells as the released guide's own fill.sh prints them over the translation 49697ba13c7272e5… (all of the seat's roots in one cut). By AI agents, Wed Nov 11 2026. No macro, syntax, notation, axiom, sorry.
-/
import Derived.Test.YtjogkppgmomggacChecked
import GoSem.Claim
import GoSem.ClaimJoined
import GoSem.ClaimMapViews
import Derived.JoinedTies
import Derived.KernelRfl
namespace Go.Proofs.Ytjogkppgmomggac
/- THE CELL 'sum', in the pinned program and in every row, IS THE sha256 OF THE DUMP (.gsa) THAT YtjogkppgmomggacProg.lean LOADS. Nothing in Lean hashes anything: it is a label: what it is worth is what the hold of that sum in a sandbox is worth. -/
noncomputable def Try.pinned : Pinned := { name := "ytjogkppgmomggac", sum := "49697ba13c7272e50ec6f8332047f4d3a6a5bb155162e90a9d134af4db28bd4c", checked := Try.checked }
namespace Rows
def none {H : Type} : Left H := { results := [], args := [] }

/-- 'laws.FnPartsOf': WHATEVER THE INPUT: true; the input reads as it did. -/
def fnPartsOfSpec : ChangeSpec := { name := "fnPartsOf", fn := fun _ => fun
  | [d] => { results := [.lit (.bool true)], args := [d] }
  | _ => none }
def fnPartsOfRow : OpenClaim := { program := "ytjogkppgmomggac", sum := "49697ba13c7272e50ec6f8332047f4d3a6a5bb155162e90a9d134af4db28bd4c", func := "loop.example/firingnets/laws.FnPartsOf", spec := "fnPartsOf", apart := false }
def FnPartsOfSaid : Prop := fnPartsOfRow.holds Try.pinned (OpenSpec.ofChange fnPartsOfSpec)

/-- ITS FALSE NEIGHBOUR: 'it returns false'. Refute it at one input. -/
def fnPartsOfWrong : ChangeSpec := { name := "fnPartsOf", fn := fun _ => fun
  | [d] => { results := [.lit (.bool false)], args := [d] }
  | _ => none }
def FnPartsOfWrongFalsely : Prop := fnPartsOfRow.holds Try.pinned (OpenSpec.ofChange fnPartsOfWrong)

/-- 'laws.FnJoinedNet': WHATEVER THE INPUT: true; the input reads as it did. -/
def fnJoinedNetSpec : ChangeSpec := { name := "fnJoinedNet", fn := fun _ => fun
  | [d] => { results := [.lit (.bool true)], args := [d] }
  | _ => none }
def fnJoinedNetRow : OpenClaim := { program := "ytjogkppgmomggac", sum := "49697ba13c7272e50ec6f8332047f4d3a6a5bb155162e90a9d134af4db28bd4c", func := "loop.example/firingnets/laws.FnJoinedNet", spec := "fnJoinedNet", apart := false }
def FnJoinedNetSaid : Prop := fnJoinedNetRow.holds Try.pinned (OpenSpec.ofChange fnJoinedNetSpec)

/-- ITS FALSE NEIGHBOUR: 'it returns false'. Refute it at one input. -/
def fnJoinedNetWrong : ChangeSpec := { name := "fnJoinedNet", fn := fun _ => fun
  | [d] => { results := [.lit (.bool false)], args := [d] }
  | _ => none }
def FnJoinedNetWrongFalsely : Prop := fnJoinedNetRow.holds Try.pinned (OpenSpec.ofChange fnJoinedNetWrong)

/-- 'laws.FnNamedNet': WHATEVER THE INPUT: true; the input reads as it did. -/
def fnNamedNetSpec : ChangeSpec := { name := "fnNamedNet", fn := fun _ => fun
  | [d] => { results := [.lit (.bool true)], args := [d] }
  | _ => none }
def fnNamedNetRow : OpenClaim := { program := "ytjogkppgmomggac", sum := "49697ba13c7272e50ec6f8332047f4d3a6a5bb155162e90a9d134af4db28bd4c", func := "loop.example/firingnets/laws.FnNamedNet", spec := "fnNamedNet", apart := false }
def FnNamedNetSaid : Prop := fnNamedNetRow.holds Try.pinned (OpenSpec.ofChange fnNamedNetSpec)

/-- ITS FALSE NEIGHBOUR: 'it returns false'. Refute it at one input. -/
def fnNamedNetWrong : ChangeSpec := { name := "fnNamedNet", fn := fun _ => fun
  | [d] => { results := [.lit (.bool false)], args := [d] }
  | _ => none }
def FnNamedNetWrongFalsely : Prop := fnNamedNetRow.holds Try.pinned (OpenSpec.ofChange fnNamedNetWrong)

/-- 'laws.FnWiresOf': WHATEVER THE INPUT: true; the input reads as it did. -/
def fnWiresOfSpec : ChangeSpec := { name := "fnWiresOf", fn := fun _ => fun
  | [d] => { results := [.lit (.bool true)], args := [d] }
  | _ => none }
def fnWiresOfRow : OpenClaim := { program := "ytjogkppgmomggac", sum := "49697ba13c7272e50ec6f8332047f4d3a6a5bb155162e90a9d134af4db28bd4c", func := "loop.example/firingnets/laws.FnWiresOf", spec := "fnWiresOf", apart := false }
def FnWiresOfSaid : Prop := fnWiresOfRow.holds Try.pinned (OpenSpec.ofChange fnWiresOfSpec)

/-- ITS FALSE NEIGHBOUR: 'it returns false'. Refute it at one input. -/
def fnWiresOfWrong : ChangeSpec := { name := "fnWiresOf", fn := fun _ => fun
  | [d] => { results := [.lit (.bool false)], args := [d] }
  | _ => none }
def FnWiresOfWrongFalsely : Prop := fnWiresOfRow.holds Try.pinned (OpenSpec.ofChange fnWiresOfWrong)

/-- 'laws.FnFarthestOf': WHATEVER THE INPUT: true; the input reads as it did. -/
def fnFarthestOfSpec : ChangeSpec := { name := "fnFarthestOf", fn := fun _ => fun
  | [d] => { results := [.lit (.bool true)], args := [d] }
  | _ => none }
def fnFarthestOfRow : OpenClaim := { program := "ytjogkppgmomggac", sum := "49697ba13c7272e50ec6f8332047f4d3a6a5bb155162e90a9d134af4db28bd4c", func := "loop.example/firingnets/laws.FnFarthestOf", spec := "fnFarthestOf", apart := false }
def FnFarthestOfSaid : Prop := fnFarthestOfRow.holds Try.pinned (OpenSpec.ofChange fnFarthestOfSpec)

/-- ITS FALSE NEIGHBOUR: 'it returns false'. Refute it at one input. -/
def fnFarthestOfWrong : ChangeSpec := { name := "fnFarthestOf", fn := fun _ => fun
  | [d] => { results := [.lit (.bool false)], args := [d] }
  | _ => none }
def FnFarthestOfWrongFalsely : Prop := fnFarthestOfRow.holds Try.pinned (OpenSpec.ofChange fnFarthestOfWrong)

/-- 'laws.FnExactPartsOf': WHATEVER THE INPUT: true; the input reads as it did. -/
def fnExactPartsOfSpec : ChangeSpec := { name := "fnExactPartsOf", fn := fun _ => fun
  | [d] => { results := [.lit (.bool true)], args := [d] }
  | _ => none }
def fnExactPartsOfRow : OpenClaim := { program := "ytjogkppgmomggac", sum := "49697ba13c7272e50ec6f8332047f4d3a6a5bb155162e90a9d134af4db28bd4c", func := "loop.example/firingnets/laws.FnExactPartsOf", spec := "fnExactPartsOf", apart := false }
def FnExactPartsOfSaid : Prop := fnExactPartsOfRow.holds Try.pinned (OpenSpec.ofChange fnExactPartsOfSpec)

/-- ITS FALSE NEIGHBOUR: 'it returns false'. Refute it at one input. -/
def fnExactPartsOfWrong : ChangeSpec := { name := "fnExactPartsOf", fn := fun _ => fun
  | [d] => { results := [.lit (.bool false)], args := [d] }
  | _ => none }
def FnExactPartsOfWrongFalsely : Prop := fnExactPartsOfRow.holds Try.pinned (OpenSpec.ofChange fnExactPartsOfWrong)

/-- 'laws.FnExactNamedNet': WHATEVER THE INPUT: true; the input reads as it did. -/
def fnExactNamedNetSpec : ChangeSpec := { name := "fnExactNamedNet", fn := fun _ => fun
  | [d1, d2] => { results := [.lit (.bool true)], args := [d1, d2] }
  | _ => none }
def fnExactNamedNetRow : OpenClaim := { program := "ytjogkppgmomggac", sum := "49697ba13c7272e50ec6f8332047f4d3a6a5bb155162e90a9d134af4db28bd4c", func := "loop.example/firingnets/laws.FnExactNamedNet", spec := "fnExactNamedNet", apart := false }
def FnExactNamedNetSaid : Prop := fnExactNamedNetRow.holds Try.pinned (OpenSpec.ofChange fnExactNamedNetSpec)

/-- ITS FALSE NEIGHBOUR: 'it returns false'. Refute it at one input. -/
def fnExactNamedNetWrong : ChangeSpec := { name := "fnExactNamedNet", fn := fun _ => fun
  | [d1, d2] => { results := [.lit (.bool false)], args := [d1, d2] }
  | _ => none }
def FnExactNamedNetWrongFalsely : Prop := fnExactNamedNetRow.holds Try.pinned (OpenSpec.ofChange fnExactNamedNetWrong)

/- THE SECOND FORM. 'bulk': how many values and letters a reading holds, each counted each time it is reached (what is shared counts as often as it is met; a slice's spare places count too). A statement '..UptoSaid' is the law's where the arguments, and the package variables that the reading takes, are together of bulk at most 1048576: NARROWER than '..Said'. Prove '..Said' where nothing that the law and all that it calls make is longer than what came in: it says more and counts as full. Else prove '..UptoSaid'. A law counts once. -/
mutual
def uptoBulk {H : Type} : DataW H → Nat
  | .lit (.string bytes) => bytes.length + 1
  | .lit _ => 1
  | .nil => 1
  | .ptr d => uptoBulk d + 1
  | .slice elems spare => uptoBulkAll elems + uptoBulkAll spare + 1
  | .agg parts => uptoBulkAll parts + 1
  | .iface _ d => uptoBulk d + 1
  | .map entries => uptoBulkEntries entries + 1
  | .held _ => 1
def uptoBulkAll {H : Type} : List (DataW H) → Nat
  | [] => 0
  | d :: r => uptoBulk d + uptoBulkAll r
def uptoBulkEntries {H : Type} : List (Lit × DataW H) → Nat
  | [] => 0
  | x :: r => uptoBulkEntry x + uptoBulkEntries r
def uptoBulkEntry {H : Type} : Lit × DataW H → Nat
  | (.string bytes, d) => bytes.length + uptoBulk d + 1
  | (_, d) => uptoBulk d + 1
 end
def uptoSmall : (H : Type) → List (DataW H) → Bool := fun _ ds => decide (uptoBulkAll ds ≤ 1048576)
def OpenSpec.upto (s : _root_.Go.ChangeSpec) : _root_.Go.OpenSpec := { _root_.Go.OpenSpec.ofChange s with cond := some uptoSmall }

/-- 'laws.FnPartsOf', WHERE WHAT IT READS IS OF BULK AT MOST 1048576: true; the input reads as it did. -/
def fnPartsOfUptoRow : OpenClaim := { program := "ytjogkppgmomggac", sum := "49697ba13c7272e50ec6f8332047f4d3a6a5bb155162e90a9d134af4db28bd4c", func := "loop.example/firingnets/laws.FnPartsOf", spec := "fnPartsOf", apart := false, narrowed := true }
def FnPartsOfUptoSaid : Prop := fnPartsOfUptoRow.holds Try.pinned (OpenSpec.upto fnPartsOfSpec)

/-- 'laws.FnJoinedNet', WHERE WHAT IT READS IS OF BULK AT MOST 1048576: true; the input reads as it did. -/
def fnJoinedNetUptoRow : OpenClaim := { program := "ytjogkppgmomggac", sum := "49697ba13c7272e50ec6f8332047f4d3a6a5bb155162e90a9d134af4db28bd4c", func := "loop.example/firingnets/laws.FnJoinedNet", spec := "fnJoinedNet", apart := false, narrowed := true }
def FnJoinedNetUptoSaid : Prop := fnJoinedNetUptoRow.holds Try.pinned (OpenSpec.upto fnJoinedNetSpec)

/-- 'laws.FnNamedNet', WHERE WHAT IT READS IS OF BULK AT MOST 1048576: true; the input reads as it did. -/
def fnNamedNetUptoRow : OpenClaim := { program := "ytjogkppgmomggac", sum := "49697ba13c7272e50ec6f8332047f4d3a6a5bb155162e90a9d134af4db28bd4c", func := "loop.example/firingnets/laws.FnNamedNet", spec := "fnNamedNet", apart := false, narrowed := true }
def FnNamedNetUptoSaid : Prop := fnNamedNetUptoRow.holds Try.pinned (OpenSpec.upto fnNamedNetSpec)

/-- 'laws.FnWiresOf', WHERE WHAT IT READS IS OF BULK AT MOST 1048576: true; the input reads as it did. -/
def fnWiresOfUptoRow : OpenClaim := { program := "ytjogkppgmomggac", sum := "49697ba13c7272e50ec6f8332047f4d3a6a5bb155162e90a9d134af4db28bd4c", func := "loop.example/firingnets/laws.FnWiresOf", spec := "fnWiresOf", apart := false, narrowed := true }
def FnWiresOfUptoSaid : Prop := fnWiresOfUptoRow.holds Try.pinned (OpenSpec.upto fnWiresOfSpec)

/-- 'laws.FnFarthestOf', WHERE WHAT IT READS IS OF BULK AT MOST 1048576: true; the input reads as it did. -/
def fnFarthestOfUptoRow : OpenClaim := { program := "ytjogkppgmomggac", sum := "49697ba13c7272e50ec6f8332047f4d3a6a5bb155162e90a9d134af4db28bd4c", func := "loop.example/firingnets/laws.FnFarthestOf", spec := "fnFarthestOf", apart := false, narrowed := true }
def FnFarthestOfUptoSaid : Prop := fnFarthestOfUptoRow.holds Try.pinned (OpenSpec.upto fnFarthestOfSpec)

/-- 'laws.FnExactPartsOf', WHERE WHAT IT READS IS OF BULK AT MOST 1048576: true; the input reads as it did. -/
def fnExactPartsOfUptoRow : OpenClaim := { program := "ytjogkppgmomggac", sum := "49697ba13c7272e50ec6f8332047f4d3a6a5bb155162e90a9d134af4db28bd4c", func := "loop.example/firingnets/laws.FnExactPartsOf", spec := "fnExactPartsOf", apart := false, narrowed := true }
def FnExactPartsOfUptoSaid : Prop := fnExactPartsOfUptoRow.holds Try.pinned (OpenSpec.upto fnExactPartsOfSpec)

/-- 'laws.FnExactNamedNet', WHERE WHAT IT READS IS OF BULK AT MOST 1048576: true; the input reads as it did. -/
def fnExactNamedNetUptoRow : OpenClaim := { program := "ytjogkppgmomggac", sum := "49697ba13c7272e50ec6f8332047f4d3a6a5bb155162e90a9d134af4db28bd4c", func := "loop.example/firingnets/laws.FnExactNamedNet", spec := "fnExactNamedNet", apart := false, narrowed := true }
def FnExactNamedNetUptoSaid : Prop := fnExactNamedNetUptoRow.holds Try.pinned (OpenSpec.upto fnExactNamedNetSpec)

end Rows
end Go.Proofs.Ytjogkppgmomggac
