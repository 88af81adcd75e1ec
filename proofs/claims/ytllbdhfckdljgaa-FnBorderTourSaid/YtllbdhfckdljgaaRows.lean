/-
  No cell of these rows narrows 'for every input' (looked for: loops, veiled, ifaces, maps, wideKeys, modest, calm, conditions, laid).
  DERIVED. THE GIVEN ROWS OF THIS SEAT. 9 by the template 'for every input the law returns true; each argument reads behind the call as it read before'; 0 by the template 'total and deterministic' (their statements: YtllbdhfckdljgaaTotals.lean).
  GIVEN WITH THE SEED: the statements are not yours to turn. If you find one false, say at which input.
  Laid BY PROGRAM, IN A SANDBOX (cutbox-rows.mjs): the forced cells as the released guide's own fill.sh prints them over the translation 45c829963f82f5cc… (all of the seat's roots in one cut). By AI agents, Wed Nov 11 2026. No macro, syntax, notation, axiom, sorry.
-/
import Derived.Test.YtllbdhfckdljgaaChecked
import GoSem.Claim
import GoSem.ClaimJoined
import GoSem.ClaimMapViews
import Derived.JoinedTies
import Derived.KernelRfl
namespace Go.Proofs.Ytllbdhfckdljgaa
/- THE CELL 'sum', in the pinned program and in every row, IS THE sha256 OF THE DUMP (.gsa) THAT YtllbdhfckdljgaaProg.lean LOADS. Nothing in Lean hashes anything: it is a label: what it is worth is what the hold of that sum in a sandbox is worth. -/
noncomputable def Try.pinned : Pinned := { name := "ytllbdhfckdljgaa", sum := "45c829963f82f5ccfaaf34856cd18114fdcaca0a4c0c47dde8a75c4baaa9277c", checked := Try.checked }
namespace Rows
def none {H : Type} : Left H := { results := [], args := [] }

/-- 'laws.FnGridNet': WHATEVER THE INPUT: true; the input reads as it did. -/
def fnGridNetSpec : ChangeSpec := { name := "fnGridNet", fn := fun _ => fun
  | [d] => { results := [.lit (.bool true)], args := [d] }
  | _ => none }
def fnGridNetRow : OpenClaim := { program := "ytllbdhfckdljgaa", sum := "45c829963f82f5ccfaaf34856cd18114fdcaca0a4c0c47dde8a75c4baaa9277c", func := "loop.example/firingnets/laws.FnGridNet", spec := "fnGridNet", apart := false }
def FnGridNetSaid : Prop := fnGridNetRow.holds Try.pinned (OpenSpec.ofChange fnGridNetSpec)

/-- ITS FALSE NEIGHBOUR: 'it returns false'. Refute it at one input. -/
def fnGridNetWrong : ChangeSpec := { name := "fnGridNet", fn := fun _ => fun
  | [d] => { results := [.lit (.bool false)], args := [d] }
  | _ => none }
def FnGridNetWrongFalsely : Prop := fnGridNetRow.holds Try.pinned (OpenSpec.ofChange fnGridNetWrong)

/-- 'laws.FnSquareTours': WHATEVER THE INPUT: true; the input reads as it did. -/
def fnSquareToursSpec : ChangeSpec := { name := "fnSquareTours", fn := fun _ => fun
  | [d] => { results := [.lit (.bool true)], args := [d] }
  | _ => none }
def fnSquareToursRow : OpenClaim := { program := "ytllbdhfckdljgaa", sum := "45c829963f82f5ccfaaf34856cd18114fdcaca0a4c0c47dde8a75c4baaa9277c", func := "loop.example/firingnets/laws.FnSquareTours", spec := "fnSquareTours", apart := false }
def FnSquareToursSaid : Prop := fnSquareToursRow.holds Try.pinned (OpenSpec.ofChange fnSquareToursSpec)

/-- ITS FALSE NEIGHBOUR: 'it returns false'. Refute it at one input. -/
def fnSquareToursWrong : ChangeSpec := { name := "fnSquareTours", fn := fun _ => fun
  | [d] => { results := [.lit (.bool false)], args := [d] }
  | _ => none }
def FnSquareToursWrongFalsely : Prop := fnSquareToursRow.holds Try.pinned (OpenSpec.ofChange fnSquareToursWrong)

/-- 'laws.FnSquareWindings': WHATEVER THE INPUT: true; the input reads as it did. -/
def fnSquareWindingsSpec : ChangeSpec := { name := "fnSquareWindings", fn := fun _ => fun
  | [d] => { results := [.lit (.bool true)], args := [d] }
  | _ => none }
def fnSquareWindingsRow : OpenClaim := { program := "ytllbdhfckdljgaa", sum := "45c829963f82f5ccfaaf34856cd18114fdcaca0a4c0c47dde8a75c4baaa9277c", func := "loop.example/firingnets/laws.FnSquareWindings", spec := "fnSquareWindings", apart := false }
def FnSquareWindingsSaid : Prop := fnSquareWindingsRow.holds Try.pinned (OpenSpec.ofChange fnSquareWindingsSpec)

/-- ITS FALSE NEIGHBOUR: 'it returns false'. Refute it at one input. -/
def fnSquareWindingsWrong : ChangeSpec := { name := "fnSquareWindings", fn := fun _ => fun
  | [d] => { results := [.lit (.bool false)], args := [d] }
  | _ => none }
def FnSquareWindingsWrongFalsely : Prop := fnSquareWindingsRow.holds Try.pinned (OpenSpec.ofChange fnSquareWindingsWrong)

/-- 'laws.FnBorderTour': WHATEVER THE INPUT: true; the input reads as it did. -/
def fnBorderTourSpec : ChangeSpec := { name := "fnBorderTour", fn := fun _ => fun
  | [d] => { results := [.lit (.bool true)], args := [d] }
  | _ => none }
def fnBorderTourRow : OpenClaim := { program := "ytllbdhfckdljgaa", sum := "45c829963f82f5ccfaaf34856cd18114fdcaca0a4c0c47dde8a75c4baaa9277c", func := "loop.example/firingnets/laws.FnBorderTour", spec := "fnBorderTour", apart := false }
def FnBorderTourSaid : Prop := fnBorderTourRow.holds Try.pinned (OpenSpec.ofChange fnBorderTourSpec)

/-- ITS FALSE NEIGHBOUR: 'it returns false'. Refute it at one input. -/
def fnBorderTourWrong : ChangeSpec := { name := "fnBorderTour", fn := fun _ => fun
  | [d] => { results := [.lit (.bool false)], args := [d] }
  | _ => none }
def FnBorderTourWrongFalsely : Prop := fnBorderTourRow.holds Try.pinned (OpenSpec.ofChange fnBorderTourWrong)

/-- 'laws.FnGridFar': WHATEVER THE INPUT: true; the input reads as it did. -/
def fnGridFarSpec : ChangeSpec := { name := "fnGridFar", fn := fun _ => fun
  | [d] => { results := [.lit (.bool true)], args := [d] }
  | _ => none }
def fnGridFarRow : OpenClaim := { program := "ytllbdhfckdljgaa", sum := "45c829963f82f5ccfaaf34856cd18114fdcaca0a4c0c47dde8a75c4baaa9277c", func := "loop.example/firingnets/laws.FnGridFar", spec := "fnGridFar", apart := false }
def FnGridFarSaid : Prop := fnGridFarRow.holds Try.pinned (OpenSpec.ofChange fnGridFarSpec)

/-- ITS FALSE NEIGHBOUR: 'it returns false'. Refute it at one input. -/
def fnGridFarWrong : ChangeSpec := { name := "fnGridFar", fn := fun _ => fun
  | [d] => { results := [.lit (.bool false)], args := [d] }
  | _ => none }
def FnGridFarWrongFalsely : Prop := fnGridFarRow.holds Try.pinned (OpenSpec.ofChange fnGridFarWrong)

/-- 'laws.FnExactGridNet': WHATEVER THE INPUT: true; the input reads as it did. -/
def fnExactGridNetSpec : ChangeSpec := { name := "fnExactGridNet", fn := fun _ => fun
  | [d1, d2] => { results := [.lit (.bool true)], args := [d1, d2] }
  | _ => none }
def fnExactGridNetRow : OpenClaim := { program := "ytllbdhfckdljgaa", sum := "45c829963f82f5ccfaaf34856cd18114fdcaca0a4c0c47dde8a75c4baaa9277c", func := "loop.example/firingnets/laws.FnExactGridNet", spec := "fnExactGridNet", apart := false }
def FnExactGridNetSaid : Prop := fnExactGridNetRow.holds Try.pinned (OpenSpec.ofChange fnExactGridNetSpec)

/-- ITS FALSE NEIGHBOUR: 'it returns false'. Refute it at one input. -/
def fnExactGridNetWrong : ChangeSpec := { name := "fnExactGridNet", fn := fun _ => fun
  | [d1, d2] => { results := [.lit (.bool false)], args := [d1, d2] }
  | _ => none }
def FnExactGridNetWrongFalsely : Prop := fnExactGridNetRow.holds Try.pinned (OpenSpec.ofChange fnExactGridNetWrong)

/-- 'laws.FnExactSquareTours': WHATEVER THE INPUT: true; the input reads as it did. -/
def fnExactSquareToursSpec : ChangeSpec := { name := "fnExactSquareTours", fn := fun _ => fun
  | [d1, d2] => { results := [.lit (.bool true)], args := [d1, d2] }
  | _ => none }
def fnExactSquareToursRow : OpenClaim := { program := "ytllbdhfckdljgaa", sum := "45c829963f82f5ccfaaf34856cd18114fdcaca0a4c0c47dde8a75c4baaa9277c", func := "loop.example/firingnets/laws.FnExactSquareTours", spec := "fnExactSquareTours", apart := false }
def FnExactSquareToursSaid : Prop := fnExactSquareToursRow.holds Try.pinned (OpenSpec.ofChange fnExactSquareToursSpec)

/-- ITS FALSE NEIGHBOUR: 'it returns false'. Refute it at one input. -/
def fnExactSquareToursWrong : ChangeSpec := { name := "fnExactSquareTours", fn := fun _ => fun
  | [d1, d2] => { results := [.lit (.bool false)], args := [d1, d2] }
  | _ => none }
def FnExactSquareToursWrongFalsely : Prop := fnExactSquareToursRow.holds Try.pinned (OpenSpec.ofChange fnExactSquareToursWrong)

/-- 'laws.FnExactSquareWindings': WHATEVER THE INPUT: true; the input reads as it did. -/
def fnExactSquareWindingsSpec : ChangeSpec := { name := "fnExactSquareWindings", fn := fun _ => fun
  | [d1, d2, d3] => { results := [.lit (.bool true)], args := [d1, d2, d3] }
  | _ => none }
def fnExactSquareWindingsRow : OpenClaim := { program := "ytllbdhfckdljgaa", sum := "45c829963f82f5ccfaaf34856cd18114fdcaca0a4c0c47dde8a75c4baaa9277c", func := "loop.example/firingnets/laws.FnExactSquareWindings", spec := "fnExactSquareWindings", apart := false }
def FnExactSquareWindingsSaid : Prop := fnExactSquareWindingsRow.holds Try.pinned (OpenSpec.ofChange fnExactSquareWindingsSpec)

/-- ITS FALSE NEIGHBOUR: 'it returns false'. Refute it at one input. -/
def fnExactSquareWindingsWrong : ChangeSpec := { name := "fnExactSquareWindings", fn := fun _ => fun
  | [d1, d2, d3] => { results := [.lit (.bool false)], args := [d1, d2, d3] }
  | _ => none }
def FnExactSquareWindingsWrongFalsely : Prop := fnExactSquareWindingsRow.holds Try.pinned (OpenSpec.ofChange fnExactSquareWindingsWrong)

/-- 'laws.FnExactBorderTour': WHATEVER THE INPUT: true; the input reads as it did. -/
def fnExactBorderTourSpec : ChangeSpec := { name := "fnExactBorderTour", fn := fun _ => fun
  | [d1, d2] => { results := [.lit (.bool true)], args := [d1, d2] }
  | _ => none }
def fnExactBorderTourRow : OpenClaim := { program := "ytllbdhfckdljgaa", sum := "45c829963f82f5ccfaaf34856cd18114fdcaca0a4c0c47dde8a75c4baaa9277c", func := "loop.example/firingnets/laws.FnExactBorderTour", spec := "fnExactBorderTour", apart := false }
def FnExactBorderTourSaid : Prop := fnExactBorderTourRow.holds Try.pinned (OpenSpec.ofChange fnExactBorderTourSpec)

/-- ITS FALSE NEIGHBOUR: 'it returns false'. Refute it at one input. -/
def fnExactBorderTourWrong : ChangeSpec := { name := "fnExactBorderTour", fn := fun _ => fun
  | [d1, d2] => { results := [.lit (.bool false)], args := [d1, d2] }
  | _ => none }
def FnExactBorderTourWrongFalsely : Prop := fnExactBorderTourRow.holds Try.pinned (OpenSpec.ofChange fnExactBorderTourWrong)

/- THE SECOND FORM. 'bulk': how many values and letters a reading holds, each counted each time it is reached (what is shared counts as often as it is met; a slice's spare places count too). A statement '..UptoSaid' is the law's where the arguments, and the package variables that the reading takes, are together of bulk at most 1048576: NARROWER than '..Said'. Prove '..Said' where nothing that the law and all that it calls make is longer than what came in: it says more and counts as full. Else prove '..UptoSaid'. A law counts once. -/
mutual
def uptoBulk {H : Type} : DataW H → Nat
  | .lit (.string bytes) => bytes.length + 1
  | .lit _ => 1
  | .nil => 1
  | .ptr d => uptoBulk d + 1
  | .slice elems spare => uptoBulkAll elems + uptoBulkAll spare + 1
  | .agg parts => uptoBulkAll parts + 1
  | .iface _ d => uptoBulk d + 1
  | .map entries => uptoBulkEntries entries + 1
  | .held _ => 1
def uptoBulkAll {H : Type} : List (DataW H) → Nat
  | [] => 0
  | d :: r => uptoBulk d + uptoBulkAll r
def uptoBulkEntries {H : Type} : List (Lit × DataW H) → Nat
  | [] => 0
  | x :: r => uptoBulkEntry x + uptoBulkEntries r
def uptoBulkEntry {H : Type} : Lit × DataW H → Nat
  | (.string bytes, d) => bytes.length + uptoBulk d + 1
  | (_, d) => uptoBulk d + 1
 end
def uptoSmall : (H : Type) → List (DataW H) → Bool := fun _ ds => decide (uptoBulkAll ds ≤ 1048576)
def OpenSpec.upto (s : _root_.Go.ChangeSpec) : _root_.Go.OpenSpec := { _root_.Go.OpenSpec.ofChange s with cond := some uptoSmall }

/-- 'laws.FnGridNet', WHERE WHAT IT READS IS OF BULK AT MOST 1048576: true; the input reads as it did. -/
def fnGridNetUptoRow : OpenClaim := { program := "ytllbdhfckdljgaa", sum := "45c829963f82f5ccfaaf34856cd18114fdcaca0a4c0c47dde8a75c4baaa9277c", func := "loop.example/firingnets/laws.FnGridNet", spec := "fnGridNet", apart := false, narrowed := true }
def FnGridNetUptoSaid : Prop := fnGridNetUptoRow.holds Try.pinned (OpenSpec.upto fnGridNetSpec)

/-- 'laws.FnSquareTours', WHERE WHAT IT READS IS OF BULK AT MOST 1048576: true; the input reads as it did. -/
def fnSquareToursUptoRow : OpenClaim := { program := "ytllbdhfckdljgaa", sum := "45c829963f82f5ccfaaf34856cd18114fdcaca0a4c0c47dde8a75c4baaa9277c", func := "loop.example/firingnets/laws.FnSquareTours", spec := "fnSquareTours", apart := false, narrowed := true }
def FnSquareToursUptoSaid : Prop := fnSquareToursUptoRow.holds Try.pinned (OpenSpec.upto fnSquareToursSpec)

/-- 'laws.FnSquareWindings', WHERE WHAT IT READS IS OF BULK AT MOST 1048576: true; the input reads as it did. -/
def fnSquareWindingsUptoRow : OpenClaim := { program := "ytllbdhfckdljgaa", sum := "45c829963f82f5ccfaaf34856cd18114fdcaca0a4c0c47dde8a75c4baaa9277c", func := "loop.example/firingnets/laws.FnSquareWindings", spec := "fnSquareWindings", apart := false, narrowed := true }
def FnSquareWindingsUptoSaid : Prop := fnSquareWindingsUptoRow.holds Try.pinned (OpenSpec.upto fnSquareWindingsSpec)

/-- 'laws.FnBorderTour', WHERE WHAT IT READS IS OF BULK AT MOST 1048576: true; the input reads as it did. -/
def fnBorderTourUptoRow : OpenClaim := { program := "ytllbdhfckdljgaa", sum := "45c829963f82f5ccfaaf34856cd18114fdcaca0a4c0c47dde8a75c4baaa9277c", func := "loop.example/firingnets/laws.FnBorderTour", spec := "fnBorderTour", apart := false, narrowed := true }
def FnBorderTourUptoSaid : Prop := fnBorderTourUptoRow.holds Try.pinned (OpenSpec.upto fnBorderTourSpec)

/-- 'laws.FnGridFar', WHERE WHAT IT READS IS OF BULK AT MOST 1048576: true; the input reads as it did. -/
def fnGridFarUptoRow : OpenClaim := { program := "ytllbdhfckdljgaa", sum := "45c829963f82f5ccfaaf34856cd18114fdcaca0a4c0c47dde8a75c4baaa9277c", func := "loop.example/firingnets/laws.FnGridFar", spec := "fnGridFar", apart := false, narrowed := true }
def FnGridFarUptoSaid : Prop := fnGridFarUptoRow.holds Try.pinned (OpenSpec.upto fnGridFarSpec)

/-- 'laws.FnExactGridNet', WHERE WHAT IT READS IS OF BULK AT MOST 1048576: true; the input reads as it did. -/
def fnExactGridNetUptoRow : OpenClaim := { program := "ytllbdhfckdljgaa", sum := "45c829963f82f5ccfaaf34856cd18114fdcaca0a4c0c47dde8a75c4baaa9277c", func := "loop.example/firingnets/laws.FnExactGridNet", spec := "fnExactGridNet", apart := false, narrowed := true }
def FnExactGridNetUptoSaid : Prop := fnExactGridNetUptoRow.holds Try.pinned (OpenSpec.upto fnExactGridNetSpec)

/-- 'laws.FnExactSquareTours', WHERE WHAT IT READS IS OF BULK AT MOST 1048576: true; the input reads as it did. -/
def fnExactSquareToursUptoRow : OpenClaim := { program := "ytllbdhfckdljgaa", sum := "45c829963f82f5ccfaaf34856cd18114fdcaca0a4c0c47dde8a75c4baaa9277c", func := "loop.example/firingnets/laws.FnExactSquareTours", spec := "fnExactSquareTours", apart := false, narrowed := true }
def FnExactSquareToursUptoSaid : Prop := fnExactSquareToursUptoRow.holds Try.pinned (OpenSpec.upto fnExactSquareToursSpec)

/-- 'laws.FnExactSquareWindings', WHERE WHAT IT READS IS OF BULK AT MOST 1048576: true; the input reads as it did. -/
def fnExactSquareWindingsUptoRow : OpenClaim := { program := "ytllbdhfckdljgaa", sum := "45c829963f82f5ccfaaf34856cd18114fdcaca0a4c0c47dde8a75c4baaa9277c", func := "loop.example/firingnets/laws.FnExactSquareWindings", spec := "fnExactSquareWindings", apart := false, narrowed := true }
def FnExactSquareWindingsUptoSaid : Prop := fnExactSquareWindingsUptoRow.holds Try.pinned (OpenSpec.upto fnExactSquareWindingsSpec)

/-- 'laws.FnExactBorderTour', WHERE WHAT IT READS IS OF BULK AT MOST 1048576: true; the input reads as it did. -/
def fnExactBorderTourUptoRow : OpenClaim := { program := "ytllbdhfckdljgaa", sum := "45c829963f82f5ccfaaf34856cd18114fdcaca0a4c0c47dde8a75c4baaa9277c", func := "loop.example/firingnets/laws.FnExactBorderTour", spec := "fnExactBorderTour", apart := false, narrowed := true }
def FnExactBorderTourUptoSaid : Prop := fnExactBorderTourUptoRow.holds Try.pinned (OpenSpec.upto fnExactBorderTourSpec)

end Rows
end Go.Proofs.Ytllbdhfckdljgaa
