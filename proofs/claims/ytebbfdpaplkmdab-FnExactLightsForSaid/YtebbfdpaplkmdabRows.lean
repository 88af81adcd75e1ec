/-
  No cell of these rows narrows 'for every input' (looked for: loops, veiled, ifaces, maps, wideKeys, modest, calm, conditions, laid).
  DERIVED. THE GIVEN ROWS OF THIS SEAT. 4 by the template 'for every input the law returns true; each argument reads behind the call as it read before'; 0 by the template 'total and deterministic' (their statements: YtebbfdpaplkmdabTotals.lean).
  GIVEN WITH THE SEED: the statements are not yours to turn. If you find one false, say at which input.
  Laid BY PROGRAM, IN A SANDBOX (cutbox-rows.mjs): the forced cells as the released guide's own fill.sh prints them over the translation 9ac1ae544c15c280… (all of the seat's roots in one cut). By AI agents, Wed Nov 11 2026. No macro, syntax, notation, axiom, sorry.
-/
import Derived.Test.YtebbfdpaplkmdabChecked
import GoSem.Claim
import GoSem.ClaimJoined
import GoSem.ClaimMapViews
import Derived.JoinedTies
import Derived.KernelRfl
namespace Go.Proofs.Ytebbfdpaplkmdab
/- THE CELL 'sum', in the pinned program and in every row, IS THE sha256 OF THE DUMP (.gsa) THAT YtebbfdpaplkmdabProg.lean LOADS. Nothing in Lean hashes anything: it is a label: what it is worth is what the hold of that sum in a sandbox is worth. -/
noncomputable def Try.pinned : Pinned := { name := "ytebbfdpaplkmdab", sum := "9ac1ae544c15c28081dd85da6ce1b8d739636645388c02df9f15335bf30cb3a8", checked := Try.checked }
namespace Rows
def none {H : Type} : Left H := { results := [], args := [] }

/-- 'laws.FnExactArrivalRow': WHATEVER THE INPUT: true; the input reads as it did. -/
def fnExactArrivalRowSpec : ChangeSpec := { name := "fnExactArrivalRow", fn := fun _ => fun
  | [d1, d2, d3] => { results := [.lit (.bool true)], args := [d1, d2, d3] }
  | _ => none }
def fnExactArrivalRowRow : OpenClaim := { program := "ytebbfdpaplkmdab", sum := "9ac1ae544c15c28081dd85da6ce1b8d739636645388c02df9f15335bf30cb3a8", func := "loop.example/firingnets/laws.FnExactArrivalRow", spec := "fnExactArrivalRow", apart := false }
def FnExactArrivalRowSaid : Prop := fnExactArrivalRowRow.holds Try.pinned (OpenSpec.ofChange fnExactArrivalRowSpec)

/-- ITS FALSE NEIGHBOUR: 'it returns false'. Refute it at one input. -/
def fnExactArrivalRowWrong : ChangeSpec := { name := "fnExactArrivalRow", fn := fun _ => fun
  | [d1, d2, d3] => { results := [.lit (.bool false)], args := [d1, d2, d3] }
  | _ => none }
def FnExactArrivalRowWrongFalsely : Prop := fnExactArrivalRowRow.holds Try.pinned (OpenSpec.ofChange fnExactArrivalRowWrong)

/-- 'laws.FnExactWaveEnd': WHATEVER THE INPUT: true; the input reads as it did. -/
def fnExactWaveEndSpec : ChangeSpec := { name := "fnExactWaveEnd", fn := fun _ => fun
  | [d1, d2, d3] => { results := [.lit (.bool true)], args := [d1, d2, d3] }
  | _ => none }
def fnExactWaveEndRow : OpenClaim := { program := "ytebbfdpaplkmdab", sum := "9ac1ae544c15c28081dd85da6ce1b8d739636645388c02df9f15335bf30cb3a8", func := "loop.example/firingnets/laws.FnExactWaveEnd", spec := "fnExactWaveEnd", unfollowed := true, recurses := true, apart := false }
def FnExactWaveEndSaid : Prop := fnExactWaveEndRow.holds Try.pinned (OpenSpec.ofChange fnExactWaveEndSpec)

/-- ITS FALSE NEIGHBOUR: 'it returns false'. Refute it at one input. -/
def fnExactWaveEndWrong : ChangeSpec := { name := "fnExactWaveEnd", fn := fun _ => fun
  | [d1, d2, d3] => { results := [.lit (.bool false)], args := [d1, d2, d3] }
  | _ => none }
def FnExactWaveEndWrongFalsely : Prop := fnExactWaveEndRow.holds Try.pinned (OpenSpec.ofChange fnExactWaveEndWrong)

/-- 'laws.FnExactFewestLights': WHATEVER THE INPUT: true; the input reads as it did. -/
def fnExactFewestLightsSpec : ChangeSpec := { name := "fnExactFewestLights", fn := fun _ => fun
  | [d1, d2] => { results := [.lit (.bool true)], args := [d1, d2] }
  | _ => none }
def fnExactFewestLightsRow : OpenClaim := { program := "ytebbfdpaplkmdab", sum := "9ac1ae544c15c28081dd85da6ce1b8d739636645388c02df9f15335bf30cb3a8", func := "loop.example/firingnets/laws.FnExactFewestLights", spec := "fnExactFewestLights", unfollowed := true, recurses := true, apart := false }
def FnExactFewestLightsSaid : Prop := fnExactFewestLightsRow.holds Try.pinned (OpenSpec.ofChange fnExactFewestLightsSpec)

/-- ITS FALSE NEIGHBOUR: 'it returns false'. Refute it at one input. -/
def fnExactFewestLightsWrong : ChangeSpec := { name := "fnExactFewestLights", fn := fun _ => fun
  | [d1, d2] => { results := [.lit (.bool false)], args := [d1, d2] }
  | _ => none }
def FnExactFewestLightsWrongFalsely : Prop := fnExactFewestLightsRow.holds Try.pinned (OpenSpec.ofChange fnExactFewestLightsWrong)

/-- 'laws.FnExactLightsFor': WHATEVER THE INPUT: true; the input reads as it did. -/
def fnExactLightsForSpec : ChangeSpec := { name := "fnExactLightsFor", fn := fun _ => fun
  | [d1, d2] => { results := [.lit (.bool true)], args := [d1, d2] }
  | _ => none }
def fnExactLightsForRow : OpenClaim := { program := "ytebbfdpaplkmdab", sum := "9ac1ae544c15c28081dd85da6ce1b8d739636645388c02df9f15335bf30cb3a8", func := "loop.example/firingnets/laws.FnExactLightsFor", spec := "fnExactLightsFor", unfollowed := true, recurses := true, apart := false }
def FnExactLightsForSaid : Prop := fnExactLightsForRow.holds Try.pinned (OpenSpec.ofChange fnExactLightsForSpec)

/-- ITS FALSE NEIGHBOUR: 'it returns false'. Refute it at one input. -/
def fnExactLightsForWrong : ChangeSpec := { name := "fnExactLightsFor", fn := fun _ => fun
  | [d1, d2] => { results := [.lit (.bool false)], args := [d1, d2] }
  | _ => none }
def FnExactLightsForWrongFalsely : Prop := fnExactLightsForRow.holds Try.pinned (OpenSpec.ofChange fnExactLightsForWrong)

/- THE SECOND FORM. 'bulk': how many values and letters a reading holds, each counted each time it is reached (what is shared counts as often as it is met; a slice's spare places count too). A statement '..UptoSaid' is the law's where the arguments, and the package variables that the reading takes, are together of bulk at most 1048576: NARROWER than '..Said'. Prove '..Said' where nothing that the law and all that it calls make is longer than what came in: it says more and counts as full. Else prove '..UptoSaid'. A law counts once. -/
mutual
def uptoBulk {H : Type} : DataW H → Nat
  | .lit (.string bytes) => bytes.length + 1
  | .lit _ => 1
  | .nil => 1
  | .ptr d => uptoBulk d + 1
  | .slice elems spare => uptoBulkAll elems + uptoBulkAll spare + 1
  | .agg parts => uptoBulkAll parts + 1
  | .iface _ d => uptoBulk d + 1
  | .map entries => uptoBulkEntries entries + 1
  | .held _ => 1
def uptoBulkAll {H : Type} : List (DataW H) → Nat
  | [] => 0
  | d :: r => uptoBulk d + uptoBulkAll r
def uptoBulkEntries {H : Type} : List (Lit × DataW H) → Nat
  | [] => 0
  | x :: r => uptoBulkEntry x + uptoBulkEntries r
def uptoBulkEntry {H : Type} : Lit × DataW H → Nat
  | (.string bytes, d) => bytes.length + uptoBulk d + 1
  | (_, d) => uptoBulk d + 1
 end
def uptoSmall : (H : Type) → List (DataW H) → Bool := fun _ ds => decide (uptoBulkAll ds ≤ 1048576)
def OpenSpec.upto (s : _root_.Go.ChangeSpec) : _root_.Go.OpenSpec := { _root_.Go.OpenSpec.ofChange s with cond := some uptoSmall }

/-- 'laws.FnExactArrivalRow', WHERE WHAT IT READS IS OF BULK AT MOST 1048576: true; the input reads as it did. -/
def fnExactArrivalRowUptoRow : OpenClaim := { program := "ytebbfdpaplkmdab", sum := "9ac1ae544c15c28081dd85da6ce1b8d739636645388c02df9f15335bf30cb3a8", func := "loop.example/firingnets/laws.FnExactArrivalRow", spec := "fnExactArrivalRow", apart := false, narrowed := true }
def FnExactArrivalRowUptoSaid : Prop := fnExactArrivalRowUptoRow.holds Try.pinned (OpenSpec.upto fnExactArrivalRowSpec)

/-- 'laws.FnExactWaveEnd', WHERE WHAT IT READS IS OF BULK AT MOST 1048576: true; the input reads as it did. -/
def fnExactWaveEndUptoRow : OpenClaim := { program := "ytebbfdpaplkmdab", sum := "9ac1ae544c15c28081dd85da6ce1b8d739636645388c02df9f15335bf30cb3a8", func := "loop.example/firingnets/laws.FnExactWaveEnd", spec := "fnExactWaveEnd", unfollowed := true, recurses := true, apart := false, narrowed := true }
def FnExactWaveEndUptoSaid : Prop := fnExactWaveEndUptoRow.holds Try.pinned (OpenSpec.upto fnExactWaveEndSpec)

/-- 'laws.FnExactFewestLights', WHERE WHAT IT READS IS OF BULK AT MOST 1048576: true; the input reads as it did. -/
def fnExactFewestLightsUptoRow : OpenClaim := { program := "ytebbfdpaplkmdab", sum := "9ac1ae544c15c28081dd85da6ce1b8d739636645388c02df9f15335bf30cb3a8", func := "loop.example/firingnets/laws.FnExactFewestLights", spec := "fnExactFewestLights", unfollowed := true, recurses := true, apart := false, narrowed := true }
def FnExactFewestLightsUptoSaid : Prop := fnExactFewestLightsUptoRow.holds Try.pinned (OpenSpec.upto fnExactFewestLightsSpec)

/-- 'laws.FnExactLightsFor', WHERE WHAT IT READS IS OF BULK AT MOST 1048576: true; the input reads as it did. -/
def fnExactLightsForUptoRow : OpenClaim := { program := "ytebbfdpaplkmdab", sum := "9ac1ae544c15c28081dd85da6ce1b8d739636645388c02df9f15335bf30cb3a8", func := "loop.example/firingnets/laws.FnExactLightsFor", spec := "fnExactLightsFor", unfollowed := true, recurses := true, apart := false, narrowed := true }
def FnExactLightsForUptoSaid : Prop := fnExactLightsForUptoRow.holds Try.pinned (OpenSpec.upto fnExactLightsForSpec)

end Rows
end Go.Proofs.Ytebbfdpaplkmdab
