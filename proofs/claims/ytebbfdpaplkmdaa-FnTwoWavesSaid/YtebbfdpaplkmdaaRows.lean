/-
  No cell of these rows narrows 'for every input' (looked for: loops, veiled, ifaces, maps, wideKeys, modest, calm, conditions, laid).
  DERIVED. THE GIVEN ROWS OF THIS SEAT. 6 by the template 'for every input the law returns true; each argument reads behind the call as it read before'; 0 by the template 'total and deterministic' (their statements: YtebbfdpaplkmdaaTotals.lean).
  GIVEN WITH THE SEED: the statements are not yours to turn. If you find one false, say at which input.
  Laid BY PROGRAM, IN A SANDBOX (cutbox-rows.mjs): the forced cells as the released guide's own fill.sh prints them over the translation 0d0f1905a4c94fb1… (all of the seat's roots in one cut). By AI agents, Wed Nov 11 2026. No macro, syntax, notation, axiom, sorry.
-/
import Derived.Test.YtebbfdpaplkmdaaChecked
import GoSem.Claim
import GoSem.ClaimJoined
import GoSem.ClaimMapViews
import Derived.JoinedTies
import Derived.KernelRfl
namespace Go.Proofs.Ytebbfdpaplkmdaa
/- THE CELL 'sum', in the pinned program and in every row, IS THE sha256 OF THE DUMP (.gsa) THAT YtebbfdpaplkmdaaProg.lean LOADS. Nothing in Lean hashes anything: it is a label: what it is worth is what the hold of that sum in a sandbox is worth. -/
noncomputable def Try.pinned : Pinned := { name := "ytebbfdpaplkmdaa", sum := "0d0f1905a4c94fb1177544a8fa1a067e1681307a0409d6acf209db2948af6562", checked := Try.checked }
namespace Rows
def none {H : Type} : Left H := { results := [], args := [] }

/-- 'laws.FnArrivalRow': WHATEVER THE INPUT: true; the input reads as it did. -/
def fnArrivalRowSpec : ChangeSpec := { name := "fnArrivalRow", fn := fun _ => fun
  | [d] => { results := [.lit (.bool true)], args := [d] }
  | _ => none }
def fnArrivalRowRow : OpenClaim := { program := "ytebbfdpaplkmdaa", sum := "0d0f1905a4c94fb1177544a8fa1a067e1681307a0409d6acf209db2948af6562", func := "loop.example/firingnets/laws.FnArrivalRow", spec := "fnArrivalRow", unfollowed := true, recurses := true, apart := false }
def FnArrivalRowSaid : Prop := fnArrivalRowRow.holds Try.pinned (OpenSpec.ofChange fnArrivalRowSpec)

/-- ITS FALSE NEIGHBOUR: 'it returns false'. Refute it at one input. -/
def fnArrivalRowWrong : ChangeSpec := { name := "fnArrivalRow", fn := fun _ => fun
  | [d] => { results := [.lit (.bool false)], args := [d] }
  | _ => none }
def FnArrivalRowWrongFalsely : Prop := fnArrivalRowRow.holds Try.pinned (OpenSpec.ofChange fnArrivalRowWrong)

/-- 'laws.FnWaveEnd': WHATEVER THE INPUT: true; the input reads as it did. -/
def fnWaveEndSpec : ChangeSpec := { name := "fnWaveEnd", fn := fun _ => fun
  | [d] => { results := [.lit (.bool true)], args := [d] }
  | _ => none }
def fnWaveEndRow : OpenClaim := { program := "ytebbfdpaplkmdaa", sum := "0d0f1905a4c94fb1177544a8fa1a067e1681307a0409d6acf209db2948af6562", func := "loop.example/firingnets/laws.FnWaveEnd", spec := "fnWaveEnd", unfollowed := true, recurses := true, apart := false }
def FnWaveEndSaid : Prop := fnWaveEndRow.holds Try.pinned (OpenSpec.ofChange fnWaveEndSpec)

/-- ITS FALSE NEIGHBOUR: 'it returns false'. Refute it at one input. -/
def fnWaveEndWrong : ChangeSpec := { name := "fnWaveEnd", fn := fun _ => fun
  | [d] => { results := [.lit (.bool false)], args := [d] }
  | _ => none }
def FnWaveEndWrongFalsely : Prop := fnWaveEndRow.holds Try.pinned (OpenSpec.ofChange fnWaveEndWrong)

/-- 'laws.FnFewestLights': WHATEVER THE INPUT: true; the input reads as it did. -/
def fnFewestLightsSpec : ChangeSpec := { name := "fnFewestLights", fn := fun _ => fun
  | [d] => { results := [.lit (.bool true)], args := [d] }
  | _ => none }
def fnFewestLightsRow : OpenClaim := { program := "ytebbfdpaplkmdaa", sum := "0d0f1905a4c94fb1177544a8fa1a067e1681307a0409d6acf209db2948af6562", func := "loop.example/firingnets/laws.FnFewestLights", spec := "fnFewestLights", unfollowed := true, recurses := true, apart := false }
def FnFewestLightsSaid : Prop := fnFewestLightsRow.holds Try.pinned (OpenSpec.ofChange fnFewestLightsSpec)

/-- ITS FALSE NEIGHBOUR: 'it returns false'. Refute it at one input. -/
def fnFewestLightsWrong : ChangeSpec := { name := "fnFewestLights", fn := fun _ => fun
  | [d] => { results := [.lit (.bool false)], args := [d] }
  | _ => none }
def FnFewestLightsWrongFalsely : Prop := fnFewestLightsRow.holds Try.pinned (OpenSpec.ofChange fnFewestLightsWrong)

/-- 'laws.FnLightsFor': WHATEVER THE INPUT: true; the input reads as it did. -/
def fnLightsForSpec : ChangeSpec := { name := "fnLightsFor", fn := fun _ => fun
  | [d] => { results := [.lit (.bool true)], args := [d] }
  | _ => none }
def fnLightsForRow : OpenClaim := { program := "ytebbfdpaplkmdaa", sum := "0d0f1905a4c94fb1177544a8fa1a067e1681307a0409d6acf209db2948af6562", func := "loop.example/firingnets/laws.FnLightsFor", spec := "fnLightsFor", unfollowed := true, recurses := true, apart := false }
def FnLightsForSaid : Prop := fnLightsForRow.holds Try.pinned (OpenSpec.ofChange fnLightsForSpec)

/-- ITS FALSE NEIGHBOUR: 'it returns false'. Refute it at one input. -/
def fnLightsForWrong : ChangeSpec := { name := "fnLightsFor", fn := fun _ => fun
  | [d] => { results := [.lit (.bool false)], args := [d] }
  | _ => none }
def FnLightsForWrongFalsely : Prop := fnLightsForRow.holds Try.pinned (OpenSpec.ofChange fnLightsForWrong)

/-- 'laws.FnTwoWaves': WHATEVER THE INPUT: true; the input reads as it did. -/
def fnTwoWavesSpec : ChangeSpec := { name := "fnTwoWaves", fn := fun _ => fun
  | [d] => { results := [.lit (.bool true)], args := [d] }
  | _ => none }
def fnTwoWavesRow : OpenClaim := { program := "ytebbfdpaplkmdaa", sum := "0d0f1905a4c94fb1177544a8fa1a067e1681307a0409d6acf209db2948af6562", func := "loop.example/firingnets/laws.FnTwoWaves", spec := "fnTwoWaves", apart := false }
def FnTwoWavesSaid : Prop := fnTwoWavesRow.holds Try.pinned (OpenSpec.ofChange fnTwoWavesSpec)

/-- ITS FALSE NEIGHBOUR: 'it returns false'. Refute it at one input. -/
def fnTwoWavesWrong : ChangeSpec := { name := "fnTwoWaves", fn := fun _ => fun
  | [d] => { results := [.lit (.bool false)], args := [d] }
  | _ => none }
def FnTwoWavesWrongFalsely : Prop := fnTwoWavesRow.holds Try.pinned (OpenSpec.ofChange fnTwoWavesWrong)

/-- 'laws.FnLightsGrow': WHATEVER THE INPUT: true; the input reads as it did. -/
def fnLightsGrowSpec : ChangeSpec := { name := "fnLightsGrow", fn := fun _ => fun
  | [d] => { results := [.lit (.bool true)], args := [d] }
  | _ => none }
def fnLightsGrowRow : OpenClaim := { program := "ytebbfdpaplkmdaa", sum := "0d0f1905a4c94fb1177544a8fa1a067e1681307a0409d6acf209db2948af6562", func := "loop.example/firingnets/laws.FnLightsGrow", spec := "fnLightsGrow", unfollowed := true, recurses := true, apart := false }
def FnLightsGrowSaid : Prop := fnLightsGrowRow.holds Try.pinned (OpenSpec.ofChange fnLightsGrowSpec)

/-- ITS FALSE NEIGHBOUR: 'it returns false'. Refute it at one input. -/
def fnLightsGrowWrong : ChangeSpec := { name := "fnLightsGrow", fn := fun _ => fun
  | [d] => { results := [.lit (.bool false)], args := [d] }
  | _ => none }
def FnLightsGrowWrongFalsely : Prop := fnLightsGrowRow.holds Try.pinned (OpenSpec.ofChange fnLightsGrowWrong)

/- THE SECOND FORM. 'bulk': how many values and letters a reading holds, each counted each time it is reached (what is shared counts as often as it is met; a slice's spare places count too). A statement '..UptoSaid' is the law's where the arguments, and the package variables that the reading takes, are together of bulk at most 1048576: NARROWER than '..Said'. Prove '..Said' where nothing that the law and all that it calls make is longer than what came in: it says more and counts as full. Else prove '..UptoSaid'. A law counts once. -/
mutual
def uptoBulk {H : Type} : DataW H → Nat
  | .lit (.string bytes) => bytes.length + 1
  | .lit _ => 1
  | .nil => 1
  | .ptr d => uptoBulk d + 1
  | .slice elems spare => uptoBulkAll elems + uptoBulkAll spare + 1
  | .agg parts => uptoBulkAll parts + 1
  | .iface _ d => uptoBulk d + 1
  | .map entries => uptoBulkEntries entries + 1
  | .held _ => 1
def uptoBulkAll {H : Type} : List (DataW H) → Nat
  | [] => 0
  | d :: r => uptoBulk d + uptoBulkAll r
def uptoBulkEntries {H : Type} : List (Lit × DataW H) → Nat
  | [] => 0
  | x :: r => uptoBulkEntry x + uptoBulkEntries r
def uptoBulkEntry {H : Type} : Lit × DataW H → Nat
  | (.string bytes, d) => bytes.length + uptoBulk d + 1
  | (_, d) => uptoBulk d + 1
 end
def uptoSmall : (H : Type) → List (DataW H) → Bool := fun _ ds => decide (uptoBulkAll ds ≤ 1048576)
def OpenSpec.upto (s : _root_.Go.ChangeSpec) : _root_.Go.OpenSpec := { _root_.Go.OpenSpec.ofChange s with cond := some uptoSmall }

/-- 'laws.FnArrivalRow', WHERE WHAT IT READS IS OF BULK AT MOST 1048576: true; the input reads as it did. -/
def fnArrivalRowUptoRow : OpenClaim := { program := "ytebbfdpaplkmdaa", sum := "0d0f1905a4c94fb1177544a8fa1a067e1681307a0409d6acf209db2948af6562", func := "loop.example/firingnets/laws.FnArrivalRow", spec := "fnArrivalRow", unfollowed := true, recurses := true, apart := false, narrowed := true }
def FnArrivalRowUptoSaid : Prop := fnArrivalRowUptoRow.holds Try.pinned (OpenSpec.upto fnArrivalRowSpec)

/-- 'laws.FnWaveEnd', WHERE WHAT IT READS IS OF BULK AT MOST 1048576: true; the input reads as it did. -/
def fnWaveEndUptoRow : OpenClaim := { program := "ytebbfdpaplkmdaa", sum := "0d0f1905a4c94fb1177544a8fa1a067e1681307a0409d6acf209db2948af6562", func := "loop.example/firingnets/laws.FnWaveEnd", spec := "fnWaveEnd", unfollowed := true, recurses := true, apart := false, narrowed := true }
def FnWaveEndUptoSaid : Prop := fnWaveEndUptoRow.holds Try.pinned (OpenSpec.upto fnWaveEndSpec)

/-- 'laws.FnFewestLights', WHERE WHAT IT READS IS OF BULK AT MOST 1048576: true; the input reads as it did. -/
def fnFewestLightsUptoRow : OpenClaim := { program := "ytebbfdpaplkmdaa", sum := "0d0f1905a4c94fb1177544a8fa1a067e1681307a0409d6acf209db2948af6562", func := "loop.example/firingnets/laws.FnFewestLights", spec := "fnFewestLights", unfollowed := true, recurses := true, apart := false, narrowed := true }
def FnFewestLightsUptoSaid : Prop := fnFewestLightsUptoRow.holds Try.pinned (OpenSpec.upto fnFewestLightsSpec)

/-- 'laws.FnLightsFor', WHERE WHAT IT READS IS OF BULK AT MOST 1048576: true; the input reads as it did. -/
def fnLightsForUptoRow : OpenClaim := { program := "ytebbfdpaplkmdaa", sum := "0d0f1905a4c94fb1177544a8fa1a067e1681307a0409d6acf209db2948af6562", func := "loop.example/firingnets/laws.FnLightsFor", spec := "fnLightsFor", unfollowed := true, recurses := true, apart := false, narrowed := true }
def FnLightsForUptoSaid : Prop := fnLightsForUptoRow.holds Try.pinned (OpenSpec.upto fnLightsForSpec)

/-- 'laws.FnTwoWaves', WHERE WHAT IT READS IS OF BULK AT MOST 1048576: true; the input reads as it did. -/
def fnTwoWavesUptoRow : OpenClaim := { program := "ytebbfdpaplkmdaa", sum := "0d0f1905a4c94fb1177544a8fa1a067e1681307a0409d6acf209db2948af6562", func := "loop.example/firingnets/laws.FnTwoWaves", spec := "fnTwoWaves", apart := false, narrowed := true }
def FnTwoWavesUptoSaid : Prop := fnTwoWavesUptoRow.holds Try.pinned (OpenSpec.upto fnTwoWavesSpec)

/-- 'laws.FnLightsGrow', WHERE WHAT IT READS IS OF BULK AT MOST 1048576: true; the input reads as it did. -/
def fnLightsGrowUptoRow : OpenClaim := { program := "ytebbfdpaplkmdaa", sum := "0d0f1905a4c94fb1177544a8fa1a067e1681307a0409d6acf209db2948af6562", func := "loop.example/firingnets/laws.FnLightsGrow", spec := "fnLightsGrow", unfollowed := true, recurses := true, apart := false, narrowed := true }
def FnLightsGrowUptoSaid : Prop := fnLightsGrowUptoRow.holds Try.pinned (OpenSpec.upto fnLightsGrowSpec)

end Rows
end Go.Proofs.Ytebbfdpaplkmdaa
