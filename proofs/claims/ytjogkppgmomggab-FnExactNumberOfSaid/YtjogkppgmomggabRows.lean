/-
  No cell of these rows narrows 'for every input' (looked for: loops, veiled, ifaces, maps, wideKeys, modest, calm, conditions, laid).
  DERIVED. THE GIVEN ROWS OF THIS SEAT. 7 by the template 'for every input the law returns true; each argument reads behind the call as it read before'; 0 by the template 'total and deterministic' (their statements: YtjogkppgmomggabTotals.lean).
  GIVEN WITH THE SEED: the statements are not yours to turn. If you find one false, say at which input.
  Laid BY PROGRAM, IN A SANDBOX (cutbox-rows.mjs): the forced cells as the released guide's own fill.sh prints them over the translation 1093e3b8852a33e8… (all of the seat's roots in one cut). By AI agents, Wed Nov 11 2026. No macro, syntax, notation, axiom, sorry.
-/
import Derived.Test.YtjogkppgmomggabChecked
import GoSem.Claim
import GoSem.ClaimJoined
import GoSem.ClaimMapViews
import Derived.JoinedTies
import Derived.KernelRfl
namespace Go.Proofs.Ytjogkppgmomggab
/- THE CELL 'sum', in the pinned program and in every row, IS THE sha256 OF THE DUMP (.gsa) THAT YtjogkppgmomggabProg.lean LOADS. Nothing in Lean hashes anything: it is a label: what it is worth is what the hold of that sum in a sandbox is worth. -/
noncomputable def Try.pinned : Pinned := { name := "ytjogkppgmomggab", sum := "1093e3b8852a33e839c41eceb3462f10dee3f34acfbd8ba41f74299b388a2175", checked := Try.checked }
namespace Rows
def none {H : Type} : Left H := { results := [], args := [] }

/-- 'laws.FnExactStateOk': WHATEVER THE INPUT: true; the input reads as it did. -/
def fnExactStateOkSpec : ChangeSpec := { name := "fnExactStateOk", fn := fun _ => fun
  | [d1, d2] => { results := [.lit (.bool true)], args := [d1, d2] }
  | _ => none }
def fnExactStateOkRow : OpenClaim := { program := "ytjogkppgmomggab", sum := "1093e3b8852a33e839c41eceb3462f10dee3f34acfbd8ba41f74299b388a2175", func := "loop.example/firingnets/laws.FnExactStateOk", spec := "fnExactStateOk", apart := false }
def FnExactStateOkSaid : Prop := fnExactStateOkRow.holds Try.pinned (OpenSpec.ofChange fnExactStateOkSpec)

/-- ITS FALSE NEIGHBOUR: 'it returns false'. Refute it at one input. -/
def fnExactStateOkWrong : ChangeSpec := { name := "fnExactStateOk", fn := fun _ => fun
  | [d1, d2] => { results := [.lit (.bool false)], args := [d1, d2] }
  | _ => none }
def FnExactStateOkWrongFalsely : Prop := fnExactStateOkRow.holds Try.pinned (OpenSpec.ofChange fnExactStateOkWrong)

/-- 'laws.FnExactCountsOf': WHATEVER THE INPUT: true; the input reads as it did. -/
def fnExactCountsOfSpec : ChangeSpec := { name := "fnExactCountsOf", fn := fun _ => fun
  | [d1, d2] => { results := [.lit (.bool true)], args := [d1, d2] }
  | _ => none }
def fnExactCountsOfRow : OpenClaim := { program := "ytjogkppgmomggab", sum := "1093e3b8852a33e839c41eceb3462f10dee3f34acfbd8ba41f74299b388a2175", func := "loop.example/firingnets/laws.FnExactCountsOf", spec := "fnExactCountsOf", apart := false }
def FnExactCountsOfSaid : Prop := fnExactCountsOfRow.holds Try.pinned (OpenSpec.ofChange fnExactCountsOfSpec)

/-- ITS FALSE NEIGHBOUR: 'it returns false'. Refute it at one input. -/
def fnExactCountsOfWrong : ChangeSpec := { name := "fnExactCountsOf", fn := fun _ => fun
  | [d1, d2] => { results := [.lit (.bool false)], args := [d1, d2] }
  | _ => none }
def FnExactCountsOfWrongFalsely : Prop := fnExactCountsOfRow.holds Try.pinned (OpenSpec.ofChange fnExactCountsOfWrong)

/-- 'laws.FnExactLitState': WHATEVER THE INPUT: true; the input reads as it did. -/
def fnExactLitStateSpec : ChangeSpec := { name := "fnExactLitState", fn := fun _ => fun
  | [d1, d2] => { results := [.lit (.bool true)], args := [d1, d2] }
  | _ => none }
def fnExactLitStateRow : OpenClaim := { program := "ytjogkppgmomggab", sum := "1093e3b8852a33e839c41eceb3462f10dee3f34acfbd8ba41f74299b388a2175", func := "loop.example/firingnets/laws.FnExactLitState", spec := "fnExactLitState", apart := false }
def FnExactLitStateSaid : Prop := fnExactLitStateRow.holds Try.pinned (OpenSpec.ofChange fnExactLitStateSpec)

/-- ITS FALSE NEIGHBOUR: 'it returns false'. Refute it at one input. -/
def fnExactLitStateWrong : ChangeSpec := { name := "fnExactLitState", fn := fun _ => fun
  | [d1, d2] => { results := [.lit (.bool false)], args := [d1, d2] }
  | _ => none }
def FnExactLitStateWrongFalsely : Prop := fnExactLitStateRow.holds Try.pinned (OpenSpec.ofChange fnExactLitStateWrong)

/-- 'laws.FnExactRaisedState': WHATEVER THE INPUT: true; the input reads as it did. -/
def fnExactRaisedStateSpec : ChangeSpec := { name := "fnExactRaisedState", fn := fun _ => fun
  | [d1, d2] => { results := [.lit (.bool true)], args := [d1, d2] }
  | _ => none }
def fnExactRaisedStateRow : OpenClaim := { program := "ytjogkppgmomggab", sum := "1093e3b8852a33e839c41eceb3462f10dee3f34acfbd8ba41f74299b388a2175", func := "loop.example/firingnets/laws.FnExactRaisedState", spec := "fnExactRaisedState", unfollowed := true, recurses := true, apart := false }
def FnExactRaisedStateSaid : Prop := fnExactRaisedStateRow.holds Try.pinned (OpenSpec.ofChange fnExactRaisedStateSpec)

/-- ITS FALSE NEIGHBOUR: 'it returns false'. Refute it at one input. -/
def fnExactRaisedStateWrong : ChangeSpec := { name := "fnExactRaisedState", fn := fun _ => fun
  | [d1, d2] => { results := [.lit (.bool false)], args := [d1, d2] }
  | _ => none }
def FnExactRaisedStateWrongFalsely : Prop := fnExactRaisedStateRow.holds Try.pinned (OpenSpec.ofChange fnExactRaisedStateWrong)

/-- 'laws.FnExactNamedState': WHATEVER THE INPUT: true; the input reads as it did. -/
def fnExactNamedStateSpec : ChangeSpec := { name := "fnExactNamedState", fn := fun _ => fun
  | [d1, d2, d3] => { results := [.lit (.bool true)], args := [d1, d2, d3] }
  | _ => none }
def fnExactNamedStateRow : OpenClaim := { program := "ytjogkppgmomggab", sum := "1093e3b8852a33e839c41eceb3462f10dee3f34acfbd8ba41f74299b388a2175", func := "loop.example/firingnets/laws.FnExactNamedState", spec := "fnExactNamedState", apart := false }
def FnExactNamedStateSaid : Prop := fnExactNamedStateRow.holds Try.pinned (OpenSpec.ofChange fnExactNamedStateSpec)

/-- ITS FALSE NEIGHBOUR: 'it returns false'. Refute it at one input. -/
def fnExactNamedStateWrong : ChangeSpec := { name := "fnExactNamedState", fn := fun _ => fun
  | [d1, d2, d3] => { results := [.lit (.bool false)], args := [d1, d2, d3] }
  | _ => none }
def FnExactNamedStateWrongFalsely : Prop := fnExactNamedStateRow.holds Try.pinned (OpenSpec.ofChange fnExactNamedStateWrong)

/-- 'laws.FnExactNumberOf': WHATEVER THE INPUT: true; the input reads as it did. -/
def fnExactNumberOfSpec : ChangeSpec := { name := "fnExactNumberOf", fn := fun _ => fun
  | [d1, d2] => { results := [.lit (.bool true)], args := [d1, d2] }
  | _ => none }
def fnExactNumberOfRow : OpenClaim := { program := "ytjogkppgmomggab", sum := "1093e3b8852a33e839c41eceb3462f10dee3f34acfbd8ba41f74299b388a2175", func := "loop.example/firingnets/laws.FnExactNumberOf", spec := "fnExactNumberOf", unfollowed := true, recurses := true, apart := false }
def FnExactNumberOfSaid : Prop := fnExactNumberOfRow.holds Try.pinned (OpenSpec.ofChange fnExactNumberOfSpec)

/-- ITS FALSE NEIGHBOUR: 'it returns false'. Refute it at one input. -/
def fnExactNumberOfWrong : ChangeSpec := { name := "fnExactNumberOf", fn := fun _ => fun
  | [d1, d2] => { results := [.lit (.bool false)], args := [d1, d2] }
  | _ => none }
def FnExactNumberOfWrongFalsely : Prop := fnExactNumberOfRow.holds Try.pinned (OpenSpec.ofChange fnExactNumberOfWrong)

/-- 'laws.FnExactStateOf': WHATEVER THE INPUT: true; the input reads as it did. -/
def fnExactStateOfSpec : ChangeSpec := { name := "fnExactStateOf", fn := fun _ => fun
  | [d1, d2, d3] => { results := [.lit (.bool true)], args := [d1, d2, d3] }
  | _ => none }
def fnExactStateOfRow : OpenClaim := { program := "ytjogkppgmomggab", sum := "1093e3b8852a33e839c41eceb3462f10dee3f34acfbd8ba41f74299b388a2175", func := "loop.example/firingnets/laws.FnExactStateOf", spec := "fnExactStateOf", apart := false }
def FnExactStateOfSaid : Prop := fnExactStateOfRow.holds Try.pinned (OpenSpec.ofChange fnExactStateOfSpec)

/-- ITS FALSE NEIGHBOUR: 'it returns false'. Refute it at one input. -/
def fnExactStateOfWrong : ChangeSpec := { name := "fnExactStateOf", fn := fun _ => fun
  | [d1, d2, d3] => { results := [.lit (.bool false)], args := [d1, d2, d3] }
  | _ => none }
def FnExactStateOfWrongFalsely : Prop := fnExactStateOfRow.holds Try.pinned (OpenSpec.ofChange fnExactStateOfWrong)

/- THE SECOND FORM. 'bulk': how many values and letters a reading holds, each counted each time it is reached (what is shared counts as often as it is met; a slice's spare places count too). A statement '..UptoSaid' is the law's where the arguments, and the package variables that the reading takes, are together of bulk at most 1048576: NARROWER than '..Said'. Prove '..Said' where nothing that the law and all that it calls make is longer than what came in: it says more and counts as full. Else prove '..UptoSaid'. A law counts once. -/
mutual
def uptoBulk {H : Type} : DataW H → Nat
  | .lit (.string bytes) => bytes.length + 1
  | .lit _ => 1
  | .nil => 1
  | .ptr d => uptoBulk d + 1
  | .slice elems spare => uptoBulkAll elems + uptoBulkAll spare + 1
  | .agg parts => uptoBulkAll parts + 1
  | .iface _ d => uptoBulk d + 1
  | .map entries => uptoBulkEntries entries + 1
  | .held _ => 1
def uptoBulkAll {H : Type} : List (DataW H) → Nat
  | [] => 0
  | d :: r => uptoBulk d + uptoBulkAll r
def uptoBulkEntries {H : Type} : List (Lit × DataW H) → Nat
  | [] => 0
  | x :: r => uptoBulkEntry x + uptoBulkEntries r
def uptoBulkEntry {H : Type} : Lit × DataW H → Nat
  | (.string bytes, d) => bytes.length + uptoBulk d + 1
  | (_, d) => uptoBulk d + 1
 end
def uptoSmall : (H : Type) → List (DataW H) → Bool := fun _ ds => decide (uptoBulkAll ds ≤ 1048576)
def OpenSpec.upto (s : _root_.Go.ChangeSpec) : _root_.Go.OpenSpec := { _root_.Go.OpenSpec.ofChange s with cond := some uptoSmall }

/-- 'laws.FnExactStateOk', WHERE WHAT IT READS IS OF BULK AT MOST 1048576: true; the input reads as it did. -/
def fnExactStateOkUptoRow : OpenClaim := { program := "ytjogkppgmomggab", sum := "1093e3b8852a33e839c41eceb3462f10dee3f34acfbd8ba41f74299b388a2175", func := "loop.example/firingnets/laws.FnExactStateOk", spec := "fnExactStateOk", apart := false, narrowed := true }
def FnExactStateOkUptoSaid : Prop := fnExactStateOkUptoRow.holds Try.pinned (OpenSpec.upto fnExactStateOkSpec)

/-- 'laws.FnExactCountsOf', WHERE WHAT IT READS IS OF BULK AT MOST 1048576: true; the input reads as it did. -/
def fnExactCountsOfUptoRow : OpenClaim := { program := "ytjogkppgmomggab", sum := "1093e3b8852a33e839c41eceb3462f10dee3f34acfbd8ba41f74299b388a2175", func := "loop.example/firingnets/laws.FnExactCountsOf", spec := "fnExactCountsOf", apart := false, narrowed := true }
def FnExactCountsOfUptoSaid : Prop := fnExactCountsOfUptoRow.holds Try.pinned (OpenSpec.upto fnExactCountsOfSpec)

/-- 'laws.FnExactLitState', WHERE WHAT IT READS IS OF BULK AT MOST 1048576: true; the input reads as it did. -/
def fnExactLitStateUptoRow : OpenClaim := { program := "ytjogkppgmomggab", sum := "1093e3b8852a33e839c41eceb3462f10dee3f34acfbd8ba41f74299b388a2175", func := "loop.example/firingnets/laws.FnExactLitState", spec := "fnExactLitState", apart := false, narrowed := true }
def FnExactLitStateUptoSaid : Prop := fnExactLitStateUptoRow.holds Try.pinned (OpenSpec.upto fnExactLitStateSpec)

/-- 'laws.FnExactRaisedState', WHERE WHAT IT READS IS OF BULK AT MOST 1048576: true; the input reads as it did. -/
def fnExactRaisedStateUptoRow : OpenClaim := { program := "ytjogkppgmomggab", sum := "1093e3b8852a33e839c41eceb3462f10dee3f34acfbd8ba41f74299b388a2175", func := "loop.example/firingnets/laws.FnExactRaisedState", spec := "fnExactRaisedState", unfollowed := true, recurses := true, apart := false, narrowed := true }
def FnExactRaisedStateUptoSaid : Prop := fnExactRaisedStateUptoRow.holds Try.pinned (OpenSpec.upto fnExactRaisedStateSpec)

/-- 'laws.FnExactNamedState', WHERE WHAT IT READS IS OF BULK AT MOST 1048576: true; the input reads as it did. -/
def fnExactNamedStateUptoRow : OpenClaim := { program := "ytjogkppgmomggab", sum := "1093e3b8852a33e839c41eceb3462f10dee3f34acfbd8ba41f74299b388a2175", func := "loop.example/firingnets/laws.FnExactNamedState", spec := "fnExactNamedState", apart := false, narrowed := true }
def FnExactNamedStateUptoSaid : Prop := fnExactNamedStateUptoRow.holds Try.pinned (OpenSpec.upto fnExactNamedStateSpec)

/-- 'laws.FnExactNumberOf', WHERE WHAT IT READS IS OF BULK AT MOST 1048576: true; the input reads as it did. -/
def fnExactNumberOfUptoRow : OpenClaim := { program := "ytjogkppgmomggab", sum := "1093e3b8852a33e839c41eceb3462f10dee3f34acfbd8ba41f74299b388a2175", func := "loop.example/firingnets/laws.FnExactNumberOf", spec := "fnExactNumberOf", unfollowed := true, recurses := true, apart := false, narrowed := true }
def FnExactNumberOfUptoSaid : Prop := fnExactNumberOfUptoRow.holds Try.pinned (OpenSpec.upto fnExactNumberOfSpec)

/-- 'laws.FnExactStateOf', WHERE WHAT IT READS IS OF BULK AT MOST 1048576: true; the input reads as it did. -/
def fnExactStateOfUptoRow : OpenClaim := { program := "ytjogkppgmomggab", sum := "1093e3b8852a33e839c41eceb3462f10dee3f34acfbd8ba41f74299b388a2175", func := "loop.example/firingnets/laws.FnExactStateOf", spec := "fnExactStateOf", apart := false, narrowed := true }
def FnExactStateOfUptoSaid : Prop := fnExactStateOfUptoRow.holds Try.pinned (OpenSpec.upto fnExactStateOfSpec)

end Rows
end Go.Proofs.Ytjogkppgmomggab
