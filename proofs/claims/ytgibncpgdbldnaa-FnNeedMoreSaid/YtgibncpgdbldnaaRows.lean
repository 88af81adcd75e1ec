/-
  No cell of these rows narrows 'for every input' (looked for: loops, veiled, ifaces, maps, wideKeys, modest, calm, conditions, laid).
  DERIVED. THE GIVEN ROWS OF THIS SEAT. 8 by the template 'for every input the law returns true; each argument reads behind the call as it read before'; 0 by the template 'total and deterministic' (their statements: YtgibncpgdbldnaaTotals.lean).
  GIVEN WITH THE SEED: the statements are not yours to turn. If you find one false, say at which input.
  Laid BY PROGRAM, IN A SANDBOX (cutbox-rows.mjs): the forced cells as the released guide's own fill.sh prints them over the translation 13b607bb010b47f4… (all of the seat's roots in one cut). By AI agents, Wed Nov 11 2026. No macro, syntax, notation, axiom, sorry.
-/
import Derived.Test.YtgibncpgdbldnaaChecked
import GoSem.Claim
import GoSem.ClaimJoined
import GoSem.ClaimMapViews
import Derived.JoinedTies
import Derived.KernelRfl
namespace Go.Proofs.Ytgibncpgdbldnaa
/- THE CELL 'sum', in the pinned program and in every row, IS THE sha256 OF THE DUMP (.gsa) THAT YtgibncpgdbldnaaProg.lean LOADS. Nothing in Lean hashes anything: it is a label: what it is worth is what the hold of that sum in a sandbox is worth. -/
noncomputable def Try.pinned : Pinned := { name := "ytgibncpgdbldnaa", sum := "13b607bb010b47f46d58ee5aefe69cd218ac3c297c4ad4d6269258c37d05c205", checked := Try.checked }
namespace Rows
def none {H : Type} : Left H := { results := [], args := [] }

/-- 'laws.FnNeedsOk': WHATEVER THE INPUT: true; the input reads as it did. -/
def fnNeedsOkSpec : ChangeSpec := { name := "fnNeedsOk", fn := fun _ => fun
  | [d] => { results := [.lit (.bool true)], args := [d] }
  | _ => none }
def fnNeedsOkRow : OpenClaim := { program := "ytgibncpgdbldnaa", sum := "13b607bb010b47f46d58ee5aefe69cd218ac3c297c4ad4d6269258c37d05c205", func := "loop.example/firingnets/laws.FnNeedsOk", spec := "fnNeedsOk", apart := false }
def FnNeedsOkSaid : Prop := fnNeedsOkRow.holds Try.pinned (OpenSpec.ofChange fnNeedsOkSpec)

/-- ITS FALSE NEIGHBOUR: 'it returns false'. Refute it at one input. -/
def fnNeedsOkWrong : ChangeSpec := { name := "fnNeedsOk", fn := fun _ => fun
  | [d] => { results := [.lit (.bool false)], args := [d] }
  | _ => none }
def FnNeedsOkWrongFalsely : Prop := fnNeedsOkRow.holds Try.pinned (OpenSpec.ofChange fnNeedsOkWrong)

/-- 'laws.FnNeedStep': WHATEVER THE INPUT: true; the input reads as it did. -/
def fnNeedStepSpec : ChangeSpec := { name := "fnNeedStep", fn := fun _ => fun
  | [d] => { results := [.lit (.bool true)], args := [d] }
  | _ => none }
def fnNeedStepRow : OpenClaim := { program := "ytgibncpgdbldnaa", sum := "13b607bb010b47f46d58ee5aefe69cd218ac3c297c4ad4d6269258c37d05c205", func := "loop.example/firingnets/laws.FnNeedStep", spec := "fnNeedStep", apart := false }
def FnNeedStepSaid : Prop := fnNeedStepRow.holds Try.pinned (OpenSpec.ofChange fnNeedStepSpec)

/-- ITS FALSE NEIGHBOUR: 'it returns false'. Refute it at one input. -/
def fnNeedStepWrong : ChangeSpec := { name := "fnNeedStep", fn := fun _ => fun
  | [d] => { results := [.lit (.bool false)], args := [d] }
  | _ => none }
def FnNeedStepWrongFalsely : Prop := fnNeedStepRow.holds Try.pinned (OpenSpec.ofChange fnNeedStepWrong)

/-- 'laws.FnSpreadSet': WHATEVER THE INPUT: true; the input reads as it did. -/
def fnSpreadSetSpec : ChangeSpec := { name := "fnSpreadSet", fn := fun _ => fun
  | [d1, d2] => { results := [.lit (.bool true)], args := [d1, d2] }
  | _ => none }
def fnSpreadSetRow : OpenClaim := { program := "ytgibncpgdbldnaa", sum := "13b607bb010b47f46d58ee5aefe69cd218ac3c297c4ad4d6269258c37d05c205", func := "loop.example/firingnets/laws.FnSpreadSet", spec := "fnSpreadSet", unfollowed := true, recurses := true, apart := false }
def FnSpreadSetSaid : Prop := fnSpreadSetRow.holds Try.pinned (OpenSpec.ofChange fnSpreadSetSpec)

/-- ITS FALSE NEIGHBOUR: 'it returns false'. Refute it at one input. -/
def fnSpreadSetWrong : ChangeSpec := { name := "fnSpreadSet", fn := fun _ => fun
  | [d1, d2] => { results := [.lit (.bool false)], args := [d1, d2] }
  | _ => none }
def FnSpreadSetWrongFalsely : Prop := fnSpreadSetRow.holds Try.pinned (OpenSpec.ofChange fnSpreadSetWrong)

/-- 'laws.FnLeastSpark': WHATEVER THE INPUT: true; the input reads as it did. -/
def fnLeastSparkSpec : ChangeSpec := { name := "fnLeastSpark", fn := fun _ => fun
  | [d] => { results := [.lit (.bool true)], args := [d] }
  | _ => none }
def fnLeastSparkRow : OpenClaim := { program := "ytgibncpgdbldnaa", sum := "13b607bb010b47f46d58ee5aefe69cd218ac3c297c4ad4d6269258c37d05c205", func := "loop.example/firingnets/laws.FnLeastSpark", spec := "fnLeastSpark", unfollowed := true, recurses := true, apart := false }
def FnLeastSparkSaid : Prop := fnLeastSparkRow.holds Try.pinned (OpenSpec.ofChange fnLeastSparkSpec)

/-- ITS FALSE NEIGHBOUR: 'it returns false'. Refute it at one input. -/
def fnLeastSparkWrong : ChangeSpec := { name := "fnLeastSpark", fn := fun _ => fun
  | [d] => { results := [.lit (.bool false)], args := [d] }
  | _ => none }
def FnLeastSparkWrongFalsely : Prop := fnLeastSparkRow.holds Try.pinned (OpenSpec.ofChange fnLeastSparkWrong)

/-- 'laws.FnOneByOne': WHATEVER THE INPUT: true; the input reads as it did. -/
def fnOneByOneSpec : ChangeSpec := { name := "fnOneByOne", fn := fun _ => fun
  | [d] => { results := [.lit (.bool true)], args := [d] }
  | _ => none }
def fnOneByOneRow : OpenClaim := { program := "ytgibncpgdbldnaa", sum := "13b607bb010b47f46d58ee5aefe69cd218ac3c297c4ad4d6269258c37d05c205", func := "loop.example/firingnets/laws.FnOneByOne", spec := "fnOneByOne", unfollowed := true, recurses := true, apart := false }
def FnOneByOneSaid : Prop := fnOneByOneRow.holds Try.pinned (OpenSpec.ofChange fnOneByOneSpec)

/-- ITS FALSE NEIGHBOUR: 'it returns false'. Refute it at one input. -/
def fnOneByOneWrong : ChangeSpec := { name := "fnOneByOne", fn := fun _ => fun
  | [d] => { results := [.lit (.bool false)], args := [d] }
  | _ => none }
def FnOneByOneWrongFalsely : Prop := fnOneByOneRow.holds Try.pinned (OpenSpec.ofChange fnOneByOneWrong)

/-- 'laws.FnNeedRun': WHATEVER THE INPUT: true; the input reads as it did. -/
def fnNeedRunSpec : ChangeSpec := { name := "fnNeedRun", fn := fun _ => fun
  | [d] => { results := [.lit (.bool true)], args := [d] }
  | _ => none }
def fnNeedRunRow : OpenClaim := { program := "ytgibncpgdbldnaa", sum := "13b607bb010b47f46d58ee5aefe69cd218ac3c297c4ad4d6269258c37d05c205", func := "loop.example/firingnets/laws.FnNeedRun", spec := "fnNeedRun", unfollowed := true, recurses := true, apart := false }
def FnNeedRunSaid : Prop := fnNeedRunRow.holds Try.pinned (OpenSpec.ofChange fnNeedRunSpec)

/-- ITS FALSE NEIGHBOUR: 'it returns false'. Refute it at one input. -/
def fnNeedRunWrong : ChangeSpec := { name := "fnNeedRun", fn := fun _ => fun
  | [d] => { results := [.lit (.bool false)], args := [d] }
  | _ => none }
def FnNeedRunWrongFalsely : Prop := fnNeedRunRow.holds Try.pinned (OpenSpec.ofChange fnNeedRunWrong)

/-- 'laws.FnSpreadWave': WHATEVER THE INPUT: true; the input reads as it did. -/
def fnSpreadWaveSpec : ChangeSpec := { name := "fnSpreadWave", fn := fun _ => fun
  | [d] => { results := [.lit (.bool true)], args := [d] }
  | _ => none }
def fnSpreadWaveRow : OpenClaim := { program := "ytgibncpgdbldnaa", sum := "13b607bb010b47f46d58ee5aefe69cd218ac3c297c4ad4d6269258c37d05c205", func := "loop.example/firingnets/laws.FnSpreadWave", spec := "fnSpreadWave", unfollowed := true, recurses := true, apart := false }
def FnSpreadWaveSaid : Prop := fnSpreadWaveRow.holds Try.pinned (OpenSpec.ofChange fnSpreadWaveSpec)

/-- ITS FALSE NEIGHBOUR: 'it returns false'. Refute it at one input. -/
def fnSpreadWaveWrong : ChangeSpec := { name := "fnSpreadWave", fn := fun _ => fun
  | [d] => { results := [.lit (.bool false)], args := [d] }
  | _ => none }
def FnSpreadWaveWrongFalsely : Prop := fnSpreadWaveRow.holds Try.pinned (OpenSpec.ofChange fnSpreadWaveWrong)

/-- 'laws.FnNeedMore': WHATEVER THE INPUT: true; the input reads as it did. -/
def fnNeedMoreSpec : ChangeSpec := { name := "fnNeedMore", fn := fun _ => fun
  | [d] => { results := [.lit (.bool true)], args := [d] }
  | _ => none }
def fnNeedMoreRow : OpenClaim := { program := "ytgibncpgdbldnaa", sum := "13b607bb010b47f46d58ee5aefe69cd218ac3c297c4ad4d6269258c37d05c205", func := "loop.example/firingnets/laws.FnNeedMore", spec := "fnNeedMore", unfollowed := true, recurses := true, apart := false }
def FnNeedMoreSaid : Prop := fnNeedMoreRow.holds Try.pinned (OpenSpec.ofChange fnNeedMoreSpec)

/-- ITS FALSE NEIGHBOUR: 'it returns false'. Refute it at one input. -/
def fnNeedMoreWrong : ChangeSpec := { name := "fnNeedMore", fn := fun _ => fun
  | [d] => { results := [.lit (.bool false)], args := [d] }
  | _ => none }
def FnNeedMoreWrongFalsely : Prop := fnNeedMoreRow.holds Try.pinned (OpenSpec.ofChange fnNeedMoreWrong)

/- THE SECOND FORM. 'bulk': how many values and letters a reading holds, each counted each time it is reached (what is shared counts as often as it is met; a slice's spare places count too). A statement '..UptoSaid' is the law's where the arguments, and the package variables that the reading takes, are together of bulk at most 1048576: NARROWER than '..Said'. Prove '..Said' where nothing that the law and all that it calls make is longer than what came in: it says more and counts as full. Else prove '..UptoSaid'. A law counts once. -/
mutual
def uptoBulk {H : Type} : DataW H → Nat
  | .lit (.string bytes) => bytes.length + 1
  | .lit _ => 1
  | .nil => 1
  | .ptr d => uptoBulk d + 1
  | .slice elems spare => uptoBulkAll elems + uptoBulkAll spare + 1
  | .agg parts => uptoBulkAll parts + 1
  | .iface _ d => uptoBulk d + 1
  | .map entries => uptoBulkEntries entries + 1
  | .held _ => 1
def uptoBulkAll {H : Type} : List (DataW H) → Nat
  | [] => 0
  | d :: r => uptoBulk d + uptoBulkAll r
def uptoBulkEntries {H : Type} : List (Lit × DataW H) → Nat
  | [] => 0
  | x :: r => uptoBulkEntry x + uptoBulkEntries r
def uptoBulkEntry {H : Type} : Lit × DataW H → Nat
  | (.string bytes, d) => bytes.length + uptoBulk d + 1
  | (_, d) => uptoBulk d + 1
 end
def uptoSmall : (H : Type) → List (DataW H) → Bool := fun _ ds => decide (uptoBulkAll ds ≤ 1048576)
def OpenSpec.upto (s : _root_.Go.ChangeSpec) : _root_.Go.OpenSpec := { _root_.Go.OpenSpec.ofChange s with cond := some uptoSmall }

/-- 'laws.FnNeedsOk', WHERE WHAT IT READS IS OF BULK AT MOST 1048576: true; the input reads as it did. -/
def fnNeedsOkUptoRow : OpenClaim := { program := "ytgibncpgdbldnaa", sum := "13b607bb010b47f46d58ee5aefe69cd218ac3c297c4ad4d6269258c37d05c205", func := "loop.example/firingnets/laws.FnNeedsOk", spec := "fnNeedsOk", apart := false, narrowed := true }
def FnNeedsOkUptoSaid : Prop := fnNeedsOkUptoRow.holds Try.pinned (OpenSpec.upto fnNeedsOkSpec)

/-- 'laws.FnNeedStep', WHERE WHAT IT READS IS OF BULK AT MOST 1048576: true; the input reads as it did. -/
def fnNeedStepUptoRow : OpenClaim := { program := "ytgibncpgdbldnaa", sum := "13b607bb010b47f46d58ee5aefe69cd218ac3c297c4ad4d6269258c37d05c205", func := "loop.example/firingnets/laws.FnNeedStep", spec := "fnNeedStep", apart := false, narrowed := true }
def FnNeedStepUptoSaid : Prop := fnNeedStepUptoRow.holds Try.pinned (OpenSpec.upto fnNeedStepSpec)

/-- 'laws.FnSpreadSet', WHERE WHAT IT READS IS OF BULK AT MOST 1048576: true; the input reads as it did. -/
def fnSpreadSetUptoRow : OpenClaim := { program := "ytgibncpgdbldnaa", sum := "13b607bb010b47f46d58ee5aefe69cd218ac3c297c4ad4d6269258c37d05c205", func := "loop.example/firingnets/laws.FnSpreadSet", spec := "fnSpreadSet", unfollowed := true, recurses := true, apart := false, narrowed := true }
def FnSpreadSetUptoSaid : Prop := fnSpreadSetUptoRow.holds Try.pinned (OpenSpec.upto fnSpreadSetSpec)

/-- 'laws.FnLeastSpark', WHERE WHAT IT READS IS OF BULK AT MOST 1048576: true; the input reads as it did. -/
def fnLeastSparkUptoRow : OpenClaim := { program := "ytgibncpgdbldnaa", sum := "13b607bb010b47f46d58ee5aefe69cd218ac3c297c4ad4d6269258c37d05c205", func := "loop.example/firingnets/laws.FnLeastSpark", spec := "fnLeastSpark", unfollowed := true, recurses := true, apart := false, narrowed := true }
def FnLeastSparkUptoSaid : Prop := fnLeastSparkUptoRow.holds Try.pinned (OpenSpec.upto fnLeastSparkSpec)

/-- 'laws.FnOneByOne', WHERE WHAT IT READS IS OF BULK AT MOST 1048576: true; the input reads as it did. -/
def fnOneByOneUptoRow : OpenClaim := { program := "ytgibncpgdbldnaa", sum := "13b607bb010b47f46d58ee5aefe69cd218ac3c297c4ad4d6269258c37d05c205", func := "loop.example/firingnets/laws.FnOneByOne", spec := "fnOneByOne", unfollowed := true, recurses := true, apart := false, narrowed := true }
def FnOneByOneUptoSaid : Prop := fnOneByOneUptoRow.holds Try.pinned (OpenSpec.upto fnOneByOneSpec)

/-- 'laws.FnNeedRun', WHERE WHAT IT READS IS OF BULK AT MOST 1048576: true; the input reads as it did. -/
def fnNeedRunUptoRow : OpenClaim := { program := "ytgibncpgdbldnaa", sum := "13b607bb010b47f46d58ee5aefe69cd218ac3c297c4ad4d6269258c37d05c205", func := "loop.example/firingnets/laws.FnNeedRun", spec := "fnNeedRun", unfollowed := true, recurses := true, apart := false, narrowed := true }
def FnNeedRunUptoSaid : Prop := fnNeedRunUptoRow.holds Try.pinned (OpenSpec.upto fnNeedRunSpec)

/-- 'laws.FnSpreadWave', WHERE WHAT IT READS IS OF BULK AT MOST 1048576: true; the input reads as it did. -/
def fnSpreadWaveUptoRow : OpenClaim := { program := "ytgibncpgdbldnaa", sum := "13b607bb010b47f46d58ee5aefe69cd218ac3c297c4ad4d6269258c37d05c205", func := "loop.example/firingnets/laws.FnSpreadWave", spec := "fnSpreadWave", unfollowed := true, recurses := true, apart := false, narrowed := true }
def FnSpreadWaveUptoSaid : Prop := fnSpreadWaveUptoRow.holds Try.pinned (OpenSpec.upto fnSpreadWaveSpec)

/-- 'laws.FnNeedMore', WHERE WHAT IT READS IS OF BULK AT MOST 1048576: true; the input reads as it did. -/
def fnNeedMoreUptoRow : OpenClaim := { program := "ytgibncpgdbldnaa", sum := "13b607bb010b47f46d58ee5aefe69cd218ac3c297c4ad4d6269258c37d05c205", func := "loop.example/firingnets/laws.FnNeedMore", spec := "fnNeedMore", unfollowed := true, recurses := true, apart := false, narrowed := true }
def FnNeedMoreUptoSaid : Prop := fnNeedMoreUptoRow.holds Try.pinned (OpenSpec.upto fnNeedMoreSpec)

end Rows
end Go.Proofs.Ytgibncpgdbldnaa
