/-
  No cell of these rows narrows 'for every input' (looked for: loops, veiled, ifaces, maps, wideKeys, modest, calm, conditions, laid).
  DERIVED. THE GIVEN ROWS OF THIS SEAT. 8 by the template 'for every input the law returns true; each argument reads behind the call as it read before'; 0 by the template 'total and deterministic' (their statements: YtahjplaidkibpaaTotals.lean).
  GIVEN WITH THE SEED: the statements are not yours to turn. If you find one false, say at which input.
  Laid BY PROGRAM, IN A SANDBOX (cutbox-rows.mjs): the forced cells as the released guide's own fill.sh prints them over the translation 2a7cacab4c7c2c38… (all of the seat's roots in one cut). By AI agents, Wed Nov 11 2026. No macro, syntax, notation, axiom, sorry.
-/
import Derived.Test.YtahjplaidkibpaaChecked
import GoSem.Claim
import GoSem.ClaimJoined
import GoSem.ClaimMapViews
import Derived.JoinedTies
import Derived.KernelRfl
namespace Go.Proofs.Ytahjplaidkibpaa
/- THE CELL 'sum', in the pinned program and in every row, IS THE sha256 OF THE DUMP (.gsa) THAT YtahjplaidkibpaaProg.lean LOADS. Nothing in Lean hashes anything: it is a label: what it is worth is what the hold of that sum in a sandbox is worth. -/
noncomputable def Try.pinned : Pinned := { name := "ytahjplaidkibpaa", sum := "2a7cacab4c7c2c387ce74bea9ce39b735274448ebfe632dbbedb95d8283274fd", checked := Try.checked }
namespace Rows
def none {H : Type} : Left H := { results := [], args := [] }

/-- 'laws.FnFireStep': WHATEVER THE INPUT: true; the input reads as it did. -/
def fnFireStepSpec : ChangeSpec := { name := "fnFireStep", fn := fun _ => fun
  | [d1, d2] => { results := [.lit (.bool true)], args := [d1, d2] }
  | _ => none }
def fnFireStepRow : OpenClaim := { program := "ytahjplaidkibpaa", sum := "2a7cacab4c7c2c387ce74bea9ce39b735274448ebfe632dbbedb95d8283274fd", func := "loop.example/firingnets/laws.FnFireStep", spec := "fnFireStep", apart := false }
def FnFireStepSaid : Prop := fnFireStepRow.holds Try.pinned (OpenSpec.ofChange fnFireStepSpec)

/-- ITS FALSE NEIGHBOUR: 'it returns false'. Refute it at one input. -/
def fnFireStepWrong : ChangeSpec := { name := "fnFireStep", fn := fun _ => fun
  | [d1, d2] => { results := [.lit (.bool false)], args := [d1, d2] }
  | _ => none }
def FnFireStepWrongFalsely : Prop := fnFireStepRow.holds Try.pinned (OpenSpec.ofChange fnFireStepWrong)

/-- 'laws.FnFireRun': WHATEVER THE INPUT: true; the input reads as it did. -/
def fnFireRunSpec : ChangeSpec := { name := "fnFireRun", fn := fun _ => fun
  | [d] => { results := [.lit (.bool true)], args := [d] }
  | _ => none }
def fnFireRunRow : OpenClaim := { program := "ytahjplaidkibpaa", sum := "2a7cacab4c7c2c387ce74bea9ce39b735274448ebfe632dbbedb95d8283274fd", func := "loop.example/firingnets/laws.FnFireRun", spec := "fnFireRun", unfollowed := true, recurses := true, apart := false }
def FnFireRunSaid : Prop := fnFireRunRow.holds Try.pinned (OpenSpec.ofChange fnFireRunSpec)

/-- ITS FALSE NEIGHBOUR: 'it returns false'. Refute it at one input. -/
def fnFireRunWrong : ChangeSpec := { name := "fnFireRun", fn := fun _ => fun
  | [d] => { results := [.lit (.bool false)], args := [d] }
  | _ => none }
def FnFireRunWrongFalsely : Prop := fnFireRunRow.holds Try.pinned (OpenSpec.ofChange fnFireRunWrong)

/-- 'laws.FnFiredRow': WHATEVER THE INPUT: true; the input reads as it did. -/
def fnFiredRowSpec : ChangeSpec := { name := "fnFiredRow", fn := fun _ => fun
  | [d] => { results := [.lit (.bool true)], args := [d] }
  | _ => none }
def fnFiredRowRow : OpenClaim := { program := "ytahjplaidkibpaa", sum := "2a7cacab4c7c2c387ce74bea9ce39b735274448ebfe632dbbedb95d8283274fd", func := "loop.example/firingnets/laws.FnFiredRow", spec := "fnFiredRow", unfollowed := true, recurses := true, apart := false }
def FnFiredRowSaid : Prop := fnFiredRowRow.holds Try.pinned (OpenSpec.ofChange fnFiredRowSpec)

/-- ITS FALSE NEIGHBOUR: 'it returns false'. Refute it at one input. -/
def fnFiredRowWrong : ChangeSpec := { name := "fnFiredRow", fn := fun _ => fun
  | [d] => { results := [.lit (.bool false)], args := [d] }
  | _ => none }
def FnFiredRowWrongFalsely : Prop := fnFiredRowRow.holds Try.pinned (OpenSpec.ofChange fnFiredRowWrong)

/-- 'laws.FnLoopOf': WHATEVER THE INPUT: true; the input reads as it did. -/
def fnLoopOfSpec : ChangeSpec := { name := "fnLoopOf", fn := fun _ => fun
  | [d] => { results := [.lit (.bool true)], args := [d] }
  | _ => none }
def fnLoopOfRow : OpenClaim := { program := "ytahjplaidkibpaa", sum := "2a7cacab4c7c2c387ce74bea9ce39b735274448ebfe632dbbedb95d8283274fd", func := "loop.example/firingnets/laws.FnLoopOf", spec := "fnLoopOf", unfollowed := true, recurses := true, apart := false }
def FnLoopOfSaid : Prop := fnLoopOfRow.holds Try.pinned (OpenSpec.ofChange fnLoopOfSpec)

/-- ITS FALSE NEIGHBOUR: 'it returns false'. Refute it at one input. -/
def fnLoopOfWrong : ChangeSpec := { name := "fnLoopOf", fn := fun _ => fun
  | [d] => { results := [.lit (.bool false)], args := [d] }
  | _ => none }
def FnLoopOfWrongFalsely : Prop := fnLoopOfRow.holds Try.pinned (OpenSpec.ofChange fnLoopOfWrong)

/-- 'laws.FnEndsAt': WHATEVER THE INPUT: true; the input reads as it did. -/
def fnEndsAtSpec : ChangeSpec := { name := "fnEndsAt", fn := fun _ => fun
  | [d] => { results := [.lit (.bool true)], args := [d] }
  | _ => none }
def fnEndsAtRow : OpenClaim := { program := "ytahjplaidkibpaa", sum := "2a7cacab4c7c2c387ce74bea9ce39b735274448ebfe632dbbedb95d8283274fd", func := "loop.example/firingnets/laws.FnEndsAt", spec := "fnEndsAt", unfollowed := true, recurses := true, apart := false }
def FnEndsAtSaid : Prop := fnEndsAtRow.holds Try.pinned (OpenSpec.ofChange fnEndsAtSpec)

/-- ITS FALSE NEIGHBOUR: 'it returns false'. Refute it at one input. -/
def fnEndsAtWrong : ChangeSpec := { name := "fnEndsAt", fn := fun _ => fun
  | [d] => { results := [.lit (.bool false)], args := [d] }
  | _ => none }
def FnEndsAtWrongFalsely : Prop := fnEndsAtRow.holds Try.pinned (OpenSpec.ofChange fnEndsAtWrong)

/-- 'laws.FnFireParts': WHATEVER THE INPUT: true; the input reads as it did. -/
def fnFirePartsSpec : ChangeSpec := { name := "fnFireParts", fn := fun _ => fun
  | [d] => { results := [.lit (.bool true)], args := [d] }
  | _ => none }
def fnFirePartsRow : OpenClaim := { program := "ytahjplaidkibpaa", sum := "2a7cacab4c7c2c387ce74bea9ce39b735274448ebfe632dbbedb95d8283274fd", func := "loop.example/firingnets/laws.FnFireParts", spec := "fnFireParts", apart := false }
def FnFirePartsSaid : Prop := fnFirePartsRow.holds Try.pinned (OpenSpec.ofChange fnFirePartsSpec)

/-- ITS FALSE NEIGHBOUR: 'it returns false'. Refute it at one input. -/
def fnFirePartsWrong : ChangeSpec := { name := "fnFireParts", fn := fun _ => fun
  | [d] => { results := [.lit (.bool false)], args := [d] }
  | _ => none }
def FnFirePartsWrongFalsely : Prop := fnFirePartsRow.holds Try.pinned (OpenSpec.ofChange fnFirePartsWrong)

/-- 'laws.FnTiredRests': WHATEVER THE INPUT: true; the input reads as it did. -/
def fnTiredRestsSpec : ChangeSpec := { name := "fnTiredRests", fn := fun _ => fun
  | [d] => { results := [.lit (.bool true)], args := [d] }
  | _ => none }
def fnTiredRestsRow : OpenClaim := { program := "ytahjplaidkibpaa", sum := "2a7cacab4c7c2c387ce74bea9ce39b735274448ebfe632dbbedb95d8283274fd", func := "loop.example/firingnets/laws.FnTiredRests", spec := "fnTiredRests", unfollowed := true, recurses := true, apart := false }
def FnTiredRestsSaid : Prop := fnTiredRestsRow.holds Try.pinned (OpenSpec.ofChange fnTiredRestsSpec)

/-- ITS FALSE NEIGHBOUR: 'it returns false'. Refute it at one input. -/
def fnTiredRestsWrong : ChangeSpec := { name := "fnTiredRests", fn := fun _ => fun
  | [d] => { results := [.lit (.bool false)], args := [d] }
  | _ => none }
def FnTiredRestsWrongFalsely : Prop := fnTiredRestsRow.holds Try.pinned (OpenSpec.ofChange fnTiredRestsWrong)

/-- 'laws.FnMoreKinds': WHATEVER THE INPUT: true; the input reads as it did. -/
def fnMoreKindsSpec : ChangeSpec := { name := "fnMoreKinds", fn := fun _ => fun
  | [d] => { results := [.lit (.bool true)], args := [d] }
  | _ => none }
def fnMoreKindsRow : OpenClaim := { program := "ytahjplaidkibpaa", sum := "2a7cacab4c7c2c387ce74bea9ce39b735274448ebfe632dbbedb95d8283274fd", func := "loop.example/firingnets/laws.FnMoreKinds", spec := "fnMoreKinds", apart := false }
def FnMoreKindsSaid : Prop := fnMoreKindsRow.holds Try.pinned (OpenSpec.ofChange fnMoreKindsSpec)

/-- ITS FALSE NEIGHBOUR: 'it returns false'. Refute it at one input. -/
def fnMoreKindsWrong : ChangeSpec := { name := "fnMoreKinds", fn := fun _ => fun
  | [d] => { results := [.lit (.bool false)], args := [d] }
  | _ => none }
def FnMoreKindsWrongFalsely : Prop := fnMoreKindsRow.holds Try.pinned (OpenSpec.ofChange fnMoreKindsWrong)

/- THE SECOND FORM. 'bulk': how many values and letters a reading holds, each counted each time it is reached (what is shared counts as often as it is met; a slice's spare places count too). A statement '..UptoSaid' is the law's where the arguments, and the package variables that the reading takes, are together of bulk at most 1048576: NARROWER than '..Said'. Prove '..Said' where nothing that the law and all that it calls make is longer than what came in: it says more and counts as full. Else prove '..UptoSaid'. A law counts once. -/
mutual
def uptoBulk {H : Type} : DataW H → Nat
  | .lit (.string bytes) => bytes.length + 1
  | .lit _ => 1
  | .nil => 1
  | .ptr d => uptoBulk d + 1
  | .slice elems spare => uptoBulkAll elems + uptoBulkAll spare + 1
  | .agg parts => uptoBulkAll parts + 1
  | .iface _ d => uptoBulk d + 1
  | .map entries => uptoBulkEntries entries + 1
  | .held _ => 1
def uptoBulkAll {H : Type} : List (DataW H) → Nat
  | [] => 0
  | d :: r => uptoBulk d + uptoBulkAll r
def uptoBulkEntries {H : Type} : List (Lit × DataW H) → Nat
  | [] => 0
  | x :: r => uptoBulkEntry x + uptoBulkEntries r
def uptoBulkEntry {H : Type} : Lit × DataW H → Nat
  | (.string bytes, d) => bytes.length + uptoBulk d + 1
  | (_, d) => uptoBulk d + 1
 end
def uptoSmall : (H : Type) → List (DataW H) → Bool := fun _ ds => decide (uptoBulkAll ds ≤ 1048576)
def OpenSpec.upto (s : _root_.Go.ChangeSpec) : _root_.Go.OpenSpec := { _root_.Go.OpenSpec.ofChange s with cond := some uptoSmall }

/-- 'laws.FnFireStep', WHERE WHAT IT READS IS OF BULK AT MOST 1048576: true; the input reads as it did. -/
def fnFireStepUptoRow : OpenClaim := { program := "ytahjplaidkibpaa", sum := "2a7cacab4c7c2c387ce74bea9ce39b735274448ebfe632dbbedb95d8283274fd", func := "loop.example/firingnets/laws.FnFireStep", spec := "fnFireStep", apart := false, narrowed := true }
def FnFireStepUptoSaid : Prop := fnFireStepUptoRow.holds Try.pinned (OpenSpec.upto fnFireStepSpec)

/-- 'laws.FnFireRun', WHERE WHAT IT READS IS OF BULK AT MOST 1048576: true; the input reads as it did. -/
def fnFireRunUptoRow : OpenClaim := { program := "ytahjplaidkibpaa", sum := "2a7cacab4c7c2c387ce74bea9ce39b735274448ebfe632dbbedb95d8283274fd", func := "loop.example/firingnets/laws.FnFireRun", spec := "fnFireRun", unfollowed := true, recurses := true, apart := false, narrowed := true }
def FnFireRunUptoSaid : Prop := fnFireRunUptoRow.holds Try.pinned (OpenSpec.upto fnFireRunSpec)

/-- 'laws.FnFiredRow', WHERE WHAT IT READS IS OF BULK AT MOST 1048576: true; the input reads as it did. -/
def fnFiredRowUptoRow : OpenClaim := { program := "ytahjplaidkibpaa", sum := "2a7cacab4c7c2c387ce74bea9ce39b735274448ebfe632dbbedb95d8283274fd", func := "loop.example/firingnets/laws.FnFiredRow", spec := "fnFiredRow", unfollowed := true, recurses := true, apart := false, narrowed := true }
def FnFiredRowUptoSaid : Prop := fnFiredRowUptoRow.holds Try.pinned (OpenSpec.upto fnFiredRowSpec)

/-- 'laws.FnLoopOf', WHERE WHAT IT READS IS OF BULK AT MOST 1048576: true; the input reads as it did. -/
def fnLoopOfUptoRow : OpenClaim := { program := "ytahjplaidkibpaa", sum := "2a7cacab4c7c2c387ce74bea9ce39b735274448ebfe632dbbedb95d8283274fd", func := "loop.example/firingnets/laws.FnLoopOf", spec := "fnLoopOf", unfollowed := true, recurses := true, apart := false, narrowed := true }
def FnLoopOfUptoSaid : Prop := fnLoopOfUptoRow.holds Try.pinned (OpenSpec.upto fnLoopOfSpec)

/-- 'laws.FnEndsAt', WHERE WHAT IT READS IS OF BULK AT MOST 1048576: true; the input reads as it did. -/
def fnEndsAtUptoRow : OpenClaim := { program := "ytahjplaidkibpaa", sum := "2a7cacab4c7c2c387ce74bea9ce39b735274448ebfe632dbbedb95d8283274fd", func := "loop.example/firingnets/laws.FnEndsAt", spec := "fnEndsAt", unfollowed := true, recurses := true, apart := false, narrowed := true }
def FnEndsAtUptoSaid : Prop := fnEndsAtUptoRow.holds Try.pinned (OpenSpec.upto fnEndsAtSpec)

/-- 'laws.FnFireParts', WHERE WHAT IT READS IS OF BULK AT MOST 1048576: true; the input reads as it did. -/
def fnFirePartsUptoRow : OpenClaim := { program := "ytahjplaidkibpaa", sum := "2a7cacab4c7c2c387ce74bea9ce39b735274448ebfe632dbbedb95d8283274fd", func := "loop.example/firingnets/laws.FnFireParts", spec := "fnFireParts", apart := false, narrowed := true }
def FnFirePartsUptoSaid : Prop := fnFirePartsUptoRow.holds Try.pinned (OpenSpec.upto fnFirePartsSpec)

/-- 'laws.FnTiredRests', WHERE WHAT IT READS IS OF BULK AT MOST 1048576: true; the input reads as it did. -/
def fnTiredRestsUptoRow : OpenClaim := { program := "ytahjplaidkibpaa", sum := "2a7cacab4c7c2c387ce74bea9ce39b735274448ebfe632dbbedb95d8283274fd", func := "loop.example/firingnets/laws.FnTiredRests", spec := "fnTiredRests", unfollowed := true, recurses := true, apart := false, narrowed := true }
def FnTiredRestsUptoSaid : Prop := fnTiredRestsUptoRow.holds Try.pinned (OpenSpec.upto fnTiredRestsSpec)

/-- 'laws.FnMoreKinds', WHERE WHAT IT READS IS OF BULK AT MOST 1048576: true; the input reads as it did. -/
def fnMoreKindsUptoRow : OpenClaim := { program := "ytahjplaidkibpaa", sum := "2a7cacab4c7c2c387ce74bea9ce39b735274448ebfe632dbbedb95d8283274fd", func := "loop.example/firingnets/laws.FnMoreKinds", spec := "fnMoreKinds", apart := false, narrowed := true }
def FnMoreKindsUptoSaid : Prop := fnMoreKindsUptoRow.holds Try.pinned (OpenSpec.upto fnMoreKindsSpec)

end Rows
end Go.Proofs.Ytahjplaidkibpaa
