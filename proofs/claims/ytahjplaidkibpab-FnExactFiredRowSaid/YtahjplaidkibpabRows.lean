/-
  No cell of these rows narrows 'for every input' (looked for: loops, veiled, ifaces, maps, wideKeys, modest, calm, conditions, laid).
  DERIVED. THE GIVEN ROWS OF THIS SEAT. 5 by the template 'for every input the law returns true; each argument reads behind the call as it read before'; 0 by the template 'total and deterministic' (their statements: YtahjplaidkibpabTotals.lean).
  GIVEN WITH THE SEED: the statements are not yours to turn. If you find one false, say at which input.
  Laid BY PROGRAM, IN A SANDBOX (cutbox-rows.mjs): the forced cells as the released guide's own fill.sh prints them over the translation d971b0b097a21606… (all of the seat's roots in one cut). By AI agents, Wed Nov 11 2026. No macro, syntax, notation, axiom, sorry.
-/
import Derived.Test.YtahjplaidkibpabChecked
import GoSem.Claim
import GoSem.ClaimJoined
import GoSem.ClaimMapViews
import Derived.JoinedTies
import Derived.KernelRfl
namespace Go.Proofs.Ytahjplaidkibpab
/- THE CELL 'sum', in the pinned program and in every row, IS THE sha256 OF THE DUMP (.gsa) THAT YtahjplaidkibpabProg.lean LOADS. Nothing in Lean hashes anything: it is a label: what it is worth is what the hold of that sum in a sandbox is worth. -/
noncomputable def Try.pinned : Pinned := { name := "ytahjplaidkibpab", sum := "d971b0b097a216065a502a023d0c0a7da534f78c8895ac6f0909805cdb8300c4", checked := Try.checked }
namespace Rows
def none {H : Type} : Left H := { results := [], args := [] }

/-- 'laws.FnExactFireStep': WHATEVER THE INPUT: true; the input reads as it did. -/
def fnExactFireStepSpec : ChangeSpec := { name := "fnExactFireStep", fn := fun _ => fun
  | [d1, d2, d3] => { results := [.lit (.bool true)], args := [d1, d2, d3] }
  | _ => none }
def fnExactFireStepRow : OpenClaim := { program := "ytahjplaidkibpab", sum := "d971b0b097a216065a502a023d0c0a7da534f78c8895ac6f0909805cdb8300c4", func := "loop.example/firingnets/laws.FnExactFireStep", spec := "fnExactFireStep", apart := false }
def FnExactFireStepSaid : Prop := fnExactFireStepRow.holds Try.pinned (OpenSpec.ofChange fnExactFireStepSpec)

/-- ITS FALSE NEIGHBOUR: 'it returns false'. Refute it at one input. -/
def fnExactFireStepWrong : ChangeSpec := { name := "fnExactFireStep", fn := fun _ => fun
  | [d1, d2, d3] => { results := [.lit (.bool false)], args := [d1, d2, d3] }
  | _ => none }
def FnExactFireStepWrongFalsely : Prop := fnExactFireStepRow.holds Try.pinned (OpenSpec.ofChange fnExactFireStepWrong)

/-- 'laws.FnExactFireRun': WHATEVER THE INPUT: true; the input reads as it did. -/
def fnExactFireRunSpec : ChangeSpec := { name := "fnExactFireRun", fn := fun _ => fun
  | [d1, d2, d3, d4] => { results := [.lit (.bool true)], args := [d1, d2, d3, d4] }
  | _ => none }
def fnExactFireRunRow : OpenClaim := { program := "ytahjplaidkibpab", sum := "d971b0b097a216065a502a023d0c0a7da534f78c8895ac6f0909805cdb8300c4", func := "loop.example/firingnets/laws.FnExactFireRun", spec := "fnExactFireRun", unfollowed := true, recurses := true, apart := false }
def FnExactFireRunSaid : Prop := fnExactFireRunRow.holds Try.pinned (OpenSpec.ofChange fnExactFireRunSpec)

/-- ITS FALSE NEIGHBOUR: 'it returns false'. Refute it at one input. -/
def fnExactFireRunWrong : ChangeSpec := { name := "fnExactFireRun", fn := fun _ => fun
  | [d1, d2, d3, d4] => { results := [.lit (.bool false)], args := [d1, d2, d3, d4] }
  | _ => none }
def FnExactFireRunWrongFalsely : Prop := fnExactFireRunRow.holds Try.pinned (OpenSpec.ofChange fnExactFireRunWrong)

/-- 'laws.FnExactFiredRow': WHATEVER THE INPUT: true; the input reads as it did. -/
def fnExactFiredRowSpec : ChangeSpec := { name := "fnExactFiredRow", fn := fun _ => fun
  | [d1, d2, d3, d4] => { results := [.lit (.bool true)], args := [d1, d2, d3, d4] }
  | _ => none }
def fnExactFiredRowRow : OpenClaim := { program := "ytahjplaidkibpab", sum := "d971b0b097a216065a502a023d0c0a7da534f78c8895ac6f0909805cdb8300c4", func := "loop.example/firingnets/laws.FnExactFiredRow", spec := "fnExactFiredRow", unfollowed := true, recurses := true, apart := false }
def FnExactFiredRowSaid : Prop := fnExactFiredRowRow.holds Try.pinned (OpenSpec.ofChange fnExactFiredRowSpec)

/-- ITS FALSE NEIGHBOUR: 'it returns false'. Refute it at one input. -/
def fnExactFiredRowWrong : ChangeSpec := { name := "fnExactFiredRow", fn := fun _ => fun
  | [d1, d2, d3, d4] => { results := [.lit (.bool false)], args := [d1, d2, d3, d4] }
  | _ => none }
def FnExactFiredRowWrongFalsely : Prop := fnExactFiredRowRow.holds Try.pinned (OpenSpec.ofChange fnExactFiredRowWrong)

/-- 'laws.FnExactLoopOf': WHATEVER THE INPUT: true; the input reads as it did. -/
def fnExactLoopOfSpec : ChangeSpec := { name := "fnExactLoopOf", fn := fun _ => fun
  | [d1, d2, d3] => { results := [.lit (.bool true)], args := [d1, d2, d3] }
  | _ => none }
def fnExactLoopOfRow : OpenClaim := { program := "ytahjplaidkibpab", sum := "d971b0b097a216065a502a023d0c0a7da534f78c8895ac6f0909805cdb8300c4", func := "loop.example/firingnets/laws.FnExactLoopOf", spec := "fnExactLoopOf", unfollowed := true, recurses := true, apart := false }
def FnExactLoopOfSaid : Prop := fnExactLoopOfRow.holds Try.pinned (OpenSpec.ofChange fnExactLoopOfSpec)

/-- ITS FALSE NEIGHBOUR: 'it returns false'. Refute it at one input. -/
def fnExactLoopOfWrong : ChangeSpec := { name := "fnExactLoopOf", fn := fun _ => fun
  | [d1, d2, d3] => { results := [.lit (.bool false)], args := [d1, d2, d3] }
  | _ => none }
def FnExactLoopOfWrongFalsely : Prop := fnExactLoopOfRow.holds Try.pinned (OpenSpec.ofChange fnExactLoopOfWrong)

/-- 'laws.FnExactEndsAt': WHATEVER THE INPUT: true; the input reads as it did. -/
def fnExactEndsAtSpec : ChangeSpec := { name := "fnExactEndsAt", fn := fun _ => fun
  | [d1, d2, d3] => { results := [.lit (.bool true)], args := [d1, d2, d3] }
  | _ => none }
def fnExactEndsAtRow : OpenClaim := { program := "ytahjplaidkibpab", sum := "d971b0b097a216065a502a023d0c0a7da534f78c8895ac6f0909805cdb8300c4", func := "loop.example/firingnets/laws.FnExactEndsAt", spec := "fnExactEndsAt", unfollowed := true, recurses := true, apart := false }
def FnExactEndsAtSaid : Prop := fnExactEndsAtRow.holds Try.pinned (OpenSpec.ofChange fnExactEndsAtSpec)

/-- ITS FALSE NEIGHBOUR: 'it returns false'. Refute it at one input. -/
def fnExactEndsAtWrong : ChangeSpec := { name := "fnExactEndsAt", fn := fun _ => fun
  | [d1, d2, d3] => { results := [.lit (.bool false)], args := [d1, d2, d3] }
  | _ => none }
def FnExactEndsAtWrongFalsely : Prop := fnExactEndsAtRow.holds Try.pinned (OpenSpec.ofChange fnExactEndsAtWrong)

/- THE SECOND FORM. 'bulk': how many values and letters a reading holds, each counted each time it is reached (what is shared counts as often as it is met; a slice's spare places count too). A statement '..UptoSaid' is the law's where the arguments, and the package variables that the reading takes, are together of bulk at most 1048576: NARROWER than '..Said'. Prove '..Said' where nothing that the law and all that it calls make is longer than what came in: it says more and counts as full. Else prove '..UptoSaid'. A law counts once. -/
mutual
def uptoBulk {H : Type} : DataW H → Nat
  | .lit (.string bytes) => bytes.length + 1
  | .lit _ => 1
  | .nil => 1
  | .ptr d => uptoBulk d + 1
  | .slice elems spare => uptoBulkAll elems + uptoBulkAll spare + 1
  | .agg parts => uptoBulkAll parts + 1
  | .iface _ d => uptoBulk d + 1
  | .map entries => uptoBulkEntries entries + 1
  | .held _ => 1
def uptoBulkAll {H : Type} : List (DataW H) → Nat
  | [] => 0
  | d :: r => uptoBulk d + uptoBulkAll r
def uptoBulkEntries {H : Type} : List (Lit × DataW H) → Nat
  | [] => 0
  | x :: r => uptoBulkEntry x + uptoBulkEntries r
def uptoBulkEntry {H : Type} : Lit × DataW H → Nat
  | (.string bytes, d) => bytes.length + uptoBulk d + 1
  | (_, d) => uptoBulk d + 1
 end
def uptoSmall : (H : Type) → List (DataW H) → Bool := fun _ ds => decide (uptoBulkAll ds ≤ 1048576)
def OpenSpec.upto (s : _root_.Go.ChangeSpec) : _root_.Go.OpenSpec := { _root_.Go.OpenSpec.ofChange s with cond := some uptoSmall }

/-- 'laws.FnExactFireStep', WHERE WHAT IT READS IS OF BULK AT MOST 1048576: true; the input reads as it did. -/
def fnExactFireStepUptoRow : OpenClaim := { program := "ytahjplaidkibpab", sum := "d971b0b097a216065a502a023d0c0a7da534f78c8895ac6f0909805cdb8300c4", func := "loop.example/firingnets/laws.FnExactFireStep", spec := "fnExactFireStep", apart := false, narrowed := true }
def FnExactFireStepUptoSaid : Prop := fnExactFireStepUptoRow.holds Try.pinned (OpenSpec.upto fnExactFireStepSpec)

/-- 'laws.FnExactFireRun', WHERE WHAT IT READS IS OF BULK AT MOST 1048576: true; the input reads as it did. -/
def fnExactFireRunUptoRow : OpenClaim := { program := "ytahjplaidkibpab", sum := "d971b0b097a216065a502a023d0c0a7da534f78c8895ac6f0909805cdb8300c4", func := "loop.example/firingnets/laws.FnExactFireRun", spec := "fnExactFireRun", unfollowed := true, recurses := true, apart := false, narrowed := true }
def FnExactFireRunUptoSaid : Prop := fnExactFireRunUptoRow.holds Try.pinned (OpenSpec.upto fnExactFireRunSpec)

/-- 'laws.FnExactFiredRow', WHERE WHAT IT READS IS OF BULK AT MOST 1048576: true; the input reads as it did. -/
def fnExactFiredRowUptoRow : OpenClaim := { program := "ytahjplaidkibpab", sum := "d971b0b097a216065a502a023d0c0a7da534f78c8895ac6f0909805cdb8300c4", func := "loop.example/firingnets/laws.FnExactFiredRow", spec := "fnExactFiredRow", unfollowed := true, recurses := true, apart := false, narrowed := true }
def FnExactFiredRowUptoSaid : Prop := fnExactFiredRowUptoRow.holds Try.pinned (OpenSpec.upto fnExactFiredRowSpec)

/-- 'laws.FnExactLoopOf', WHERE WHAT IT READS IS OF BULK AT MOST 1048576: true; the input reads as it did. -/
def fnExactLoopOfUptoRow : OpenClaim := { program := "ytahjplaidkibpab", sum := "d971b0b097a216065a502a023d0c0a7da534f78c8895ac6f0909805cdb8300c4", func := "loop.example/firingnets/laws.FnExactLoopOf", spec := "fnExactLoopOf", unfollowed := true, recurses := true, apart := false, narrowed := true }
def FnExactLoopOfUptoSaid : Prop := fnExactLoopOfUptoRow.holds Try.pinned (OpenSpec.upto fnExactLoopOfSpec)

/-- 'laws.FnExactEndsAt', WHERE WHAT IT READS IS OF BULK AT MOST 1048576: true; the input reads as it did. -/
def fnExactEndsAtUptoRow : OpenClaim := { program := "ytahjplaidkibpab", sum := "d971b0b097a216065a502a023d0c0a7da534f78c8895ac6f0909805cdb8300c4", func := "loop.example/firingnets/laws.FnExactEndsAt", spec := "fnExactEndsAt", unfollowed := true, recurses := true, apart := false, narrowed := true }
def FnExactEndsAtUptoSaid : Prop := fnExactEndsAtUptoRow.holds Try.pinned (OpenSpec.upto fnExactEndsAtSpec)

end Rows
end Go.Proofs.Ytahjplaidkibpab
