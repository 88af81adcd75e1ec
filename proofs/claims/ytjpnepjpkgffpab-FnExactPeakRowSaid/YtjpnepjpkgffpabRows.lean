/-
  No cell of these rows narrows 'for every input' (looked for: loops, veiled, ifaces, maps, wideKeys, modest, calm, conditions, laid).
  DERIVED. THE GIVEN ROWS OF THIS SEAT. 5 by the template 'for every input the law returns true; each argument reads behind the call as it read before'; 0 by the template 'total and deterministic' (their statements: YtjpnepjpkgffpabTotals.lean).
  GIVEN WITH THE SEED: the statements are not yours to turn. If you find one false, say at which input.
  Laid BY PROGRAM, IN A SANDBOX (cutbox-rows.mjs): the forced cells as the released guide's own fill.sh prints them over the translation ebe7bb68b1a70313… (all of the seat's roots in one cut). By AI agents, Wed Nov 11 2026. No macro, syntax, notation, axiom, sorry.
-/
import Derived.Test.YtjpnepjpkgffpabChecked
import GoSem.Claim
import GoSem.ClaimJoined
import GoSem.ClaimMapViews
import Derived.JoinedTies
import Derived.KernelRfl
namespace Go.Proofs.Ytjpnepjpkgffpab
/- THE CELL 'sum', in the pinned program and in every row, IS THE sha256 OF THE DUMP (.gsa) THAT YtjpnepjpkgffpabProg.lean LOADS. Nothing in Lean hashes anything: it is a label: what it is worth is what the hold of that sum in a sandbox is worth. -/
noncomputable def Try.pinned : Pinned := { name := "ytjpnepjpkgffpab", sum := "ebe7bb68b1a70313bf70adf3b6d695aaa1bc37ecffcebe1cc801ce24a7ae218b", checked := Try.checked }
namespace Rows
def none {H : Type} : Left H := { results := [], args := [] }

/-- 'laws.FnExactWindingOf': WHATEVER THE INPUT: true; the input reads as it did. -/
def fnExactWindingOfSpec : ChangeSpec := { name := "fnExactWindingOf", fn := fun _ => fun
  | [d1, d2, d3] => { results := [.lit (.bool true)], args := [d1, d2, d3] }
  | _ => none }
def fnExactWindingOfRow : OpenClaim := { program := "ytjpnepjpkgffpab", sum := "ebe7bb68b1a70313bf70adf3b6d695aaa1bc37ecffcebe1cc801ce24a7ae218b", func := "loop.example/firingnets/laws.FnExactWindingOf", spec := "fnExactWindingOf", apart := false }
def FnExactWindingOfSaid : Prop := fnExactWindingOfRow.holds Try.pinned (OpenSpec.ofChange fnExactWindingOfSpec)

/-- ITS FALSE NEIGHBOUR: 'it returns false'. Refute it at one input. -/
def fnExactWindingOfWrong : ChangeSpec := { name := "fnExactWindingOf", fn := fun _ => fun
  | [d1, d2, d3] => { results := [.lit (.bool false)], args := [d1, d2, d3] }
  | _ => none }
def FnExactWindingOfWrongFalsely : Prop := fnExactWindingOfRow.holds Try.pinned (OpenSpec.ofChange fnExactWindingOfWrong)

/-- 'laws.FnExactHeightRow': WHATEVER THE INPUT: true; the input reads as it did. -/
def fnExactHeightRowSpec : ChangeSpec := { name := "fnExactHeightRow", fn := fun _ => fun
  | [d1, d2] => { results := [.lit (.bool true)], args := [d1, d2] }
  | _ => none }
def fnExactHeightRowRow : OpenClaim := { program := "ytjpnepjpkgffpab", sum := "ebe7bb68b1a70313bf70adf3b6d695aaa1bc37ecffcebe1cc801ce24a7ae218b", func := "loop.example/firingnets/laws.FnExactHeightRow", spec := "fnExactHeightRow", apart := false }
def FnExactHeightRowSaid : Prop := fnExactHeightRowRow.holds Try.pinned (OpenSpec.ofChange fnExactHeightRowSpec)

/-- ITS FALSE NEIGHBOUR: 'it returns false'. Refute it at one input. -/
def fnExactHeightRowWrong : ChangeSpec := { name := "fnExactHeightRow", fn := fun _ => fun
  | [d1, d2] => { results := [.lit (.bool false)], args := [d1, d2] }
  | _ => none }
def FnExactHeightRowWrongFalsely : Prop := fnExactHeightRowRow.holds Try.pinned (OpenSpec.ofChange fnExactHeightRowWrong)

/-- 'laws.FnExactFlatOk': WHATEVER THE INPUT: true; the input reads as it did. -/
def fnExactFlatOkSpec : ChangeSpec := { name := "fnExactFlatOk", fn := fun _ => fun
  | [d1, d2] => { results := [.lit (.bool true)], args := [d1, d2] }
  | _ => none }
def fnExactFlatOkRow : OpenClaim := { program := "ytjpnepjpkgffpab", sum := "ebe7bb68b1a70313bf70adf3b6d695aaa1bc37ecffcebe1cc801ce24a7ae218b", func := "loop.example/firingnets/laws.FnExactFlatOk", spec := "fnExactFlatOk", apart := false }
def FnExactFlatOkSaid : Prop := fnExactFlatOkRow.holds Try.pinned (OpenSpec.ofChange fnExactFlatOkSpec)

/-- ITS FALSE NEIGHBOUR: 'it returns false'. Refute it at one input. -/
def fnExactFlatOkWrong : ChangeSpec := { name := "fnExactFlatOk", fn := fun _ => fun
  | [d1, d2] => { results := [.lit (.bool false)], args := [d1, d2] }
  | _ => none }
def FnExactFlatOkWrongFalsely : Prop := fnExactFlatOkRow.holds Try.pinned (OpenSpec.ofChange fnExactFlatOkWrong)

/-- 'laws.FnExactStandsAt': WHATEVER THE INPUT: true; the input reads as it did. -/
def fnExactStandsAtSpec : ChangeSpec := { name := "fnExactStandsAt", fn := fun _ => fun
  | [d1, d2] => { results := [.lit (.bool true)], args := [d1, d2] }
  | _ => none }
def fnExactStandsAtRow : OpenClaim := { program := "ytjpnepjpkgffpab", sum := "ebe7bb68b1a70313bf70adf3b6d695aaa1bc37ecffcebe1cc801ce24a7ae218b", func := "loop.example/firingnets/laws.FnExactStandsAt", spec := "fnExactStandsAt", unfollowed := true, recurses := true, apart := false }
def FnExactStandsAtSaid : Prop := fnExactStandsAtRow.holds Try.pinned (OpenSpec.ofChange fnExactStandsAtSpec)

/-- ITS FALSE NEIGHBOUR: 'it returns false'. Refute it at one input. -/
def fnExactStandsAtWrong : ChangeSpec := { name := "fnExactStandsAt", fn := fun _ => fun
  | [d1, d2] => { results := [.lit (.bool false)], args := [d1, d2] }
  | _ => none }
def FnExactStandsAtWrongFalsely : Prop := fnExactStandsAtRow.holds Try.pinned (OpenSpec.ofChange fnExactStandsAtWrong)

/-- 'laws.FnExactPeakRow': WHATEVER THE INPUT: true; the input reads as it did. -/
def fnExactPeakRowSpec : ChangeSpec := { name := "fnExactPeakRow", fn := fun _ => fun
  | [d1, d2] => { results := [.lit (.bool true)], args := [d1, d2] }
  | _ => none }
def fnExactPeakRowRow : OpenClaim := { program := "ytjpnepjpkgffpab", sum := "ebe7bb68b1a70313bf70adf3b6d695aaa1bc37ecffcebe1cc801ce24a7ae218b", func := "loop.example/firingnets/laws.FnExactPeakRow", spec := "fnExactPeakRow", unfollowed := true, recurses := true, apart := false }
def FnExactPeakRowSaid : Prop := fnExactPeakRowRow.holds Try.pinned (OpenSpec.ofChange fnExactPeakRowSpec)

/-- ITS FALSE NEIGHBOUR: 'it returns false'. Refute it at one input. -/
def fnExactPeakRowWrong : ChangeSpec := { name := "fnExactPeakRow", fn := fun _ => fun
  | [d1, d2] => { results := [.lit (.bool false)], args := [d1, d2] }
  | _ => none }
def FnExactPeakRowWrongFalsely : Prop := fnExactPeakRowRow.holds Try.pinned (OpenSpec.ofChange fnExactPeakRowWrong)

/- THE SECOND FORM. 'bulk': how many values and letters a reading holds, each counted each time it is reached (what is shared counts as often as it is met; a slice's spare places count too). A statement '..UptoSaid' is the law's where the arguments, and the package variables that the reading takes, are together of bulk at most 1048576: NARROWER than '..Said'. Prove '..Said' where nothing that the law and all that it calls make is longer than what came in: it says more and counts as full. Else prove '..UptoSaid'. A law counts once. -/
mutual
def uptoBulk {H : Type} : DataW H → Nat
  | .lit (.string bytes) => bytes.length + 1
  | .lit _ => 1
  | .nil => 1
  | .ptr d => uptoBulk d + 1
  | .slice elems spare => uptoBulkAll elems + uptoBulkAll spare + 1
  | .agg parts => uptoBulkAll parts + 1
  | .iface _ d => uptoBulk d + 1
  | .map entries => uptoBulkEntries entries + 1
  | .held _ => 1
def uptoBulkAll {H : Type} : List (DataW H) → Nat
  | [] => 0
  | d :: r => uptoBulk d + uptoBulkAll r
def uptoBulkEntries {H : Type} : List (Lit × DataW H) → Nat
  | [] => 0
  | x :: r => uptoBulkEntry x + uptoBulkEntries r
def uptoBulkEntry {H : Type} : Lit × DataW H → Nat
  | (.string bytes, d) => bytes.length + uptoBulk d + 1
  | (_, d) => uptoBulk d + 1
 end
def uptoSmall : (H : Type) → List (DataW H) → Bool := fun _ ds => decide (uptoBulkAll ds ≤ 1048576)
def OpenSpec.upto (s : _root_.Go.ChangeSpec) : _root_.Go.OpenSpec := { _root_.Go.OpenSpec.ofChange s with cond := some uptoSmall }

/-- 'laws.FnExactWindingOf', WHERE WHAT IT READS IS OF BULK AT MOST 1048576: true; the input reads as it did. -/
def fnExactWindingOfUptoRow : OpenClaim := { program := "ytjpnepjpkgffpab", sum := "ebe7bb68b1a70313bf70adf3b6d695aaa1bc37ecffcebe1cc801ce24a7ae218b", func := "loop.example/firingnets/laws.FnExactWindingOf", spec := "fnExactWindingOf", apart := false, narrowed := true }
def FnExactWindingOfUptoSaid : Prop := fnExactWindingOfUptoRow.holds Try.pinned (OpenSpec.upto fnExactWindingOfSpec)

/-- 'laws.FnExactHeightRow', WHERE WHAT IT READS IS OF BULK AT MOST 1048576: true; the input reads as it did. -/
def fnExactHeightRowUptoRow : OpenClaim := { program := "ytjpnepjpkgffpab", sum := "ebe7bb68b1a70313bf70adf3b6d695aaa1bc37ecffcebe1cc801ce24a7ae218b", func := "loop.example/firingnets/laws.FnExactHeightRow", spec := "fnExactHeightRow", apart := false, narrowed := true }
def FnExactHeightRowUptoSaid : Prop := fnExactHeightRowUptoRow.holds Try.pinned (OpenSpec.upto fnExactHeightRowSpec)

/-- 'laws.FnExactFlatOk', WHERE WHAT IT READS IS OF BULK AT MOST 1048576: true; the input reads as it did. -/
def fnExactFlatOkUptoRow : OpenClaim := { program := "ytjpnepjpkgffpab", sum := "ebe7bb68b1a70313bf70adf3b6d695aaa1bc37ecffcebe1cc801ce24a7ae218b", func := "loop.example/firingnets/laws.FnExactFlatOk", spec := "fnExactFlatOk", apart := false, narrowed := true }
def FnExactFlatOkUptoSaid : Prop := fnExactFlatOkUptoRow.holds Try.pinned (OpenSpec.upto fnExactFlatOkSpec)

/-- 'laws.FnExactStandsAt', WHERE WHAT IT READS IS OF BULK AT MOST 1048576: true; the input reads as it did. -/
def fnExactStandsAtUptoRow : OpenClaim := { program := "ytjpnepjpkgffpab", sum := "ebe7bb68b1a70313bf70adf3b6d695aaa1bc37ecffcebe1cc801ce24a7ae218b", func := "loop.example/firingnets/laws.FnExactStandsAt", spec := "fnExactStandsAt", unfollowed := true, recurses := true, apart := false, narrowed := true }
def FnExactStandsAtUptoSaid : Prop := fnExactStandsAtUptoRow.holds Try.pinned (OpenSpec.upto fnExactStandsAtSpec)

/-- 'laws.FnExactPeakRow', WHERE WHAT IT READS IS OF BULK AT MOST 1048576: true; the input reads as it did. -/
def fnExactPeakRowUptoRow : OpenClaim := { program := "ytjpnepjpkgffpab", sum := "ebe7bb68b1a70313bf70adf3b6d695aaa1bc37ecffcebe1cc801ce24a7ae218b", func := "loop.example/firingnets/laws.FnExactPeakRow", spec := "fnExactPeakRow", unfollowed := true, recurses := true, apart := false, narrowed := true }
def FnExactPeakRowUptoSaid : Prop := fnExactPeakRowUptoRow.holds Try.pinned (OpenSpec.upto fnExactPeakRowSpec)

end Rows
end Go.Proofs.Ytjpnepjpkgffpab
