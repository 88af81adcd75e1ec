/-
  No cell of these rows narrows 'for every input' (looked for: loops, veiled, ifaces, maps, wideKeys, modest, calm, conditions, laid).
  DERIVED. THE GIVEN ROWS OF THIS SEAT. 7 by the template 'for every input the law returns true; each argument reads behind the call as it read before'; 0 by the template 'total and deterministic' (their statements: YtjpnepjpkgffpaaTotals.lean).
  GIVEN WITH THE SEED: the statements are not yours to turn. If you find one false, say at which input.
  Laid BY PROGRAM, IN A SANDBOX (cutbox-rows.mjs): the forced cells as the released guide's own fill.sh prints them over the translation 7d981f085a527f13… (all of the seat's roots in one cut). By AI agents, Wed Nov 11 2026. No macro, syntax, notation, axiom, sorry.
-/
import Derived.Test.YtjpnepjpkgffpaaChecked
import GoSem.Claim
import GoSem.ClaimJoined
import GoSem.ClaimMapViews
import Derived.JoinedTies
import Derived.KernelRfl
namespace Go.Proofs.Ytjpnepjpkgffpaa
/- THE CELL 'sum', in the pinned program and in every row, IS THE sha256 OF THE DUMP (.gsa) THAT YtjpnepjpkgffpaaProg.lean LOADS. Nothing in Lean hashes anything: it is a label: what it is worth is what the hold of that sum in a sandbox is worth. -/
noncomputable def Try.pinned : Pinned := { name := "ytjpnepjpkgffpaa", sum := "7d981f085a527f133282981b13023226c679def4e263e69c48ab4eaab56a85a2", checked := Try.checked }
namespace Rows
def none {H : Type} : Left H := { results := [], args := [] }

/-- 'laws.FnWindingOf': WHATEVER THE INPUT: true; the input reads as it did. -/
def fnWindingOfSpec : ChangeSpec := { name := "fnWindingOf", fn := fun _ => fun
  | [d] => { results := [.lit (.bool true)], args := [d] }
  | _ => none }
def fnWindingOfRow : OpenClaim := { program := "ytjpnepjpkgffpaa", sum := "7d981f085a527f133282981b13023226c679def4e263e69c48ab4eaab56a85a2", func := "loop.example/firingnets/laws.FnWindingOf", spec := "fnWindingOf", apart := false }
def FnWindingOfSaid : Prop := fnWindingOfRow.holds Try.pinned (OpenSpec.ofChange fnWindingOfSpec)

/-- ITS FALSE NEIGHBOUR: 'it returns false'. Refute it at one input. -/
def fnWindingOfWrong : ChangeSpec := { name := "fnWindingOf", fn := fun _ => fun
  | [d] => { results := [.lit (.bool false)], args := [d] }
  | _ => none }
def FnWindingOfWrongFalsely : Prop := fnWindingOfRow.holds Try.pinned (OpenSpec.ofChange fnWindingOfWrong)

/-- 'laws.FnHeightRow': WHATEVER THE INPUT: true; the input reads as it did. -/
def fnHeightRowSpec : ChangeSpec := { name := "fnHeightRow", fn := fun _ => fun
  | [d] => { results := [.lit (.bool true)], args := [d] }
  | _ => none }
def fnHeightRowRow : OpenClaim := { program := "ytjpnepjpkgffpaa", sum := "7d981f085a527f133282981b13023226c679def4e263e69c48ab4eaab56a85a2", func := "loop.example/firingnets/laws.FnHeightRow", spec := "fnHeightRow", unfollowed := true, recurses := true, apart := false }
def FnHeightRowSaid : Prop := fnHeightRowRow.holds Try.pinned (OpenSpec.ofChange fnHeightRowSpec)

/-- ITS FALSE NEIGHBOUR: 'it returns false'. Refute it at one input. -/
def fnHeightRowWrong : ChangeSpec := { name := "fnHeightRow", fn := fun _ => fun
  | [d] => { results := [.lit (.bool false)], args := [d] }
  | _ => none }
def FnHeightRowWrongFalsely : Prop := fnHeightRowRow.holds Try.pinned (OpenSpec.ofChange fnHeightRowWrong)

/-- 'laws.FnFlatOk': WHATEVER THE INPUT: true; the input reads as it did. -/
def fnFlatOkSpec : ChangeSpec := { name := "fnFlatOk", fn := fun _ => fun
  | [d] => { results := [.lit (.bool true)], args := [d] }
  | _ => none }
def fnFlatOkRow : OpenClaim := { program := "ytjpnepjpkgffpaa", sum := "7d981f085a527f133282981b13023226c679def4e263e69c48ab4eaab56a85a2", func := "loop.example/firingnets/laws.FnFlatOk", spec := "fnFlatOk", unfollowed := true, recurses := true, apart := false }
def FnFlatOkSaid : Prop := fnFlatOkRow.holds Try.pinned (OpenSpec.ofChange fnFlatOkSpec)

/-- ITS FALSE NEIGHBOUR: 'it returns false'. Refute it at one input. -/
def fnFlatOkWrong : ChangeSpec := { name := "fnFlatOk", fn := fun _ => fun
  | [d] => { results := [.lit (.bool false)], args := [d] }
  | _ => none }
def FnFlatOkWrongFalsely : Prop := fnFlatOkRow.holds Try.pinned (OpenSpec.ofChange fnFlatOkWrong)

/-- 'laws.FnStandsAt': WHATEVER THE INPUT: true; the input reads as it did. -/
def fnStandsAtSpec : ChangeSpec := { name := "fnStandsAt", fn := fun _ => fun
  | [d] => { results := [.lit (.bool true)], args := [d] }
  | _ => none }
def fnStandsAtRow : OpenClaim := { program := "ytjpnepjpkgffpaa", sum := "7d981f085a527f133282981b13023226c679def4e263e69c48ab4eaab56a85a2", func := "loop.example/firingnets/laws.FnStandsAt", spec := "fnStandsAt", unfollowed := true, recurses := true, apart := false }
def FnStandsAtSaid : Prop := fnStandsAtRow.holds Try.pinned (OpenSpec.ofChange fnStandsAtSpec)

/-- ITS FALSE NEIGHBOUR: 'it returns false'. Refute it at one input. -/
def fnStandsAtWrong : ChangeSpec := { name := "fnStandsAt", fn := fun _ => fun
  | [d] => { results := [.lit (.bool false)], args := [d] }
  | _ => none }
def FnStandsAtWrongFalsely : Prop := fnStandsAtRow.holds Try.pinned (OpenSpec.ofChange fnStandsAtWrong)

/-- 'laws.FnPeakRow': WHATEVER THE INPUT: true; the input reads as it did. -/
def fnPeakRowSpec : ChangeSpec := { name := "fnPeakRow", fn := fun _ => fun
  | [d] => { results := [.lit (.bool true)], args := [d] }
  | _ => none }
def fnPeakRowRow : OpenClaim := { program := "ytjpnepjpkgffpaa", sum := "7d981f085a527f133282981b13023226c679def4e263e69c48ab4eaab56a85a2", func := "loop.example/firingnets/laws.FnPeakRow", spec := "fnPeakRow", unfollowed := true, recurses := true, apart := false }
def FnPeakRowSaid : Prop := fnPeakRowRow.holds Try.pinned (OpenSpec.ofChange fnPeakRowSpec)

/-- ITS FALSE NEIGHBOUR: 'it returns false'. Refute it at one input. -/
def fnPeakRowWrong : ChangeSpec := { name := "fnPeakRow", fn := fun _ => fun
  | [d] => { results := [.lit (.bool false)], args := [d] }
  | _ => none }
def FnPeakRowWrongFalsely : Prop := fnPeakRowRow.holds Try.pinned (OpenSpec.ofChange fnPeakRowWrong)

/-- 'laws.FnWindTwice': WHATEVER THE INPUT: true; the input reads as it did. -/
def fnWindTwiceSpec : ChangeSpec := { name := "fnWindTwice", fn := fun _ => fun
  | [d] => { results := [.lit (.bool true)], args := [d] }
  | _ => none }
def fnWindTwiceRow : OpenClaim := { program := "ytjpnepjpkgffpaa", sum := "7d981f085a527f133282981b13023226c679def4e263e69c48ab4eaab56a85a2", func := "loop.example/firingnets/laws.FnWindTwice", spec := "fnWindTwice", apart := false }
def FnWindTwiceSaid : Prop := fnWindTwiceRow.holds Try.pinned (OpenSpec.ofChange fnWindTwiceSpec)

/-- ITS FALSE NEIGHBOUR: 'it returns false'. Refute it at one input. -/
def fnWindTwiceWrong : ChangeSpec := { name := "fnWindTwice", fn := fun _ => fun
  | [d] => { results := [.lit (.bool false)], args := [d] }
  | _ => none }
def FnWindTwiceWrongFalsely : Prop := fnWindTwiceRow.holds Try.pinned (OpenSpec.ofChange fnWindTwiceWrong)

/-- 'laws.FnTreesFlat': WHATEVER THE INPUT: true; the input reads as it did. -/
def fnTreesFlatSpec : ChangeSpec := { name := "fnTreesFlat", fn := fun _ => fun
  | [d] => { results := [.lit (.bool true)], args := [d] }
  | _ => none }
def fnTreesFlatRow : OpenClaim := { program := "ytjpnepjpkgffpaa", sum := "7d981f085a527f133282981b13023226c679def4e263e69c48ab4eaab56a85a2", func := "loop.example/firingnets/laws.FnTreesFlat", spec := "fnTreesFlat", unfollowed := true, recurses := true, apart := false }
def FnTreesFlatSaid : Prop := fnTreesFlatRow.holds Try.pinned (OpenSpec.ofChange fnTreesFlatSpec)

/-- ITS FALSE NEIGHBOUR: 'it returns false'. Refute it at one input. -/
def fnTreesFlatWrong : ChangeSpec := { name := "fnTreesFlat", fn := fun _ => fun
  | [d] => { results := [.lit (.bool false)], args := [d] }
  | _ => none }
def FnTreesFlatWrongFalsely : Prop := fnTreesFlatRow.holds Try.pinned (OpenSpec.ofChange fnTreesFlatWrong)

/- THE SECOND FORM. 'bulk': how many values and letters a reading holds, each counted each time it is reached (what is shared counts as often as it is met; a slice's spare places count too). A statement '..UptoSaid' is the law's where the arguments, and the package variables that the reading takes, are together of bulk at most 1048576: NARROWER than '..Said'. Prove '..Said' where nothing that the law and all that it calls make is longer than what came in: it says more and counts as full. Else prove '..UptoSaid'. A law counts once. -/
mutual
def uptoBulk {H : Type} : DataW H → Nat
  | .lit (.string bytes) => bytes.length + 1
  | .lit _ => 1
  | .nil => 1
  | .ptr d => uptoBulk d + 1
  | .slice elems spare => uptoBulkAll elems + uptoBulkAll spare + 1
  | .agg parts => uptoBulkAll parts + 1
  | .iface _ d => uptoBulk d + 1
  | .map entries => uptoBulkEntries entries + 1
  | .held _ => 1
def uptoBulkAll {H : Type} : List (DataW H) → Nat
  | [] => 0
  | d :: r => uptoBulk d + uptoBulkAll r
def uptoBulkEntries {H : Type} : List (Lit × DataW H) → Nat
  | [] => 0
  | x :: r => uptoBulkEntry x + uptoBulkEntries r
def uptoBulkEntry {H : Type} : Lit × DataW H → Nat
  | (.string bytes, d) => bytes.length + uptoBulk d + 1
  | (_, d) => uptoBulk d + 1
 end
def uptoSmall : (H : Type) → List (DataW H) → Bool := fun _ ds => decide (uptoBulkAll ds ≤ 1048576)
def OpenSpec.upto (s : _root_.Go.ChangeSpec) : _root_.Go.OpenSpec := { _root_.Go.OpenSpec.ofChange s with cond := some uptoSmall }

/-- 'laws.FnWindingOf', WHERE WHAT IT READS IS OF BULK AT MOST 1048576: true; the input reads as it did. -/
def fnWindingOfUptoRow : OpenClaim := { program := "ytjpnepjpkgffpaa", sum := "7d981f085a527f133282981b13023226c679def4e263e69c48ab4eaab56a85a2", func := "loop.example/firingnets/laws.FnWindingOf", spec := "fnWindingOf", apart := false, narrowed := true }
def FnWindingOfUptoSaid : Prop := fnWindingOfUptoRow.holds Try.pinned (OpenSpec.upto fnWindingOfSpec)

/-- 'laws.FnHeightRow', WHERE WHAT IT READS IS OF BULK AT MOST 1048576: true; the input reads as it did. -/
def fnHeightRowUptoRow : OpenClaim := { program := "ytjpnepjpkgffpaa", sum := "7d981f085a527f133282981b13023226c679def4e263e69c48ab4eaab56a85a2", func := "loop.example/firingnets/laws.FnHeightRow", spec := "fnHeightRow", unfollowed := true, recurses := true, apart := false, narrowed := true }
def FnHeightRowUptoSaid : Prop := fnHeightRowUptoRow.holds Try.pinned (OpenSpec.upto fnHeightRowSpec)

/-- 'laws.FnFlatOk', WHERE WHAT IT READS IS OF BULK AT MOST 1048576: true; the input reads as it did. -/
def fnFlatOkUptoRow : OpenClaim := { program := "ytjpnepjpkgffpaa", sum := "7d981f085a527f133282981b13023226c679def4e263e69c48ab4eaab56a85a2", func := "loop.example/firingnets/laws.FnFlatOk", spec := "fnFlatOk", unfollowed := true, recurses := true, apart := false, narrowed := true }
def FnFlatOkUptoSaid : Prop := fnFlatOkUptoRow.holds Try.pinned (OpenSpec.upto fnFlatOkSpec)

/-- 'laws.FnStandsAt', WHERE WHAT IT READS IS OF BULK AT MOST 1048576: true; the input reads as it did. -/
def fnStandsAtUptoRow : OpenClaim := { program := "ytjpnepjpkgffpaa", sum := "7d981f085a527f133282981b13023226c679def4e263e69c48ab4eaab56a85a2", func := "loop.example/firingnets/laws.FnStandsAt", spec := "fnStandsAt", unfollowed := true, recurses := true, apart := false, narrowed := true }
def FnStandsAtUptoSaid : Prop := fnStandsAtUptoRow.holds Try.pinned (OpenSpec.upto fnStandsAtSpec)

/-- 'laws.FnPeakRow', WHERE WHAT IT READS IS OF BULK AT MOST 1048576: true; the input reads as it did. -/
def fnPeakRowUptoRow : OpenClaim := { program := "ytjpnepjpkgffpaa", sum := "7d981f085a527f133282981b13023226c679def4e263e69c48ab4eaab56a85a2", func := "loop.example/firingnets/laws.FnPeakRow", spec := "fnPeakRow", unfollowed := true, recurses := true, apart := false, narrowed := true }
def FnPeakRowUptoSaid : Prop := fnPeakRowUptoRow.holds Try.pinned (OpenSpec.upto fnPeakRowSpec)

/-- 'laws.FnWindTwice', WHERE WHAT IT READS IS OF BULK AT MOST 1048576: true; the input reads as it did. -/
def fnWindTwiceUptoRow : OpenClaim := { program := "ytjpnepjpkgffpaa", sum := "7d981f085a527f133282981b13023226c679def4e263e69c48ab4eaab56a85a2", func := "loop.example/firingnets/laws.FnWindTwice", spec := "fnWindTwice", apart := false, narrowed := true }
def FnWindTwiceUptoSaid : Prop := fnWindTwiceUptoRow.holds Try.pinned (OpenSpec.upto fnWindTwiceSpec)

/-- 'laws.FnTreesFlat', WHERE WHAT IT READS IS OF BULK AT MOST 1048576: true; the input reads as it did. -/
def fnTreesFlatUptoRow : OpenClaim := { program := "ytjpnepjpkgffpaa", sum := "7d981f085a527f133282981b13023226c679def4e263e69c48ab4eaab56a85a2", func := "loop.example/firingnets/laws.FnTreesFlat", spec := "fnTreesFlat", unfollowed := true, recurses := true, apart := false, narrowed := true }
def FnTreesFlatUptoSaid : Prop := fnTreesFlatUptoRow.holds Try.pinned (OpenSpec.upto fnTreesFlatSpec)

end Rows
end Go.Proofs.Ytjpnepjpkgffpaa
