/-
  DERIVED. GIVEN WITH THE SEED: THE CARDS: each row of YtilbdpcijdcffaaDoorRows.lean that lists a variable, with what it lists TIED to the program's text (the seventh form; the later family's looks); each row that meets fmt, with fmt's text TOLD by the authors' own Lean function (tested against real Go, not proved from fmt's source: count such statements apart). THE CARD IS WHAT COUNTS. Prove the row's statement (the work); the ties are given (YtilbdpcijdcffaaDoorTie.lean); close each card by the builder's one call (the guide's Derived/Test/ToyasCard.lean, 'card_holds'). Laid BY PROGRAM, IN A SANDBOX (cutbox-door.mjs). By AI agents, Wed Nov 11 2026. No macro, syntax, notation, axiom, sorry.
-/
import Derived.Test.YtilbdpcijdcffaaDoorRows
import GoSem.ClaimSeven
namespace Go.Proofs.YtilbdpcijdcffaaDoor
namespace Rows

/-- THE TIED CARD OF 'laws.FnScriptText'. -/
def fnScriptTextCard : Claim7 := { stood := { row := fnScriptTextRow, standIns := [], harness := (true, "a56e040f3184ab52fbb5f25240d56cb48aba69f6a62a53534a70ba24555f7793"), looks := true }, kinds := [], alts := [], laidByText := true, laidKinds := [.data, .data, .data, .data, .sentinel, .sentinel, .pinned], laidTests := true, laidLooks := .later }
def FnScriptTextCardSaid : Prop := Claim7.holds Tryd.pinned (.plain (OpenSpec.ofChange fnScriptTextSpec)) fnScriptTextCard

/-- THE TIED CARD OF 'laws.FnReadScript'. -/
def fnReadScriptCard : Claim7 := { stood := { row := fnReadScriptRow, standIns := [], harness := (true, "a56e040f3184ab52fbb5f25240d56cb48aba69f6a62a53534a70ba24555f7793"), looks := true }, kinds := [], alts := [], laidByText := true, laidKinds := [.data, .data, .data, .data, .sentinel, .sentinel, .pinned], laidTests := true, laidLooks := .later }
def FnReadScriptCardSaid : Prop := Claim7.holds Tryd.pinned (.plain (OpenSpec.ofChange fnReadScriptSpec)) fnReadScriptCard

/-- THE SECOND FORM's CARD OF 'laws.FnScriptText'. -/
def fnScriptTextUptoCard : Claim7 := { stood := { row := fnScriptTextUptoRow, standIns := [], harness := (true, "a56e040f3184ab52fbb5f25240d56cb48aba69f6a62a53534a70ba24555f7793"), looks := true }, kinds := [], alts := [], laidByText := true, laidKinds := [.data, .data, .data, .data, .sentinel, .sentinel, .pinned], laidTests := true, laidLooks := .later }
def FnScriptTextUptoCardSaid : Prop := Claim7.holds Tryd.pinned (.plain (OpenSpec.upto fnScriptTextSpec)) fnScriptTextUptoCard

/-- THE SECOND FORM's CARD OF 'laws.FnReadScript'. -/
def fnReadScriptUptoCard : Claim7 := { stood := { row := fnReadScriptUptoRow, standIns := [], harness := (true, "a56e040f3184ab52fbb5f25240d56cb48aba69f6a62a53534a70ba24555f7793"), looks := true }, kinds := [], alts := [], laidByText := true, laidKinds := [.data, .data, .data, .data, .sentinel, .sentinel, .pinned], laidTests := true, laidLooks := .later }
def FnReadScriptUptoCardSaid : Prop := Claim7.holds Tryd.pinned (.plain (OpenSpec.upto fnReadScriptSpec)) fnReadScriptUptoCard
end Rows
end Go.Proofs.YtilbdpcijdcffaaDoor
