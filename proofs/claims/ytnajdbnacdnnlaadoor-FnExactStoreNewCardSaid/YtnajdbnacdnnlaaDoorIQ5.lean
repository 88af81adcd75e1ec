/-
  Texts of journals, and journals read of texts, by the program.
-/
import Derived.Test.YtnajdbnacdnnlaaDoorIQ4
import Derived.Test.YtnajdbnacdnnlaaDoorPD3
namespace Go.Proofs.YtnajdbnacdnnlaaDoor
end Go.Proofs.YtnajdbnacdnnlaaDoor
