/-
  Texts of deeds, and deeds read of texts, by the program.
-/
import Derived.Test.YtnajdbnacdnnlaaDoorIQ2
import Derived.Test.YtnajdbnacdnnlaaDoorPD4
import Derived.Test.YtnajdbnacdnnlaaDoorPD2
import Derived.Test.YtnajdbnacdnnlaaDoorPV3
namespace Go.Proofs.YtnajdbnacdnnlaaDoor
end Go.Proofs.YtnajdbnacdnnlaaDoor
