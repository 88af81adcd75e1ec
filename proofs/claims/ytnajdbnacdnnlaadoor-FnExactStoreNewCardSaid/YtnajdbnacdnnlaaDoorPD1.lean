/-
  Texts of deeds, by the model.
-/
import Derived.Test.YtnajdbnacdnnlaaDoorPV2
import Derived.Test.YtnajdbnacdnnlaaDoorTxD
namespace Go.Proofs.YtnajdbnacdnnlaaDoor
end Go.Proofs.YtnajdbnacdnnlaaDoor
