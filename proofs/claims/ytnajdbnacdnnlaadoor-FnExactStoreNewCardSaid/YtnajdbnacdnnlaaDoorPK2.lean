/-
  Copies of desks, by the model.
-/
import Derived.Test.YtnajdbnacdnnlaaDoorPK1
namespace Go.Proofs.YtnajdbnacdnnlaaDoor
end Go.Proofs.YtnajdbnacdnnlaaDoor
