/-
  Desks in memory; whether a desk is one, new desks, by the model.
-/
import Derived.Test.YtnajdbnacdnnlaaDoorPV3
import Derived.Test.YtnajdbnacdnnlaaDoorTgB
namespace Go.Proofs.YtnajdbnacdnnlaaDoor
end Go.Proofs.YtnajdbnacdnnlaaDoor
