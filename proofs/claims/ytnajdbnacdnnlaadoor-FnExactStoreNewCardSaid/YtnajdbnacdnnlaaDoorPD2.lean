/-
  Deeds read of texts, by the model.
-/
import Derived.Test.YtnajdbnacdnnlaaDoorTgB
namespace Go.Proofs.YtnajdbnacdnnlaaDoor
end Go.Proofs.YtnajdbnacdnnlaaDoor
