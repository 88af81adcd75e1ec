/-
  Journals read line by line, by the model.
-/
import Derived.Test.YtnajdbnacdnnlaaDoorPD2
namespace Go.Proofs.YtnajdbnacdnnlaaDoor
end Go.Proofs.YtnajdbnacdnnlaaDoor
