/-
  Texts of journals, by the model; what deeds in memory are.
-/
import Derived.Test.YtnajdbnacdnnlaaDoorTgB
import Derived.Test.YtnajdbnacdnnlaaDoorPureAF
import Derived.Test.YtnajdbnacdnnlaaDoorPureJL
import Derived.Test.YtnajdbnacdnnlaaDoorTxE
import Derived.Test.YtnajdbnacdnnlaaDoorPV2
namespace Go.Proofs.YtnajdbnacdnnlaaDoor
end Go.Proofs.YtnajdbnacdnnlaaDoor
