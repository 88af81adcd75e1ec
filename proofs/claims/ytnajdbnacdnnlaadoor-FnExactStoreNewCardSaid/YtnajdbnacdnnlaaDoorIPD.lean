/-
  The forms of deeds, whether a deed is one, whether a number is a node, by the program.
-/
import Derived.Test.YtnajdbnacdnnlaaDoorPV1
import Derived.Test.YtnajdbnacdnnlaaDoorPureAF
namespace Go.Proofs.YtnajdbnacdnnlaaDoor
end Go.Proofs.YtnajdbnacdnnlaaDoor
