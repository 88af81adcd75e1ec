/-
  Slices of structs of three cells that a call makes itself: deeds, places.
-/
import Derived.Test.YtnajdbnacdnnlaaDoorPD1
import Derived.ArgAppend
namespace Go.Proofs.YtnajdbnacdnnlaaDoor
end Go.Proofs.YtnajdbnacdnnlaaDoor
