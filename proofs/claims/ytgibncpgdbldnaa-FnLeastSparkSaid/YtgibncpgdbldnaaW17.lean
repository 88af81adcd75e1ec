/-
  Walks: the greatest distance from a node.
-/
import Derived.Test.YtgibncpgdbldnaaNB
import Derived.Test.YtgibncpgdbldnaaPA
namespace Go.Proofs.Ytgibncpgdbldnaa
open Go.RowKit

end Go.Proofs.Ytgibncpgdbldnaa
