/-
  Walks: the greatest distance from a node.
-/
import Derived.Test.YtgibncpgdbldnabNB
import Derived.Test.YtgibncpgdbldnabPA
namespace Go.Proofs.Ytgibncpgdbldnab
open Go.RowKit

end Go.Proofs.Ytgibncpgdbldnab
