/-
  Walks: copies of lists, lists compared, marked, and looked over.
-/
import Derived.Test.YtilbdpcijdcffaaKA
namespace Go.Proofs.Ytilbdpcijdcffaa
open Go.RowKit

end Go.Proofs.Ytilbdpcijdcffaa
