/-
  Walks: distances, by the model.
-/
import Derived.Test.YtahjplaidkibpaaW6
import Derived.Test.YtahjplaidkibpaaOps
namespace Go.Proofs.Ytahjplaidkibpaa
open Go.RowKit

end Go.Proofs.Ytahjplaidkibpaa
