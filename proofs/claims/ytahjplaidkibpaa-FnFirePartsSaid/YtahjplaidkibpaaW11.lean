/-
  Walks: paths and rings.
-/
import Derived.Test.YtahjplaidkibpaaOps
import Derived.RegionTactic
import Derived.ChangeAlike
namespace Go.Proofs.Ytahjplaidkibpaa
open Go.RowKit

end Go.Proofs.Ytahjplaidkibpaa
