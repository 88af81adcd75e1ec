/-
  Walks: the neighbours of a set, by the program and by the model.
-/
import Derived.Test.YtahjplaidkibpaaW5
import Derived.Test.YtahjplaidkibpaaW2
namespace Go.Proofs.Ytahjplaidkibpaa
open Go.RowKit
open Nt (okB)

end Go.Proofs.Ytahjplaidkibpaa
