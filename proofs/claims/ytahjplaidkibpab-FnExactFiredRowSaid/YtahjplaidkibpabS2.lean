/-
  Walks: counts of kinds, by the program and by the model.
-/
import Derived.Test.YtahjplaidkibpabS1
import Derived.Test.YtahjplaidkibpabB2
import Derived.StillTailTactics
namespace Go.Proofs.Ytahjplaidkibpab
open Go.RowKit
open Nt (stB)

end Go.Proofs.Ytahjplaidkibpab
