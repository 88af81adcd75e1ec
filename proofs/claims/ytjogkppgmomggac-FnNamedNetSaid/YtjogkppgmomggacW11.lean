/-
  Walks: paths and rings.
-/
import Derived.Test.YtjogkppgmomggacOps
import Derived.RegionTactic
import Derived.ChangeAlike
namespace Go.Proofs.Ytjogkppgmomggac
open Go.RowKit

end Go.Proofs.Ytjogkppgmomggac
