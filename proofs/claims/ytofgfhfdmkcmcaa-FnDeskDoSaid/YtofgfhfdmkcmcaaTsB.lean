/-
  Slices of texts that a call makes itself.
-/
import Derived.Test.YtofgfhfdmkcmcaaKA
import Derived.Test.YtofgfhfdmkcmcaaTxB
import Derived.Test.YtofgfhfdmkcmcaaTxE
import Derived.Test.YtofgfhfdmkcmcaaSA
import Derived.Lib.Strings
namespace Go.Proofs.Ytofgfhfdmkcmcaa
end Go.Proofs.Ytofgfhfdmkcmcaa
