/-
  Texts cut at a sign, by the model (for any seat).
-/
import Derived.Test.YtofgfhfdmkcmcaaTsB
import Derived.Test.YtofgfhfdmkcmcaaTxC
namespace Go.Proofs.Ytofgfhfdmkcmcaa
end Go.Proofs.Ytofgfhfdmkcmcaa
