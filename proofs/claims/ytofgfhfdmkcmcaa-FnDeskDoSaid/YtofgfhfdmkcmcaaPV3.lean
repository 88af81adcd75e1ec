/-
  Places read of texts, by the model.
-/
import Derived.Test.YtofgfhfdmkcmcaaPV2
import Derived.Test.YtofgfhfdmkcmcaaTxD
import Derived.Test.YtofgfhfdmkcmcaaPureRP
import Derived.Deep.DeepCutAuto
namespace Go.Proofs.Ytofgfhfdmkcmcaa
end Go.Proofs.Ytofgfhfdmkcmcaa
