/-
  Slices of truths that a call makes itself.
-/
import Derived.Test.YtlcbpnbehbgbeabKA
namespace Go.Proofs.Ytlcbpnbehbgbeab
end Go.Proofs.Ytlcbpnbehbgbeab
