/-
  Walks: how often nodes fire, by the program and by the model.
  Walks: how often nodes fire, by the program and by the model.
  Walks: how often nodes fire, by the model.
-/
import Derived.Test.YtllbdhfckdljgaaFA
namespace Go.Proofs.Ytllbdhfckdljgaa
open Go.RowKit

end Go.Proofs.Ytllbdhfckdljgaa

namespace Go.Proofs.Ytllbdhfckdljgaa
open Go.RowKit

theorem firedL_small (ns : List Nat) (c : Nat) (ks : List Nat) (t : Nat) (ht : t ≤ 60) (k : Nat) (hk : k < ks.length) : (Nt.firedL ns c ks t).getD k 0 ≤ 1000 := by
  rw [Nt.firedL_get _ _ _ _ hk]
  have := Nt.fired_le ns c ks k t
  omega

end Go.Proofs.Ytllbdhfckdljgaa

namespace Go.Proofs.Ytllbdhfckdljgaa
open Go.RowKit

end Go.Proofs.Ytllbdhfckdljgaa
