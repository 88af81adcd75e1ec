/-
  Walks: turns of a state, and runs of turns, by the model.
  Walks: how often nodes turn, by the model.
  Walks: loops of turns, by the model.
-/
import Derived.Test.YtllbdhfckdljgaaFC
import Derived.Test.YtllbdhfckdljgaaTA
namespace Go.Proofs.Ytllbdhfckdljgaa
open Go.RowKit

/-- Whether a neighbour among the first ones pulls. -/
def pullTo (net ks : List Nat) (k j : Nat) : Bool := (List.range j).any fun i => (net.getD k 0).testBit i && decide (ks.getD i 0 = (ks.getD k 0 + 1) % 3)
theorem pullTo_succ (net ks : List Nat) (k j : Nat) : pullTo net ks k (j + 1) = (pullTo net ks k j || ((net.getD k 0).testBit j && decide (ks.getD j 0 = (ks.getD k 0 + 1) % 3))) := by
  unfold pullTo
  rw [List.range_succ, List.any_append]
  simp
theorem turn_take (ns ks : List Nat) (k : Nat) (h : k < ks.length) : Nt.nats ((Nt.turn ns ks).take (k + 1)) = Nt.nats ((Nt.turn ns ks).take k) ++ [(((Nt.turn ns ks).getD k 0 : Nat) : Int)] :=
  Nt.take_more _ _ (by rw [Nt.turn_length]; exact h)
theorem succ_mod3 (x : Nat) : ((x : Int) + 1).tmod 3 = (((x + 1) % 3 : Nat) : Int) := succ_mod x 3

end Go.Proofs.Ytllbdhfckdljgaa

namespace Go.Proofs.Ytllbdhfckdljgaa
open Go.RowKit

theorem turnedL_small (ns ks : List Nat) (t : Nat) (ht : t ≤ 60) (k : Nat) (hk : k < ks.length) : (Nt.turnedL ns ks t).getD k 0 ≤ 1000 := by
  rw [Nt.turnedL_get _ _ _ hk]
  have := Nt.turned_le ns ks k t
  omega

end Go.Proofs.Ytllbdhfckdljgaa

namespace Go.Proofs.Ytllbdhfckdljgaa
open Go.RowKit

end Go.Proofs.Ytllbdhfckdljgaa
