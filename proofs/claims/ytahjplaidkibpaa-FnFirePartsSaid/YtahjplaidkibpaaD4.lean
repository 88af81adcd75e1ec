/-
  Walks: what the laws draw.
-/
import Derived.Test.YtahjplaidkibpaaD3
namespace Go.Proofs.Ytahjplaidkibpaa
open Go.RowKit

/-- A list of at most six numbers, and nothing else has turned. -/
def DrawnNet (w : World) (e : Ending) (w' : World) : Prop :=
  ∃ u xs, e = .returned u ∧ Sl w' w.heap.size u xs ∧ xs.length ≤ 6 ∧ Kept [] w w'

/-- A small number is drawn. -/
def DrawnInt (lo hi : Int) (w : World) (e : Ending) (w' : World) : Prop :=
  ∃ x : Int, e = .returned (.int .i64 x) ∧ lo ≤ x ∧ x ≤ hi ∧ Kept [] w w'

end Go.Proofs.Ytahjplaidkibpaa
