/-
  Walks: a net and a node drawn; two nets drawn.
-/
import Derived.Test.YtahjplaidkibpaaD4
namespace Go.Proofs.Ytahjplaidkibpaa
open Go.RowKit

/-- A list of at most six numbers and a number, and nothing else has turned. -/
def DrawnIx (w : World) (e : Ending) (w' : World) : Prop :=
  ∃ u xs, ∃ x : Int, e = .returned (.tuple #[u, .int .i64 x]) ∧ Sl w' w.heap.size u xs ∧ xs.length ≤ 6 ∧ Kept [] w w'

theorem tdiv39 {z : Int} (h0 : 0 ≤ z) (h : z ≤ 40) : 0 ≤ z.tdiv 39 ∧ z.tdiv 39 ≤ 1 := by
  rw [Int.tdiv_eq_ediv_of_nonneg h0]
  omega

/-- Two lists of numbers, and nothing else has turned. -/
def DrawnPair (w : World) (e : Ending) (w' : World) : Prop :=
  ∃ u xs, ∃ v ys, e = .returned (.tuple #[u, v]) ∧ Sl w' w.heap.size u xs ∧ Sl w' w.heap.size v ys ∧ xs.length ≤ 6 ∧ Kept [] w w'

end Go.Proofs.Ytahjplaidkibpaa
