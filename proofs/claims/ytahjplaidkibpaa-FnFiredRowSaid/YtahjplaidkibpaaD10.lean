/-
  Walks: what the laws of states draw.
-/
import Derived.Test.YtahjplaidkibpaaD9
import Derived.Test.YtahjplaidkibpaaS6
import Derived.Deep.RegionWith
namespace Go.Proofs.Ytahjplaidkibpaa
open Go.RowKit

theorem tdiv_small {z d : Int} (h0 : 0 ≤ z) (h : z ≤ 100) (hd : 1 ≤ d) : 0 ≤ z.tdiv d ∧ z.tdiv d ≤ 100 := by
  rw [Int.tdiv_eq_ediv_of_nonneg h0]
  have h1 : 0 ≤ z / d := Int.ediv_nonneg h0 (by omega)
  have h2 : z / d ≤ z := Int.ediv_le_self d h0
  omega

/-- A number of kinds and a list of at most six numbers. -/
def DrawsKinds (w : World) (B R P : Nat) (e : Ending) (w' : World) : Prop :=
  ∃ u xs, ∃ c : Int, e = .returned (.tuple #[.int .i64 c, u]) ∧ 0 ≤ c ∧ c ≤ 1000 ∧ Sl w' w.heap.size u xs ∧ xs.length ≤ 6 ∧ Rd w' B R (P + 30) ∧ Kept [R] w w'

/-- Kinds and a state are drawn, and nothing else has turned. -/
def DrawnKinds (w : World) (e : Ending) (w' : World) : Prop :=
  ∃ u xs, ∃ c : Int, e = .returned (.tuple #[.int .i64 c, u]) ∧ -1000 ≤ c ∧ c ≤ 1000 ∧ Sl w' w.heap.size u xs ∧ xs.length ≤ 6 ∧ Kept [] w w'

/-- Kinds, a state and an order. -/
def DrawnThree (w : World) (e : Ending) (w' : World) : Prop :=
  ∃ u xs, ∃ v ys, ∃ c : Int, e = .returned (.tuple #[.int .i64 c, u, v]) ∧ Sl w' w.heap.size u xs ∧ Sl w' w.heap.size v ys ∧ xs.length ≤ 6 ∧ Kept [] w w'

end Go.Proofs.Ytahjplaidkibpaa
