/-
  Walks: what the laws of needs draw.
  Walks: nets, needs, states, sets and orders drawn.
-/
import Derived.Test.YtlcbpnbehbgbeaaDC
namespace Go.Proofs.Ytlcbpnbehbgbeaa
open Go.RowKit

/-- Needs are drawn: as many numbers as asked, or one more. -/
def DrawsNd (w : World) (B R P many : Nat) (e : Ending) (w' : World) : Prop :=
  ∃ u ys, e = .returned u ∧ Sl w' w.heap.size u ys ∧ ys.length ≤ many + 1 ∧ Rd w' B R (P + 2 * many + 3) ∧ Kept [R] w w'

end Go.Proofs.Ytlcbpnbehbgbeaa

namespace Go.Proofs.Ytlcbpnbehbgbeaa
open Go.RowKit

/-- A net and needs are drawn, and nothing else has turned. -/
def DrawnNeeds (w : World) (e : Ending) (w' : World) : Prop :=
  ∃ u xs, ∃ v ys, e = .returned (.tuple #[u, v]) ∧ Sl w' w.heap.size u xs ∧ Sl w' w.heap.size v ys ∧ xs.length ≤ 6 ∧ ys.length ≤ 7 ∧ Kept [] w w'
/-- A net, needs and a set are drawn. -/
def DrawnSpread (w : World) (e : Ending) (w' : World) : Prop :=
  ∃ u xs, ∃ v ys, ∃ x : Int, e = .returned (.tuple #[u, v, .int .i64 x]) ∧ Sl w' w.heap.size u xs ∧ Sl w' w.heap.size v ys ∧ xs.length ≤ 6 ∧ ys.length ≤ 7 ∧ Kept [] w w'
/-- A net, needs, a set and an order are drawn. -/
def DrawnOneB (w : World) (e : Ending) (w' : World) : Prop :=
  ∃ u xs, ∃ v ys, ∃ x : Int, ∃ t zs, e = .returned (.tuple #[u, v, .int .i64 x, t]) ∧ Sl w' w.heap.size u xs ∧ Sl w' w.heap.size v ys ∧ Sl w' w.heap.size t zs ∧ xs.length ≤ 6 ∧ ys.length ≤ 7 ∧ zs.length ≤ 7 ∧ Kept [] w w'
/-- A net, kinds, needs and a state are drawn. -/
def DrawnNStep (w : World) (e : Ending) (w' : World) : Prop :=
  ∃ u xs, ∃ r nds, ∃ v ys, ∃ c : Int, e = .returned (.tuple #[u, .int .i64 c, r, v]) ∧ 3 ≤ c ∧ c ≤ 5 ∧ Sl w' w.heap.size u xs ∧ Sl w' w.heap.size r nds ∧ Sl w' w.heap.size v ys ∧ xs.length ≤ 6 ∧ nds.length ≤ 7 ∧ ys.length ≤ 7 ∧ Kept [] w w'
/-- A net, kinds, needs, a state and a number of steps are drawn. -/
def DrawnNRun (w : World) (e : Ending) (w' : World) : Prop :=
  ∃ u xs, ∃ r nds, ∃ v ys, ∃ c s : Int, e = .returned (.tuple #[u, .int .i64 c, r, v, .int .i64 s]) ∧ 3 ≤ c ∧ c ≤ 5 ∧ Sl w' w.heap.size u xs ∧ Sl w' w.heap.size r nds ∧ Sl w' w.heap.size v ys ∧ xs.length ≤ 6 ∧ nds.length ≤ 7 ∧ ys.length ≤ 7 ∧ -100000 ≤ s ∧ s ≤ 100000 ∧ Kept [] w w'

theorem results_tmp5 {fn : Func} {t u v x y : Tmp} (h : fn.results = #[.tmp t, .tmp u, .tmp v, .tmp x, .tmp y]) (tmps : Array Value) (P : Program) (w : World) :
    (results fn tmps).run P w = .ok (.tuple #[tmps.getD t undef, tmps.getD u undef, tmps.getD v undef, tmps.getD x undef, tmps.getD y undef]) w := by
  simp [results, h]

end Go.Proofs.Ytlcbpnbehbgbeaa
