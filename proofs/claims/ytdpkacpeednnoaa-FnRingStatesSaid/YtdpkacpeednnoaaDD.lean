/-
  Walks: what the laws of turning wheels draw.
  Walks: tours that are drawn.
  Walks: what the laws of tours and windings draw.
  Walks: what the laws of rises, tours and best tours draw.
-/
import Derived.Test.YtdpkacpeednnoaaDC
namespace Go.Proofs.Ytdpkacpeednnoaa
open Go.RowKit

/-- A net and a state of three kinds are drawn. -/
def DrawsTurn (w : World) (B R P : Nat) (e : Ending) (w' : World) : Prop :=
  ∃ u xs, ∃ v ys, e = .returned (.tuple #[u, v]) ∧ Sl w' w.heap.size u xs ∧ Sl w' w.heap.size v ys ∧ xs.length ≤ 6 ∧ ys.length ≤ 7 ∧ Rd w' B R (P + 60) ∧ Kept [R] w w'

/-- A net and a state are drawn, and nothing else has turned. -/
def DrawnTurn (w : World) (e : Ending) (w' : World) : Prop :=
  ∃ u xs, ∃ v ys, e = .returned (.tuple #[u, v]) ∧ Sl w' w.heap.size u xs ∧ Sl w' w.heap.size v ys ∧ xs.length ≤ 6 ∧ ys.length ≤ 7 ∧ Kept [] w w'
/-- A net, a state and a number of turns are drawn, and nothing else has turned. -/
def DrawnTurns (w : World) (e : Ending) (w' : World) : Prop :=
  ∃ u xs, ∃ v ys, ∃ s : Int, e = .returned (.tuple #[u, v, .int .i64 s]) ∧ Sl w' w.heap.size u xs ∧ Sl w' w.heap.size v ys ∧ xs.length ≤ 6 ∧ ys.length ≤ 7 ∧ -100000 ≤ s ∧ s ≤ 100000 ∧ Kept [] w w'

end Go.Proofs.Ytdpkacpeednnoaa

namespace Go.Proofs.Ytdpkacpeednnoaa
open Go.RowKit

/-- A row of places is drawn. -/
def DrawsTour (w : World) (B R P : Nat) (e : Ending) (w' : World) : Prop :=
  ∃ u zs, e = .returned u ∧ Sl w' w.heap.size u zs ∧ 1 ≤ zs.length ∧ zs.length ≤ 11 ∧ Rd w' B R (P + 20) ∧ Kept [R] w w'

theorem tmod_two (y : Int) : -2 < y.tmod 2 ∧ y.tmod 2 < 2 := ⟨Int.lt_tmod_of_pos y (by decide), Int.tmod_lt_of_pos y (by decide)⟩
theorem last_of (zs : List Int) (x : Int) : (zs ++ [x]).getD zs.length 0 = x := by simp [List.getD_eq_getElem?_getD]

end Go.Proofs.Ytdpkacpeednnoaa

namespace Go.Proofs.Ytdpkacpeednnoaa
open Go.RowKit

/-- A net, a state and a tour are drawn, and nothing else has turned. -/
def DrawnClimb (w : World) (e : Ending) (w' : World) : Prop :=
  ∃ u xs, ∃ v ys, ∃ z zs, e = .returned (.tuple #[u, v, z]) ∧ Sl w' w.heap.size u xs ∧ Sl w' w.heap.size v ys ∧ Sl w' w.heap.size z zs ∧ xs.length ≤ 6 ∧ ys.length ≤ 7 ∧ 1 ≤ zs.length ∧ zs.length ≤ 11 ∧ Kept [] w w'

end Go.Proofs.Ytdpkacpeednnoaa

namespace Go.Proofs.Ytdpkacpeednnoaa
open Go.RowKit

/-- A state and two numbers are drawn, and nothing else has turned. -/
def DrawnRise (w : World) (e : Ending) (w' : World) : Prop :=
  ∃ u xs, ∃ a b : Int, e = .returned (.tuple #[u, .int .i64 a, .int .i64 b]) ∧ Sl w' w.heap.size u xs ∧ xs.length ≤ 6 ∧ Kept [] w w'
/-- A net and a row of places are drawn, and nothing else has turned. -/
def DrawnTour (w : World) (e : Ending) (w' : World) : Prop :=
  ∃ u xs, ∃ z zs, e = .returned (.tuple #[u, z]) ∧ Sl w' w.heap.size u xs ∧ Sl w' w.heap.size z zs ∧ xs.length ≤ 6 ∧ 1 ≤ zs.length ∧ zs.length ≤ 15 ∧ Kept [] w w'
/-- A net, a state and two numbers are drawn, and nothing else has turned. -/
def DrawnBest (w : World) (e : Ending) (w' : World) : Prop :=
  ∃ u xs, ∃ v ys, ∃ a b : Int, e = .returned (.tuple #[u, v, .int .i64 a, .int .i64 b]) ∧ Sl w' w.heap.size u xs ∧ Sl w' w.heap.size v ys ∧ xs.length ≤ 6 ∧ ys.length ≤ 7 ∧ Kept [] w w'

end Go.Proofs.Ytdpkacpeednnoaa
