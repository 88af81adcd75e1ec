/-
  Walks: states drawn.
  Walks: what the laws of states draw.
  Walks: a lit state's numbers drawn; a state's number drawn.
  Walks: a state's number drawn.
  Walks: nets, kinds and states drawn.
  Walks: what the laws of firing draw.
-/
import Derived.Test.YtilbdpcijdcffaaDoorDB
import Derived.Test.YtilbdpcijdcffaaDoorNA
import Derived.Deep.RegionWith
import Derived.Deep.RegionHeld3
namespace Go.Proofs.YtilbdpcijdcffaaDoor
open Go.RowKit

/-- A list of at most six numbers is drawn. -/
def DrawsSt (w : World) (B R P : Nat) (e : Ending) (w' : World) : Prop :=
  ∃ u xs, e = .returned u ∧ Sl w' w.heap.size u xs ∧ xs.length ≤ 6 ∧ Rd w' B R (P + 20) ∧ Kept [R] w w'

theorem Sl.past {w w' : World} {base R : Nat} {v : Value} {xs : List Int} (h : Sl w base v xs) (hk : Kept [R] w w') (hR : R < base) : Sl w' base v xs :=
  h.kept hk (fun g hg hm => by have := (h.block hg).1; simp at hm; omega)
theorem Kept.ownR {R : Nat} {a b c : World} {v : Value} (h : Kept [R] a b) (k : Kept v.ownBlock.toList b c) (hv : ∀ g, v.ownBlock = some g → a.heap.size ≤ g) : Kept [R] a c :=
  h.trans k fun x hx => .inr (hv x (by simpa using hx))
theorem Rd.own {w w' : World} {B R P base : Nat} {v : Value} (h : Rd w B R P) (k : Kept v.ownBlock.toList w w') (hv : ∀ g, v.ownBlock = some g → base ≤ g) (hb : R < base) (hB : B ≤ base) : Rd w' B R P :=
  h.kept k fun x hx => by have := hv x (by simpa using hx); omega

end Go.Proofs.YtilbdpcijdcffaaDoor

namespace Go.Proofs.YtilbdpcijdcffaaDoor
open Go.RowKit

theorem tdiv_small {z d : Int} (h0 : 0 ≤ z) (h : z ≤ 100) (hd : 1 ≤ d) : 0 ≤ z.tdiv d ∧ z.tdiv d ≤ 100 := by
  rw [Int.tdiv_eq_ediv_of_nonneg h0]
  have h1 : 0 ≤ z / d := Int.ediv_nonneg h0 (by omega)
  have h2 : z / d ≤ z := Int.ediv_le_self d h0
  omega

/-- A number of kinds and a list of at most six numbers. -/
def DrawsKinds (w : World) (B R P : Nat) (e : Ending) (w' : World) : Prop :=
  ∃ u xs, ∃ c : Int, e = .returned (.tuple #[.int .i64 c, u]) ∧ 0 ≤ c ∧ c ≤ 1000 ∧ Sl w' w.heap.size u xs ∧ xs.length ≤ 6 ∧ Rd w' B R (P + 30) ∧ Kept [R] w w'

/-- Kinds and a state are drawn, and nothing else has turned. -/
def DrawnKinds (w : World) (e : Ending) (w' : World) : Prop :=
  ∃ u xs, ∃ c : Int, e = .returned (.tuple #[.int .i64 c, u]) ∧ -1000 ≤ c ∧ c ≤ 1000 ∧ Sl w' w.heap.size u xs ∧ xs.length ≤ 6 ∧ Kept [] w w'

/-- Kinds, a state and an order. -/
def DrawnThree (w : World) (e : Ending) (w' : World) : Prop :=
  ∃ u xs, ∃ v ys, ∃ c : Int, e = .returned (.tuple #[.int .i64 c, u, v]) ∧ Sl w' w.heap.size u xs ∧ Sl w' w.heap.size v ys ∧ xs.length ≤ 6 ∧ Kept [] w w'

end Go.Proofs.YtilbdpcijdcffaaDoor

namespace Go.Proofs.YtilbdpcijdcffaaDoor
open Go.RowKit

/-- A reader, and nothing else has turned since w0. -/
def RdQ (w0 w : World) (B R P : Nat) : Prop := Rd w B R P ∧ Kept [R] w0 w

theorem pickQ {w0 w : World} {B R P : Nat} (hr : RdQ w0 w B R P) (m : Int) (hm : m ≤ 1000000) (hP : P ≤ 100000) :
    Calls Tryd.prog 15 #[.pointer (some ⟨R, 0, none⟩), .int .i64 m] w fun e w' => ∃ x : Int, e = .returned (.int .i64 x) ∧ 0 ≤ x ∧ x ≤ 1000000 ∧ RdQ w0 w' B R (P + 1) :=
  (pick_any B R P hP m hm w hr.1).mono fun _ _ h => by
    obtain ⟨x, h1, h2, h3, h4, h5⟩ := h
    exact ⟨x, h1, h2, by omega, h4, hr.2.trans h5 (by simp)⟩

/-- Two numbers are drawn. -/
def DrawnTwoInts (w : World) (e : Ending) (w' : World) : Prop :=
  ∃ x y : Int, e = .returned (.tuple #[.int .i64 x, .int .i64 y]) ∧ Kept [] w w'

end Go.Proofs.YtilbdpcijdcffaaDoor

namespace Go.Proofs.YtilbdpcijdcffaaDoor
open Go.RowKit

theorem i64wrap_le (z : Int) : IntKind.i64.wrap z ≤ 9223372036854775807 := by
  rw [IntKind.wrap_i64]; omega

/-- Three numbers are drawn. -/
def DrawnInts (w : World) (e : Ending) (w' : World) : Prop :=
  ∃ x y z : Int, e = .returned (.tuple #[.int .i64 x, .int .i64 y, .int .i64 z]) ∧ z ≤ 9223372036854775807 ∧ Kept [] w w'

end Go.Proofs.YtilbdpcijdcffaaDoor

namespace Go.Proofs.YtilbdpcijdcffaaDoor
open Go.RowKit

/-- A net, kinds and a state are drawn: at most six numbers, three to five kinds, at most seven numbers. -/
def DrawsFire (w : World) (B R P : Nat) (e : Ending) (w' : World) : Prop :=
  ∃ u xs, ∃ v ys, ∃ c : Int, e = .returned (.tuple #[u, .int .i64 c, v]) ∧ 3 ≤ c ∧ c ≤ 5 ∧ Sl w' w.heap.size u xs ∧ Sl w' w.heap.size v ys ∧ xs.length ≤ 6 ∧ ys.length ≤ 7 ∧ Rd w' B R (P + 60) ∧ Kept [R] w w'

end Go.Proofs.YtilbdpcijdcffaaDoor

namespace Go.Proofs.YtilbdpcijdcffaaDoor
open Go.RowKit

/-- A net, kinds and a state are drawn, and nothing else has turned. -/
def DrawnFire (w : World) (e : Ending) (w' : World) : Prop :=
  ∃ u xs, ∃ v ys, ∃ c : Int, e = .returned (.tuple #[u, .int .i64 c, v]) ∧ 3 ≤ c ∧ c ≤ 5 ∧ Sl w' w.heap.size u xs ∧ Sl w' w.heap.size v ys ∧ xs.length ≤ 6 ∧ ys.length ≤ 7 ∧ Kept [] w w'

/-- A net, kinds, a state and a number of steps are drawn, and nothing else has turned. -/
def DrawnRun (w : World) (e : Ending) (w' : World) : Prop :=
  ∃ u xs, ∃ v ys, ∃ c s : Int, e = .returned (.tuple #[u, .int .i64 c, v, .int .i64 s]) ∧ 3 ≤ c ∧ c ≤ 5 ∧ Sl w' w.heap.size u xs ∧ Sl w' w.heap.size v ys ∧ xs.length ≤ 6 ∧ ys.length ≤ 7 ∧ -100000 ≤ s ∧ s ≤ 100000 ∧ Kept [] w w'

theorem results_tmp4 {fn : Func} {t u v x : Tmp} (h : fn.results = #[.tmp t, .tmp u, .tmp v, .tmp x]) (tmps : Array Value) (P : Program) (w : World) :
    (results fn tmps).run P w = .ok (.tuple #[tmps.getD t undef, tmps.getD u undef, tmps.getD v undef, tmps.getD x undef]) w := by
  simp [results, h]

end Go.Proofs.YtilbdpcijdcffaaDoor
