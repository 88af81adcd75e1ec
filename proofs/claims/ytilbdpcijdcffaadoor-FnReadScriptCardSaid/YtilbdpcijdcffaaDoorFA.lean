/-
  Walks: which nodes fire; whether kinds and a state are those of a net; copies of slices, and slices compared.
  Walks: a state after a step, by the program and by the model.
  Walks: a state after a step, by the model.
  Walks: steps folded, for any function that steps; runs, by the program and by the model.
  Walks: runs, by the program and by the model.
-/
import Derived.Test.YtilbdpcijdcffaaDoorNA
import Derived.Test.YtilbdpcijdcffaaDoorKA
import Derived.Test.YtilbdpcijdcffaaDoorPA
import Derived.Lib.SliceRun
import Derived.RangeFuncBox
namespace Go.Proofs.YtilbdpcijdcffaaDoor
open Go.RowKit

end Go.Proofs.YtilbdpcijdcffaaDoor

namespace Go.Proofs.YtilbdpcijdcffaaDoor
open Go.RowKit

end Go.Proofs.YtilbdpcijdcffaaDoor

namespace Go.Proofs.YtilbdpcijdcffaaDoor
open Go.RowKit

theorem step_take (ns : List Nat) (c : Nat) (ks : List Nat) (k : Nat) (h : k < ks.length) : Nt.nats ((Nt.step ns c ks).take (k + 1)) = Nt.nats ((Nt.step ns c ks).take k) ++ [(((Nt.step ns c ks).getD k 0 : Nat) : Int)] :=
  Nt.take_more _ _ (by rw [Nt.step_length]; exact h)

end Go.Proofs.YtilbdpcijdcffaaDoor

namespace Go.Proofs.YtilbdpcijdcffaaDoor
open Go.RowKit

end Go.Proofs.YtilbdpcijdcffaaDoor

namespace Go.Proofs.YtilbdpcijdcffaaDoor
open Go.RowKit

/-- Two boxes: a slice and a number. -/
theorem two_boxes (w : World) (t : TypeId) (v : Value) (kinds : Int) :
    Kept [] w ((w.alloc (.cells #[v] t)).alloc (.cells #[.int .i64 kinds] 3)) ∧
    ((w.alloc (.cells #[v] t)).alloc (.cells #[.int .i64 kinds] 3)).cell? ⟨w.heap.size, 0, none⟩ = some v ∧
    ((w.alloc (.cells #[v] t)).alloc (.cells #[.int .i64 kinds] 3)).cell? ⟨w.heap.size + 1, 0, none⟩ = some (.int .i64 kinds) ∧
    ((w.alloc (.cells #[v] t)).alloc (.cells #[.int .i64 kinds] 3)).heap.size = w.heap.size + 2 := by
  refine ⟨((Kept.refl _ _).alloc _).alloc _, ((Boxed.new w t v).alloc _).cell, ?_, by simp⟩
  have h := (Boxed.new (w.alloc (.cells #[v] t)) 3 (.int .i64 kinds)).cell
  have e : (w.alloc (.cells #[v] t)).heap.size = w.heap.size + 1 := by simp
  rw [e] at h
  exact h

end Go.Proofs.YtilbdpcijdcffaaDoor
