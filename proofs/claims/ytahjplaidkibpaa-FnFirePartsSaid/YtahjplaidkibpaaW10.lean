/-
  Walks: distances, for all numbers.
-/
import Derived.Test.YtahjplaidkibpaaW9
namespace Go.Proofs.Ytahjplaidkibpaa
open Go.RowKit

theorem Nt.farOf_small (xs : List Int) (set : Int) : (Nt.farOf xs set).length ≤ 2000000 := by
  unfold Nt.farOf
  split
  · rename_i h
    obtain ⟨ns, rfl, hok⟩ := Nt.okB_ok h.1
    rw [Nt.far_length, Nt.nats_toNat]
    have := hok.few
    omega
  · simp

theorem Sl.empty (w : World) : Sl (w.alloc (.cells #[] 3)) w.heap.size (.slice (some ⟨w.heap.size, 0, none⟩) 0 0) [] := Sl.lit w [] (by simp)

theorem Sl.rebase {w w0 : World} {u : Value} {xs : List Int} (h : Sl w w0.heap.size u xs) {w1 : World} (hs : w1.heap.size ≤ w0.heap.size) : Sl w w1.heap.size u xs := h.mono hs

end Go.Proofs.Ytahjplaidkibpaa
