/-
  Walks: distances, by the program; and both for all numbers.
-/
import Derived.Test.YtahjplaidkibpaaW8
namespace Go.Proofs.Ytahjplaidkibpaa
open Go.RowKit

/-- Filled up to k. -/
def fillTo (n k : Nat) : List Int := List.replicate k (-1) ++ List.replicate (n - k) 0
theorem fillTo_length (n k : Nat) (h : k ≤ n) : (fillTo n k).length = n := by simp [fillTo]; omega
theorem fillTo_set (n k : Nat) (h : k < n) : (fillTo n k).set k (-1) = fillTo n (k + 1) := by
  unfold fillTo
  rw [List.set_append_right _ _ (by simp)]
  have e : n - k = (n - (k + 1)) + 1 := by omega
  rw [e, List.length_replicate, Nat.sub_self, List.replicate_succ, List.set_cons_zero, List.replicate_succ', List.append_assoc]
  rfl

end Go.Proofs.Ytahjplaidkibpaa
