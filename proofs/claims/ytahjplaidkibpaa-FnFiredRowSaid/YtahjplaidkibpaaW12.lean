/-
  Walks: paths and rings, by the program and by the model.
-/
import Derived.Test.YtahjplaidkibpaaW11
import Derived.Test.YtahjplaidkibpaaW1
namespace Go.Proofs.Ytahjplaidkibpaa
open Go.RowKit

theorem pathOf_yes (n : Nat) (h : 1 ≤ n ∧ n ≤ 6) : Nt.pathOf (n : Int) = Nt.nats (Nt.pathN n) := by
  unfold Nt.pathOf
  rw [if_pos (by omega), Int.toNat_natCast]
theorem pathOf_no (n : Int) (h : ¬ (1 ≤ n ∧ n ≤ 6)) : Nt.pathOf n = [] := by
  unfold Nt.pathOf
  rw [if_neg h]
theorem ringOf_yes (n : Nat) (h : 3 ≤ n ∧ n ≤ 6) : Nt.ringOf (n : Int) = Nt.nats (Nt.ringN n) := by
  unfold Nt.ringOf
  rw [if_pos (by omega), Int.toNat_natCast]
theorem ringOf_no (n : Int) (h : ¬ (3 ≤ n ∧ n ≤ 6)) : Nt.ringOf n = [] := by
  unfold Nt.ringOf
  rw [if_neg h]

end Go.Proofs.Ytahjplaidkibpaa
