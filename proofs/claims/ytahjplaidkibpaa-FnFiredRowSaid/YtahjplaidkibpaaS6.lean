/-
  Walks: states of numbers, by the program and by the model.
-/
import Derived.Test.YtahjplaidkibpaaS2
namespace Go.Proofs.Ytahjplaidkibpaa
open Go.RowKit

theorem pow_div (m c k : Nat) : m / c ^ (k + 1) = m / c ^ k / c := by
  rw [Nat.pow_succ, Nat.div_div_eq_div_mul]

theorem div_zero_iff {m c n : Nat} (hc : 0 < c) : m / c ^ n = 0 ↔ m < c ^ n := by
  rw [Nat.div_eq_zero_iff]
  have := Nat.pow_pos (n := n) hc
  omega

theorem digits_take (c m k : Nat) : Nt.nats (Nt.digits c m (k + 1)) = Nt.nats (Nt.digits c m k) ++ [((m / c ^ k % c : Nat) : Int)] := by
  rw [Nt.digits_succ]
  simp [Nt.nats]

end Go.Proofs.Ytahjplaidkibpaa
