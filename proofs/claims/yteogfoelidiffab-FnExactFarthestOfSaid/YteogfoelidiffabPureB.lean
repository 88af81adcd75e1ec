/-
  Plain mathematics: the greatest distance.
-/
import Derived.Test.YteogfoelidiffabPure
namespace Go.Proofs.Yteogfoelidiffab
namespace Nt

/-- The greatest number of a row, at least 0. -/
def maxTo (row : List Int) : Nat → Int
  | 0 => 0
  | k + 1 => max (maxTo row k) (row.getD k 0)

/-- The greatest number of a row from its first one on. -/
def topTo (row : List Int) : Nat → Int
  | 0 => row.getD 0 0
  | k + 1 => max (topTo row k) (row.getD (k + 1) 0)

theorem maxTo_nonneg (row : List Int) : ∀ k, 0 ≤ maxTo row k
  | 0 => Int.le_refl _
  | k + 1 => by have := maxTo_nonneg row k; rw [maxTo]; omega

theorem maxTo_ge (row : List Int) : ∀ k i, i < k → row.getD i 0 ≤ maxTo row k
  | 0, _, h => absurd h (by omega)
  | k + 1, i, h => by
    rw [maxTo]
    by_cases e : i = k
    · subst e; omega
    · have := maxTo_ge row k i (by omega); omega

theorem maxTo_is (row : List Int) : ∀ k, maxTo row k = 0 ∨ ∃ i, i < k ∧ maxTo row k = row.getD i 0
  | 0 => .inl rfl
  | k + 1 => by
    have h := maxTo_is row k
    rw [maxTo]
    by_cases e : maxTo row k ≤ row.getD k 0
    · exact .inr ⟨k, by omega, by omega⟩
    · rcases h with h | ⟨i, hi, h⟩
      · left; omega
      · exact .inr ⟨i, by omega, by omega⟩

theorem topTo_ge (row : List Int) : ∀ k i, i ≤ k → row.getD i 0 ≤ topTo row k
  | 0, i, h => by have : i = 0 := by omega
                  subst this; exact Int.le_refl _
  | k + 1, i, h => by
    rw [topTo]
    by_cases e : i = k + 1
    · subst e; omega
    · have := topTo_ge row k i (by omega); omega

theorem topTo_max (row : List Int) : ∀ k, max 0 (topTo row k) = maxTo row (k + 1)
  | 0 => rfl
  | k + 1 => by
    have ih := topTo_max row k
    rw [topTo, maxTo]
    omega

theorem top_of_zero {row : List Int} {k i : Nat} (hi : i ≤ k) (h : row.getD i 0 = 0) : topTo row k = maxTo row (k + 1) := by
  have h1 := topTo_ge row k i hi
  have h2 := topTo_max row k
  omega

/-- The farthest node from a node. -/
def farthest (ns : List Nat) (node : Nat) : Int := maxTo (far ns (2 ^ node)) ns.length
def farthestOf (xs : List Int) (node : Int) : Int := if okB xs = true ∧ 0 ≤ node ∧ node < xs.length then farthest (xs.map Int.toNat) node.toNat else -1

theorem farthestOf_ok {ns : List Nat} (h : Ok ns) {k : Nat} (hk : k < ns.length) : farthestOf (nats ns) k = farthest ns k := by
  unfold farthestOf
  rw [if_pos ⟨ok_okB h, by omega, by rw [nats_length]; omega⟩, nats_toNat, Int.toNat_natCast]
theorem farthestOf_no {xs : List Int} {node : Int} (h : ¬ (okB xs = true ∧ 0 ≤ node ∧ node < xs.length)) : farthestOf xs node = -1 := by
  unfold farthestOf
  rw [if_neg h]

theorem far_get {ns : List Nat} (set k : Nat) (hk : k < ns.length) : (far ns set).getD k 0 = dist ns set 64 k := by
  simp [far, List.getD_eq_getElem?_getD, hk]

theorem far_self {ns : List Nat} {k : Nat} (hk : k < ns.length) : (far ns (2 ^ k)).getD k 0 = 0 := by
  rw [far_get _ _ hk, dist_zero]
  simp

theorem two_pow_lt {k n : Nat} (h : k < n) : 2 ^ k < 2 ^ n := Nat.pow_lt_pow_right (by omega) h

theorem maxTo_small {ns : List Nat} (set : Nat) : ∀ k, k ≤ ns.length → maxTo (far ns set) k < 64 := by
  intro k hk
  rcases maxTo_is (far ns set) k with h | ⟨i, hi, h⟩
  · omega
  · rw [h, far_get _ _ (by omega)]; exact (dist_range set i).2

end Nt
end Go.Proofs.Yteogfoelidiffab
