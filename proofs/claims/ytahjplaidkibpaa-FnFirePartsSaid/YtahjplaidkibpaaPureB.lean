/-
  Plain mathematics: the greatest distance.
-/
import Derived.Test.YtahjplaidkibpaaPure
namespace Go.Proofs.Ytahjplaidkibpaa
namespace Nt

/-- The greatest number of a row, at least 0. -/
def maxTo (row : List Int) : Nat → Int
  | 0 => 0
  | k + 1 => max (maxTo row k) (row.getD k 0)

/-- The greatest number of a row from its first one on. -/
def topTo (row : List Int) : Nat → Int
  | 0 => row.getD 0 0
  | k + 1 => max (topTo row k) (row.getD (k + 1) 0)

theorem maxTo_nonneg (row : List Int) : ∀ k, 0 ≤ maxTo row k
  | 0 => Int.le_refl _
  | k + 1 => by have := maxTo_nonneg row k; rw [maxTo]; omega

theorem maxTo_ge (row : List Int) : ∀ k i, i < k → row.getD i 0 ≤ maxTo row k
  | 0, _, h => absurd h (by omega)
  | k + 1, i, h => by
    rw [maxTo]
    by_cases e : i = k
    · subst e; omega
    · have := maxTo_ge row k i (by omega); omega

theorem maxTo_is (row : List Int) : ∀ k, maxTo row k = 0 ∨ ∃ i, i < k ∧ maxTo row k = row.getD i 0
  | 0 => .inl rfl
  | k + 1 => by
    have h := maxTo_is row k
    rw [maxTo]
    by_cases e : maxTo row k ≤ row.getD k 0
    · exact .inr ⟨k, by omega, by omega⟩
    · rcases h with h | ⟨i, hi, h⟩
      · left; omega
      · exact .inr ⟨i, by omega, by omega⟩

theorem topTo_ge (row : List Int) : ∀ k i, i ≤ k → row.getD i 0 ≤ topTo row k
  | 0, i, h => by have : i = 0 := by omega
                  subst this; exact Int.le_refl _
  | k + 1, i, h => by
    rw [topTo]
    by_cases e : i = k + 1
    · subst e; omega
    · have := topTo_ge row k i (by omega); omega

theorem topTo_max (row : List Int) : ∀ k, max 0 (topTo row k) = maxTo row (k + 1)
  | 0 => rfl
  | k + 1 => by
    have ih := topTo_max row k
    rw [topTo, maxTo]
    omega

theorem top_of_zero {row : List Int} {k i : Nat} (hi : i ≤ k) (h : row.getD i 0 = 0) : topTo row k = maxTo row (k + 1) := by
  have h1 := topTo_ge row k i hi
  have h2 := topTo_max row k
  omega

/-- The farthest node from a node. -/
def farthest (ns : List Nat) (node : Nat) : Int := maxTo (far ns (2 ^ node)) ns.length
def farthestOf (xs : List Int) (node : Int) : Int := if okB xs = true ∧ 0 ≤ node ∧ node < xs.length then farthest (xs.map Int.toNat) node.toNat else -1

theorem farthestOf_ok {ns : List Nat} (h : Ok ns) {k : Nat} (hk : k < ns.length) : farthestOf (nats ns) k = farthest ns k := by
  unfold farthestOf
  rw [if_pos ⟨ok_okB h, by omega, by rw [nats_length]; omega⟩, nats_toNat, Int.toNat_natCast]
theorem farthestOf_no {xs : List Int} {node : Int} (h : ¬ (okB xs = true ∧ 0 ≤ node ∧ node < xs.length)) : farthestOf xs node = -1 := by
  unfold farthestOf
  rw [if_neg h]

theorem far_get {ns : List Nat} (set k : Nat) (hk : k < ns.length) : (far ns set).getD k 0 = dist ns set 64 k := by
  simp [far, List.getD_eq_getElem?_getD, hk]

theorem far_self {ns : List Nat} {k : Nat} (hk : k < ns.length) : (far ns (2 ^ k)).getD k 0 = 0 := by
  rw [far_get _ _ hk, dist_zero]
  simp

theorem two_pow_lt {k n : Nat} (h : k < n) : 2 ^ k < 2 ^ n := Nat.pow_lt_pow_right (by omega) h

theorem maxTo_small {ns : List Nat} (set : Nat) : ∀ k, k ≤ ns.length → maxTo (far ns set) k < 64 := by
  intro k hk
  rcases maxTo_is (far ns set) k with h | ⟨i, hi, h⟩
  · omega
  · rw [h, far_get _ _ (by omega)]; exact (dist_range set i).2

/-- Two nets side by side. -/
def joined (ms bs : List Nat) : List Nat := ms ++ bs.map (· * 2 ^ ms.length)
def canJoin (xs ys : List Int) : Bool := okB xs && okB ys && decide (xs.length + ys.length ≤ 6)
def joinedL (xs ys : List Int) : List Int := if canJoin xs ys = true then nats (joined (xs.map Int.toNat) (ys.map Int.toNat)) else []

theorem canJoin_yes {ms bs : List Nat} (h : Ok ms) (k : Ok bs) (hl : ms.length + bs.length ≤ 6) : canJoin (nats ms) (nats bs) = true := by
  unfold canJoin
  rw [ok_okB h, ok_okB k, nats_length, nats_length]
  simpa using hl
theorem canJoin_no1 {xs ys : List Int} (h : okB xs = false) : canJoin xs ys = false := by unfold canJoin; rw [h]; rfl
theorem canJoin_no2 {xs ys : List Int} (h : okB ys = false) : canJoin xs ys = false := by unfold canJoin; rw [h]; simp
theorem canJoin_no3 {xs ys : List Int} (h : ¬ xs.length + ys.length ≤ 6) : canJoin xs ys = false := by unfold canJoin; simp [h]
theorem joinedL_no {xs ys : List Int} (h : canJoin xs ys = false) : joinedL xs ys = [] := by unfold joinedL; rw [if_neg (by rw [h]; simp)]
theorem joinedL_yes {ms bs : List Nat} (h : canJoin (nats ms) (nats bs) = true) : joinedL (nats ms) (nats bs) = nats ms ++ nats (bs.map (· * 2 ^ ms.length)) := by
  unfold joinedL
  rw [if_pos h, nats_toNat, nats_toNat]
  simp [joined, nats]
theorem joinedL_small (xs ys : List Int) : (joinedL xs ys).length ≤ 2000000 := by
  unfold joinedL
  split
  · rename_i h
    unfold canJoin at h
    rw [Bool.and_eq_true, decide_eq_true_eq] at h
    rw [nats_length]
    simp [joined]
    omega
  · simp

/-- The second net, laid behind the first one, up to k. -/
theorem joined_more (bs : List Nat) (n k : Nat) (h : k < bs.length) : nats ((bs.map (· * 2 ^ n)).take (k + 1)) = nats ((bs.map (· * 2 ^ n)).take k) ++ [((bs.getD k 0 * 2 ^ n : Nat) : Int)] := by
  rw [take_more _ _ (by simpa using h)]
  simp [List.getD_eq_getElem?_getD, h]

theorem shl_fit {x n m : Nat} (hx : x < 2 ^ m) (h : n + m ≤ 6) : x * 2 ^ n < 64 := by
  have h1 : x * 2 ^ n < 2 ^ m * 2 ^ n := Nat.mul_lt_mul_of_pos_right hx (Nat.two_pow_pos n)
  rw [← Nat.pow_add] at h1
  exact Nat.lt_of_lt_of_le h1 (pow_le (n := m + n) (by omega))

end Nt
end Go.Proofs.Ytahjplaidkibpaa
