/-
  Plain mathematics: grids laid wire by wire, tours walked on.
-/
import Derived.Test.YtllbdhfckdljgaaPureGI
namespace Go.Proofs.Ytllbdhfckdljgaa
namespace Nt

/-- A node wired to the one before it in its row, and to the one above it. -/
def rowWire (c k : Nat) (L : List Nat) : List Nat := if 0 < k % c then wire L (k - 1) k else L
def colWire (c k : Nat) (L : List Nat) : List Nat := if c ≤ k then wire L (k - c) k else L
theorem rowWire_yes {c k : Nat} {L : List Nat} (h : 0 < k % c) : rowWire c k L = wire L (k - 1) k := if_pos h
theorem rowWire_no {c k : Nat} {L : List Nat} (h : ¬ 0 < k % c) : rowWire c k L = L := if_neg h
theorem colWire_yes {c k : Nat} {L : List Nat} (h : c ≤ k) : colWire c k L = wire L (k - c) k := if_pos h
theorem colWire_no {c k : Nat} {L : List Nat} (h : ¬ c ≤ k) : colWire c k L = L := if_neg h
theorem rowWire_length (c k : Nat) (L : List Nat) : (rowWire c k L).length = L.length := by unfold rowWire; split <;> simp [wire_length]
theorem colWire_length (c k : Nat) (L : List Nat) : (colWire c k L).length = L.length := by unfold colWire; split <;> simp [wire_length]
/-- The net in which the first nodes are wired to those before them. -/
def laidTo (r c : Nat) : Nat → List Nat
  | 0 => List.replicate (r * c) 0
  | k + 1 => colWire c k (rowWire c k (laidTo r c k))
theorem laidTo_length (r c : Nat) : ∀ k, (laidTo r c k).length = r * c
  | 0 => by simp [laidTo]
  | k + 1 => by rw [laidTo, colWire_length, rowWire_length, laidTo_length r c k]
theorem grids_laid : allGrids (fun r c => decide (laidTo r c (r * c) = gridN r c) && (List.range (r * c)).all fun k => (List.range (r * c)).all fun i => decide ((laidTo r c k).getD i 0 < 64) && decide ((rowWire c k (laidTo r c k)).getD i 0 < 64)) = true := by decide +kernel
theorem laidTo_end {r c : Nat} (hr : 1 ≤ r) (hc : 1 ≤ c) (hrc : r * c ≤ 6) : laidTo r c (r * c) = gridN r c := by
  have h := all_grids grids_laid hr hc hrc
  rw [Bool.and_eq_true] at h
  exact of_decide_eq_true h.1
theorem laidTo_small {r c : Nat} (hr : 1 ≤ r) (hc : 1 ≤ c) (hrc : r * c ≤ 6) {k i : Nat} (hk : k < r * c) (hi : i < r * c) : (laidTo r c k).getD i 0 < 64 ∧ (rowWire c k (laidTo r c k)).getD i 0 < 64 := by
  have h := all_grids grids_laid hr hc hrc
  rw [Bool.and_eq_true, List.all_eq_true] at h
  have h2 := h.2 k (List.mem_range.2 hk)
  rw [List.all_eq_true] at h2
  have h3 := h2 i (List.mem_range.2 hi)
  rw [Bool.and_eq_true, decide_eq_true_eq, decide_eq_true_eq] at h3
  exact h3

/-! Tours walked on. -/
/-- So many steps more behind a tour that stands at m. -/
def walkOn (xs : List Int) (m d : Int) : Nat → List Int
  | 0 => xs
  | k + 1 => walkOn xs m d k ++ [m + d * ((k : Int) + 1)]
theorem walkOn_length (xs : List Int) (m d : Int) : ∀ k, (walkOn xs m d k).length = xs.length + k
  | 0 => rfl
  | k + 1 => by rw [walkOn, List.length_append, walkOn_length xs m d k]; simp; omega
theorem walkOn_last {xs : List Int} {m d : Int} (h : xs.getD (xs.length - 1) 0 = m) : ∀ k, (walkOn xs m d k).getD (xs.length + k - 1) 0 = m + d * (k : Int)
  | 0 => by rw [walkOn]; simp; simpa using h
  | k + 1 => by
    rw [walkOn]
    have hl := walkOn_length xs m d k
    rw [List.getD_eq_getElem?_getD, List.getElem?_append_right (by omega), hl]
    have e : xs.length + (k + 1) - 1 - (xs.length + k) = 0 := by omega
    rw [e]
    simp
/-- Along, down, and back the same ways. -/
def roundOf (c s a d : Nat) : List Int :=
  walkOn (walkOn (walkOn (walkOn [(s : Int)] s 1 a) ((s : Int) + 1 * a) c d) ((s : Int) + 1 * a + c * d) (-1) a) ((s : Int) + 1 * a + c * d + (-1) * a) (-(c : Int)) d
theorem roundOf_square (c s : Nat) : roundOf c s 1 1 = nats [s, s + 1, s + c + 1, s + c, s] := by
  simp [roundOf, walkOn, nats]
  omega
theorem roundOf_border {a b : Nat} (ha : 2 ≤ a) (hb : 2 ≤ b) (hab : a * b ≤ 6) : roundOf b 0 (b - 1) (a - 1) = nats (border a b) := by
  rcases big_grids ha hb hab with ⟨rfl, rfl⟩ | ⟨rfl, rfl⟩ | ⟨rfl, rfl⟩ <;> decide +kernel

/-! Squares by rows and columns. -/
theorem grids_sq : allGrids (fun r c => (List.range (r - 1)).all fun i => (List.range (c - 1)).all fun j => decide ((squares r c).getD (i * (c - 1) + j) [] = [i * c + j, i * c + j + 1, i * c + j + c + 1, i * c + j + c, i * c + j])) = true := by decide +kernel
theorem squares_at {r c : Nat} (hr : 1 ≤ r) (hc : 1 ≤ c) (hrc : r * c ≤ 6) {i j : Nat} (hi : i < r - 1) (hj : j < c - 1) : (squares r c).getD (i * (c - 1) + j) [] = [i * c + j, i * c + j + 1, i * c + j + c + 1, i * c + j + c, i * c + j] := by
  have h := all_grids grids_sq hr hc hrc
  rw [List.all_eq_true] at h
  have h2 := h i (List.mem_range.2 hi)
  rw [List.all_eq_true] at h2
  exact of_decide_eq_true (h2 j (List.mem_range.2 hj))
end Nt
end Go.Proofs.Ytllbdhfckdljgaa
