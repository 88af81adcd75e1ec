/-
  Plain mathematics of grids: nets, squares and borders of all grids; windings of squares.
-/
import Derived.Test.YtllbdhfckdljgaaXA
namespace Go.Proofs.Ytllbdhfckdljgaa
namespace Nt

/-- The neighbours of a node of a grid. -/
def gridSet (r c k : Nat) : Nat :=
  (if 0 < k % c then 2 ^ (k - 1) else 0) ||| (if k % c + 1 < c then 2 ^ (k + 1) else 0) ||| (if c ≤ k then 2 ^ (k - c) else 0) ||| (if k + c < r * c then 2 ^ (k + c) else 0)
def gridN (r c : Nat) : List Nat := (List.range (r * c)).map (gridSet r c)
theorem gridN_length (r c : Nat) : (gridN r c).length = r * c := by simp [gridN]
theorem gridN_get (r c : Nat) {k : Nat} (h : k < r * c) : (gridN r c).getD k 0 = gridSet r c k := by
  simp [gridN, List.getD_eq_getElem?_getD, h]
/-- All grids: rows and columns from 1 on, together at most six nodes. -/
def isGrid (r c : Nat) : Bool := decide (1 ≤ r) && decide (1 ≤ c) && decide (r * c ≤ 6)
def allGrids (p : Nat → Nat → Bool) : Bool := (List.range 7).all fun r => (List.range 7).all fun c => !isGrid r c || p r c
theorem all_grids {p : Nat → Nat → Bool} (h : allGrids p = true) {r c : Nat} (hr : 1 ≤ r) (hc : 1 ≤ c) (hrc : r * c ≤ 6) : p r c = true := by
  have hr7 : r < 7 := by
    have : r * 1 ≤ r * c := Nat.mul_le_mul_left r hc
    omega
  have hc7 : c < 7 := by
    have : 1 * c ≤ r * c := Nat.mul_le_mul_right c hr
    omega
  unfold allGrids at h
  rw [List.all_eq_true] at h
  have h1 := h r (List.mem_range.2 hr7)
  rw [List.all_eq_true] at h1
  have h2 := h1 c (List.mem_range.2 hc7)
  have h3 : isGrid r c = true := by
    unfold isGrid
    rw [decide_eq_true hr, decide_eq_true hc, decide_eq_true hrc]
    rfl
  rw [h3] at h2
  exact h2
theorem grids_ok : allGrids (fun r c => okB (nats (gridN r c))) = true := by decide +kernel
theorem grid_ok {r c : Nat} (hr : 1 ≤ r) (hc : 1 ≤ c) (hrc : r * c ≤ 6) : Ok (gridN r c) := by
  obtain ⟨ns, e, ok⟩ := okB_ok (all_grids grids_ok hr hc hrc)
  have e2 := congrArg (List.map Int.toNat) e
  rw [nats_toNat, nats_toNat] at e2
  rw [e2]
  exact ok
/-- Distances are rows and columns together. -/
theorem grids_far : allGrids (fun r c => (List.range (r * c)).all fun k => decide (dist (gridN r c) 1 64 k = ((k / c + k % c : Nat) : Int))) = true := by decide +kernel
theorem grid_far {r c : Nat} (hr : 1 ≤ r) (hc : 1 ≤ c) (hrc : r * c ≤ 6) {k : Nat} (hk : k < r * c) : dist (gridN r c) 1 64 k = ((k / c + k % c : Nat) : Int) := by
  have h := all_grids grids_far hr hc hrc
  rw [List.all_eq_true] at h
  exact of_decide_eq_true (h k (List.mem_range.2 hk))
theorem grids_wires : allGrids (fun r c => decide (wires (gridN r c) = r * (c - 1) + c * (r - 1))) = true := by decide +kernel
theorem grid_wires {r c : Nat} (hr : 1 ≤ r) (hc : 1 ≤ c) (hrc : r * c ≤ 6) : wires (gridN r c) = r * (c - 1) + c * (r - 1) := of_decide_eq_true (all_grids grids_wires hr hc hrc)

/-- Whether a row is a tour. -/
def tourGr (net tr : List Nat) : Bool := decide (1 ≤ tr.length) && decide (tr.length ≤ 12) && (tr.all fun x => decide (x < net.length)) && (List.range (tr.length - 1)).all fun k => (net.getD (tr.getD k 0) 0).testBit (tr.getD (k + 1) 0)
theorem tourGr_tour {net tr : List Nat} (h : tourGr net tr = true) : Tour net tr := by
  unfold tourGr at h
  rw [Bool.and_eq_true, Bool.and_eq_true, Bool.and_eq_true, decide_eq_true_eq, decide_eq_true_eq, List.all_eq_true, List.all_eq_true] at h
  obtain ⟨⟨⟨h1, h2⟩, h3⟩, h4⟩ := h
  refine ⟨h1, h2, fun k hk => ?_, fun k hk => h4 k (List.mem_range.2 (by omega))⟩
  rw [List.getD_eq_getElem?_getD, List.getElem?_eq_getElem hk]
  exact of_decide_eq_true (h3 _ (List.getElem_mem hk))
/-- The squares, in their order. -/
def squaresTo (r c : Nat) : Nat → List (List Nat)
  | 0 => []
  | k + 1 => if k % c + 1 < c ∧ k + c < r * c then squaresTo r c k ++ [[k, k + 1, k + c + 1, k + c, k]] else squaresTo r c k
def squares (r c : Nat) : List (List Nat) := squaresTo r c (r * c)
/-- The border. -/
def border (r c : Nat) : List Nat := List.range c ++ ((List.range (r - 1)).map fun k => (k + 1) * c + c - 1) ++ ((List.range (c - 1)).map fun k => (r - 1) * c + (c - 2 - k)) ++ ((List.range (r - 1)).map fun k => (r - 2 - k) * c)
theorem grids_squares : allGrids (fun r c => decide ((squares r c).length = (r - 1) * (c - 1)) && (squares r c).all fun tr => tourGr (gridN r c) tr && decide (tr.length = 5) && decide (tr.getD 0 0 = tr.getD 4 0)) = true := by decide +kernel
theorem grids_border : allGrids (fun r c => decide (r < 2 ∨ c < 2) || (tourGr (gridN r c) (border r c) && decide ((border r c).length = 2 * r + 2 * c - 3) && decide ((border r c).getD 0 0 = (border r c).getD ((border r c).length - 1) 0))) = true := by decide +kernel
theorem square_tour {r c : Nat} (hr : 1 ≤ r) (hc : 1 ≤ c) (hrc : r * c ≤ 6) {tr : List Nat} (h : tr ∈ squares r c) : Tour (gridN r c) tr ∧ tr.length = 5 ∧ Round tr := by
  have h1 := all_grids grids_squares hr hc hrc
  rw [Bool.and_eq_true, List.all_eq_true] at h1
  have h2 := h1.2 tr h
  rw [Bool.and_eq_true, Bool.and_eq_true, decide_eq_true_eq, decide_eq_true_eq] at h2
  obtain ⟨⟨h3, h4⟩, h5⟩ := h2
  refine ⟨tourGr_tour h3, h4, ?_⟩
  unfold Round
  rw [h4]
  exact h5
theorem squares_many {r c : Nat} (hr : 1 ≤ r) (hc : 1 ≤ c) (hrc : r * c ≤ 6) : (squares r c).length = (r - 1) * (c - 1) := by
  have h1 := all_grids grids_squares hr hc hrc
  rw [Bool.and_eq_true, decide_eq_true_eq] at h1
  exact h1.1
theorem border_tour {r c : Nat} (hr : 2 ≤ r) (hc : 2 ≤ c) (hrc : r * c ≤ 6) : Tour (gridN r c) (border r c) ∧ (border r c).length = 2 * r + 2 * c - 3 ∧ Round (border r c) := by
  have h1 := all_grids grids_border (by omega : 1 ≤ r) (by omega : 1 ≤ c) hrc
  rw [Bool.or_eq_true, decide_eq_true_eq] at h1
  rcases h1 with h1 | h1
  · omega
  · rw [Bool.and_eq_true, Bool.and_eq_true, decide_eq_true_eq, decide_eq_true_eq] at h1
    obtain ⟨⟨h3, h4⟩, h5⟩ := h1
    exact ⟨tourGr_tour h3, h4, h5⟩
/-- The grids with a square. -/
theorem big_grids {r c : Nat} (hr : 2 ≤ r) (hc : 2 ≤ c) (hrc : r * c ≤ 6) : (r = 2 ∧ c = 2) ∨ (r = 2 ∧ c = 3) ∨ (r = 3 ∧ c = 2) := by
  have h1 : r * 2 ≤ r * c := Nat.mul_le_mul_left r hc
  have h2 : 2 * c ≤ r * c := Nat.mul_le_mul_right c hr
  have hr3 : r ≤ 3 := by omega
  have hc3 : c ≤ 3 := by omega
  rcases (show r = 2 ∨ r = 3 by omega) with rfl | rfl <;> rcases (show c = 2 ∨ c = 3 by omega) with rfl | rfl
  · exact .inl ⟨rfl, rfl⟩
  · exact .inr (.inl ⟨rfl, rfl⟩)
  · exact .inr (.inr ⟨rfl, rfl⟩)
  · omega
/-- What squares climb, all together. -/
def sumC : List Int → Int
  | [] => 0
  | x :: xs => x + sumC xs
theorem border_climbs {r c : Nat} (hr : 2 ≤ r) (hc : 2 ≤ c) (hrc : r * c ≤ 6) (ks : List Nat) : climb ks (border r c) = sumC ((squares r c).map (climb ks)) := by
  have bk : ∀ x y : Nat, rise y x = - rise x y := fun x y => rise_back
  rcases big_grids hr hc hrc with ⟨rfl, rfl⟩ | ⟨rfl, rfl⟩ | ⟨rfl, rfl⟩
  · have e1 : border 2 2 = [0, 1, 3, 2, 0] := by decide
    have e2 : squares 2 2 = [[0, 1, 3, 2, 0]] := by decide
    rw [e1, e2]
    simp only [List.map_cons, List.map_nil, sumC]
    omega
  · have e1 : border 2 3 = [0, 1, 2, 5, 4, 3, 0] := by decide
    have e2 : squares 2 3 = [[0, 1, 4, 3, 0], [1, 2, 5, 4, 1]] := by decide
    rw [e1, e2]
    simp only [List.map_cons, List.map_nil, sumC, climb, climbTo, List.length_cons, List.length_nil, Nat.reduceAdd, Nat.reduceSub, List.getD_cons_zero, List.getD_cons_succ]
    have h1 := bk (ks.getD 1 0) (ks.getD 4 0)
    omega
  · have e1 : border 3 2 = [0, 1, 3, 5, 4, 2, 0] := by decide
    have e2 : squares 3 2 = [[0, 1, 3, 2, 0], [2, 3, 5, 4, 2]] := by decide
    rw [e1, e2]
    simp only [List.map_cons, List.map_nil, sumC, climb, climbTo, List.length_cons, List.length_nil, Nat.reduceAdd, Nat.reduceSub, List.getD_cons_zero, List.getD_cons_succ]
    have h1 := bk (ks.getD 2 0) (ks.getD 3 0)
    omega
theorem small_climb {ks tr : List Nat} (h : tr.length = 5) : -4 ≤ climb ks tr ∧ climb ks tr ≤ 4 := by
  have := climbTo_bounds ks tr (tr.length - 1)
  unfold climb
  omega
/-- A grid is flat just if no square climbs. -/
theorem flat_of_pairs {net ks : List Nat} (ok : Ok net) (hl : ks.length = net.length) {H : Nat → Int} (h : ∀ k j, k < j → j < net.length → (net.getD k 0).testBit j = true → H j - H k = rise (ks.getD k 0) (ks.getD j 0)) : Flat net ks := by
  refine ⟨H, fun k j hk hj hb => ?_⟩
  rcases Nat.lt_trichotomy k j with hkj | hkj | hkj
  · exact h k j hkj (by omega) hb
  · subst hkj
    rw [ok.own k (by omega)] at hb
    cases hb
  · have h1 := h j k hkj (by omega) (by rw [ok.both j k (by omega) (by omega)]; exact hb)
    have h2 : rise (ks.getD k 0) (ks.getD j 0) = - rise (ks.getD j 0) (ks.getD k 0) := rise_back
    rw [h2, ← h1]
    omega
def hTab (l : List Int) (k : Nat) : Int := l.getD k 0
theorem flat_squares {r c : Nat} (hr : 2 ≤ r) (hc : 2 ≤ c) (hrc : r * c ≤ 6) {ks : List Nat} (hl : ks.length = r * c) (h : ∀ tr, tr ∈ squares r c → climb ks tr = 0) : Flat (gridN r c) ks := by
  have bk : ∀ x y : Nat, rise y x = - rise x y := fun x y => rise_back
  have ok := grid_ok (by omega : 1 ≤ r) (by omega : 1 ≤ c) hrc
  have hlen := gridN_length r c
  rcases big_grids hr hc hrc with ⟨rfl, rfl⟩ | ⟨rfl, rfl⟩ | ⟨rfl, rfl⟩
  · have e2 : squares 2 2 = [[0, 1, 3, 2, 0]] := by decide
    have h1 := h [0, 1, 3, 2, 0] (by rw [e2]; simp)
    simp only [climb, climbTo, List.length_cons, List.length_nil, Nat.reduceAdd, Nat.reduceSub, List.getD_cons_zero, List.getD_cons_succ] at h1
    have b1 := bk (ks.getD 2 0) (ks.getD 3 0)
    have b2 := bk (ks.getD 0 0) (ks.getD 2 0)
    refine flat_of_pairs ok (by omega) (H := hTab [0, rise (ks.getD 0 0) (ks.getD 1 0), rise (ks.getD 0 0) (ks.getD 2 0), rise (ks.getD 0 0) (ks.getD 1 0) + rise (ks.getD 1 0) (ks.getD 3 0)]) ?_
    have hg : gridN 2 2 = [6, 9, 9, 6] := by decide
    rw [hg]
    intro k j hkj hj hb
    simp at hj
    rcases (show j = 1 ∨ j = 2 ∨ j = 3 by omega) with rfl | rfl | rfl
    · have : k = 0 := by omega
      subst this
      simp [hTab]
    · rcases (show k = 0 ∨ k = 1 by omega) with rfl | rfl
      · simp [hTab]
      · exact absurd hb (by decide)
    · rcases (show k = 0 ∨ k = 1 ∨ k = 2 by omega) with rfl | rfl | rfl
      · exact absurd hb (by decide)
      · simp only [hTab, List.getD_cons_zero, List.getD_cons_succ]; omega
      · simp only [hTab, List.getD_cons_zero, List.getD_cons_succ]; omega
  · have e2 : squares 2 3 = [[0, 1, 4, 3, 0], [1, 2, 5, 4, 1]] := by decide
    have h1 := h [0, 1, 4, 3, 0] (by rw [e2]; simp)
    have h2 := h [1, 2, 5, 4, 1] (by rw [e2]; simp)
    simp only [climb, climbTo, List.length_cons, List.length_nil, Nat.reduceAdd, Nat.reduceSub, List.getD_cons_zero, List.getD_cons_succ] at h1 h2
    have b1 := bk (ks.getD 3 0) (ks.getD 4 0)
    have b2 := bk (ks.getD 0 0) (ks.getD 3 0)
    have b3 := bk (ks.getD 4 0) (ks.getD 5 0)
    have b4 := bk (ks.getD 1 0) (ks.getD 4 0)
    refine flat_of_pairs ok (by omega) (H := hTab [0, rise (ks.getD 0 0) (ks.getD 1 0), rise (ks.getD 0 0) (ks.getD 1 0) + rise (ks.getD 1 0) (ks.getD 2 0), rise (ks.getD 0 0) (ks.getD 3 0), rise (ks.getD 0 0) (ks.getD 1 0) + rise (ks.getD 1 0) (ks.getD 4 0), rise (ks.getD 0 0) (ks.getD 1 0) + rise (ks.getD 1 0) (ks.getD 2 0) + rise (ks.getD 2 0) (ks.getD 5 0)]) ?_
    have hg : gridN 2 3 = [10, 21, 34, 17, 42, 20] := by decide
    rw [hg]
    intro k j hkj hj hb
    simp at hj
    rcases (show j = 1 ∨ j = 2 ∨ j = 3 ∨ j = 4 ∨ j = 5 by omega) with rfl | rfl | rfl | rfl | rfl
    · rcases (show k = 0 by omega) with rfl
      simp only [hTab, List.getD_cons_zero, List.getD_cons_succ]; omega
    · rcases (show k = 0 ∨ k = 1 by omega) with rfl | rfl
      · exact absurd hb (by decide)
      · simp only [hTab, List.getD_cons_zero, List.getD_cons_succ]; omega
    · rcases (show k = 0 ∨ k = 1 ∨ k = 2 by omega) with rfl | rfl | rfl
      · simp only [hTab, List.getD_cons_zero, List.getD_cons_succ]; omega
      · exact absurd hb (by decide)
      · exact absurd hb (by decide)
    · rcases (show k = 0 ∨ k = 1 ∨ k = 2 ∨ k = 3 by omega) with rfl | rfl | rfl | rfl
      · exact absurd hb (by decide)
      · simp only [hTab, List.getD_cons_zero, List.getD_cons_succ]; omega
      · exact absurd hb (by decide)
      · simp only [hTab, List.getD_cons_zero, List.getD_cons_succ]; omega
    · rcases (show k = 0 ∨ k = 1 ∨ k = 2 ∨ k = 3 ∨ k = 4 by omega) with rfl | rfl | rfl | rfl | rfl
      · exact absurd hb (by decide)
      · exact absurd hb (by decide)
      · simp only [hTab, List.getD_cons_zero, List.getD_cons_succ]; omega
      · exact absurd hb (by decide)
      · simp only [hTab, List.getD_cons_zero, List.getD_cons_succ]; omega
  · have e2 : squares 3 2 = [[0, 1, 3, 2, 0], [2, 3, 5, 4, 2]] := by decide
    have h1 := h [0, 1, 3, 2, 0] (by rw [e2]; simp)
    have h2 := h [2, 3, 5, 4, 2] (by rw [e2]; simp)
    simp only [climb, climbTo, List.length_cons, List.length_nil, Nat.reduceAdd, Nat.reduceSub, List.getD_cons_zero, List.getD_cons_succ] at h1 h2
    have b1 := bk (ks.getD 2 0) (ks.getD 3 0)
    have b2 := bk (ks.getD 0 0) (ks.getD 2 0)
    have b3 := bk (ks.getD 4 0) (ks.getD 5 0)
    have b4 := bk (ks.getD 2 0) (ks.getD 4 0)
    refine flat_of_pairs ok (by omega) (H := hTab [0, rise (ks.getD 0 0) (ks.getD 1 0), rise (ks.getD 0 0) (ks.getD 2 0), rise (ks.getD 0 0) (ks.getD 1 0) + rise (ks.getD 1 0) (ks.getD 3 0), rise (ks.getD 0 0) (ks.getD 2 0) + rise (ks.getD 2 0) (ks.getD 4 0), rise (ks.getD 0 0) (ks.getD 1 0) + rise (ks.getD 1 0) (ks.getD 3 0) + rise (ks.getD 3 0) (ks.getD 5 0)]) ?_
    have hg : gridN 3 2 = [6, 9, 25, 38, 36, 24] := by decide
    rw [hg]
    intro k j hkj hj hb
    simp at hj
    rcases (show j = 1 ∨ j = 2 ∨ j = 3 ∨ j = 4 ∨ j = 5 by omega) with rfl | rfl | rfl | rfl | rfl
    · rcases (show k = 0 by omega) with rfl
      simp only [hTab, List.getD_cons_zero, List.getD_cons_succ]; omega
    · rcases (show k = 0 ∨ k = 1 by omega) with rfl | rfl
      · simp only [hTab, List.getD_cons_zero, List.getD_cons_succ]; omega
      · exact absurd hb (by decide)
    · rcases (show k = 0 ∨ k = 1 ∨ k = 2 by omega) with rfl | rfl | rfl
      · exact absurd hb (by decide)
      · simp only [hTab, List.getD_cons_zero, List.getD_cons_succ]; omega
      · simp only [hTab, List.getD_cons_zero, List.getD_cons_succ]; omega
    · rcases (show k = 0 ∨ k = 1 ∨ k = 2 ∨ k = 3 by omega) with rfl | rfl | rfl | rfl
      · exact absurd hb (by decide)
      · exact absurd hb (by decide)
      · simp only [hTab, List.getD_cons_zero, List.getD_cons_succ]; omega
      · exact absurd hb (by decide)
    · rcases (show k = 0 ∨ k = 1 ∨ k = 2 ∨ k = 3 ∨ k = 4 by omega) with rfl | rfl | rfl | rfl | rfl
      · exact absurd hb (by decide)
      · exact absurd hb (by decide)
      · exact absurd hb (by decide)
      · simp only [hTab, List.getD_cons_zero, List.getD_cons_succ]; omega
      · simp only [hTab, List.getD_cons_zero, List.getD_cons_succ]; omega
/-- Grids of one row or one column are trees. -/
theorem grids_tree : allGrids (fun r c => decide (2 ≤ r ∧ 2 ≤ c) || decide (reps (parts (gridN r c)) + wires (gridN r c) ≤ r * c)) = true := by decide +kernel
theorem flat_line {r c : Nat} (hr : 1 ≤ r) (hc : 1 ≤ c) (hrc : r * c ≤ 6) (h : r < 2 ∨ c < 2) {ks : List Nat} (hl : ks.length = r * c) : Flat (gridN r c) ks := by
  have h1 := all_grids grids_tree hr hc hrc
  rw [Bool.or_eq_true, decide_eq_true_eq, decide_eq_true_eq] at h1
  have hlen := gridN_length r c
  rcases h1 with h1 | h1
  · omega
  · exact trees_flat (grid_ok hr hc hrc) (by omega) (by omega)
theorem squares_flat {r c : Nat} (hr : 1 ≤ r) (hc : 1 ≤ c) (hrc : r * c ≤ 6) {ks : List Nat} (hl : ks.length = r * c) : Flat (gridN r c) ks ↔ ∀ tr, tr ∈ squares r c → climb ks tr = 0 := by
  have hlen := gridN_length r c
  constructor
  · intro hf tr ht
    obtain ⟨h1, _, h3⟩ := square_tour hr hc hrc ht
    exact climb_flat (by omega) hf h1 h3
  · intro h
    by_cases h2 : 2 ≤ r ∧ 2 ≤ c
    · exact flat_squares h2.1 h2.2 hrc hl h
    · exact flat_line hr hc hrc (by omega) hl

end Nt
end Go.Proofs.Ytllbdhfckdljgaa
