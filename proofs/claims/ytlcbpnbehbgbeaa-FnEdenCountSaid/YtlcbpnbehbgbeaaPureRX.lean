/-
  Plain mathematics: sums of rows of fronts counted row by row.
-/
import Derived.Test.YtlcbpnbehbgbeaaRA
namespace Go.Proofs.Ytlcbpnbehbgbeaa
namespace Nt

theorem ways_out : ∀ (n : Nat) (s : Int), s < -(n : Int) ∨ (n : Int) < s → ways n s = 0
  | 0, s, h => by unfold ways; rw [if_neg (by omega)]
  | n + 1, s, h => by rw [ways, ways_out n _ (by omega), ways_out n _ (by omega), ways_out n _ (by omega)]
/-- In how many rows of fronts each sum is, from all down to all up. -/
def wayRow (t : Nat) : List Nat := (List.range (2 * t + 1)).map fun j : Nat => ways t ((j : Int) - (t : Int))
theorem wayRow_length (t : Nat) : (wayRow t).length = 2 * t + 1 := by simp [wayRow]
theorem wayRow_get {t j : Nat} (h : j < 2 * t + 1) : (wayRow t).getD j 0 = ways t ((j : Int) - (t : Int)) := by
  simp [wayRow, List.getD_eq_getElem?_getD, h]
theorem wayRow_zero : wayRow 0 = [1] := rfl
theorem wayRow_le {t : Nat} (h : t ≤ 6) (j : Nat) : (wayRow t).getD j 0 ≤ 729 := by
  by_cases hj : j < 2 * t + 1
  · rw [wayRow_get hj]
    exact Nat.le_trans (ways_le t _) (Nat.pow_le_pow_right (by omega) h)
  · rw [List.getD_eq_getElem?_getD, List.getElem?_eq_none (by rw [wayRow_length]; omega)]
    simp
/-- What is there at a place when the first numbers have been added at theirs and at the next two places. -/
def moreTo (xs : List Nat) (k j : Nat) : Nat := (if j < k then xs.getD j 0 else 0) + (if 1 ≤ j ∧ j < k + 1 then xs.getD (j - 1) 0 else 0) + (if 2 ≤ j ∧ j < k + 2 then xs.getD (j - 2) 0 else 0)
theorem moreTo_zero (xs : List Nat) (j : Nat) : moreTo xs 0 j = 0 := by
  unfold moreTo
  rw [if_neg (by omega), if_neg (by omega), if_neg (by omega)]
theorem moreTo_succ (xs : List Nat) (k j : Nat) : moreTo xs (k + 1) j = moreTo xs k j + if j = k ∨ j = k + 1 ∨ j = k + 2 then xs.getD k 0 else 0 := by
  unfold moreTo
  by_cases h0 : j = k
  · subst h0
    repeat' split
    all_goals omega
  · by_cases h1 : j = k + 1
    · subst h1
      rw [show k + 1 - 1 = k by omega]
      repeat' split
      all_goals omega
    · by_cases h2 : j = k + 2
      · subst h2
        rw [show k + 2 - 2 = k by omega]
        repeat' split
        all_goals omega
      · rw [if_neg (by omega : ¬ (j = k ∨ j = k + 1 ∨ j = k + 2))]
        repeat' split
        all_goals omega
theorem moreTo_le {xs : List Nat} {B : Nat} (h : ∀ j, xs.getD j 0 ≤ B) (k j : Nat) : moreTo xs k j ≤ 3 * B := by
  have h1 := h j
  have h2 := h (j - 1)
  have h3 := h (j - 2)
  unfold moreTo
  split <;> split <;> split <;> omega
def moreL (xs : List Nat) : List Nat := (List.range (xs.length + 2)).map fun j => moreTo xs xs.length j
theorem moreL_length (xs : List Nat) : (moreL xs).length = xs.length + 2 := by simp [moreL]
theorem moreL_get {xs : List Nat} {j : Nat} (h : j < xs.length + 2) : (moreL xs).getD j 0 = moreTo xs xs.length j := by
  simp [moreL, List.getD_eq_getElem?_getD, h]
/-- With a front more. -/
theorem moreL_wayRow (t : Nat) : moreL (wayRow t) = wayRow (t + 1) := by
  refine ext_getD (by rw [moreL_length, wayRow_length, wayRow_length]; omega) fun j hj => ?_
  rw [moreL_length, wayRow_length] at hj
  rw [moreL_get (by rw [wayRow_length]; exact hj), wayRow_get (by omega), wayRow_length]
  have e0 : (if j < 2 * t + 1 then (wayRow t).getD j 0 else 0) = ways t ((j : Int) - (t : Int)) := by
    split
    · rename_i h; exact wayRow_get h
    · rw [ways_out _ _ (by omega)]
  have e1 : (if 1 ≤ j ∧ j < 2 * t + 1 + 1 then (wayRow t).getD (j - 1) 0 else 0) = ways t ((j : Int) - 1 - (t : Int)) := by
    split
    · rename_i h
      rw [wayRow_get (by omega)]
      exact congrArg _ (by omega)
    · rw [ways_out _ _ (by omega)]
  have e2 : (if 2 ≤ j ∧ j < 2 * t + 1 + 2 then (wayRow t).getD (j - 2) 0 else 0) = ways t ((j : Int) - 2 - (t : Int)) := by
    split
    · rename_i h
      rw [wayRow_get (by omega)]
      exact congrArg _ (by omega)
    · rw [ways_out _ _ (by omega)]
  unfold moreTo
  rw [e0, e1, e2, ways, show ((j : Int) - ((t + 1 : Nat) : Int)) - 1 = (j : Int) - 2 - (t : Int) by omega, show ((j : Int) - ((t + 1 : Nat) : Int)) = (j : Int) - 1 - (t : Int) by omega, show (j : Int) - 1 - (t : Int) + 1 = (j : Int) - (t : Int) by omega]
  omega
/-- A place told by the winding. -/
theorem wayRow_in {t : Nat} {s : Int} (h1 : -(t : Int) ≤ s) (h2 : s ≤ (t : Int)) : (wayRow t).getD ((t : Int) + s).toNat 0 = ways t s := by
  rw [wayRow_get (by omega)]
  exact congrArg _ (by omega)
/-- Whether a node goes on, as far as the first fronts tell. -/
def goTo (fs : List Int) (k j : Nat) : Int := if (j < k ∧ fs.getD j 0 = 1) ∨ ((j + fs.length - 1) % fs.length < k ∧ fs.getD ((j + fs.length - 1) % fs.length) 0 = -1) then 1 else 0
theorem goTo_zero (fs : List Int) (j : Nat) : goTo fs 0 j = 0 := by
  unfold goTo; rw [if_neg (by omega)]
theorem goTo_end {fs : List Int} {j : Nat} (hj : j < fs.length) : goTo fs fs.length j = goes fs j := by
  have h := Nat.mod_lt (j + fs.length - 1) (show 0 < fs.length by omega)
  have e : ((j < fs.length ∧ fs.getD j 0 = 1) ∨ ((j + fs.length - 1) % fs.length < fs.length ∧ fs.getD ((j + fs.length - 1) % fs.length) 0 = -1)) ↔ (fs.getD j 0 = 1 ∨ fs.getD ((j + fs.length - 1) % fs.length) 0 = -1) :=
    ⟨fun h => h.elim (fun a => .inl a.2) (fun a => .inr a.2), fun a => a.elim (fun b => .inl ⟨hj, b⟩) (fun b => .inr ⟨h, b⟩)⟩
  unfold goTo goes
  by_cases c : fs.getD j 0 = 1 ∨ fs.getD ((j + fs.length - 1) % fs.length) 0 = -1
  · rw [if_pos (e.2 c), if_pos c]
  · rw [if_neg (fun a => c (e.1 a)), if_neg c]
theorem goTo_same {fs : List Int} {k j : Nat} (h1 : ¬ (k = j ∧ fs.getD k 0 = 1)) (h2 : ¬ (k = (j + fs.length - 1) % fs.length ∧ fs.getD k 0 = -1)) : goTo fs (k + 1) j = goTo fs k j := by
  unfold goTo
  generalize (j + fs.length - 1) % fs.length = p at *
  have e : ((j < k + 1 ∧ fs.getD j 0 = 1) ∨ (p < k + 1 ∧ fs.getD p 0 = -1)) ↔ ((j < k ∧ fs.getD j 0 = 1) ∨ (p < k ∧ fs.getD p 0 = -1)) := by
    constructor
    · rintro (⟨a, b⟩ | ⟨a, b⟩)
      · refine .inl ⟨?_, b⟩
        by_cases c : k = j
        · subst c; exact absurd ⟨rfl, b⟩ h1
        · omega
      · refine .inr ⟨?_, b⟩
        by_cases c : k = p
        · subst c; exact absurd ⟨rfl, b⟩ h2
        · omega
    · rintro (⟨a, b⟩ | ⟨a, b⟩)
      · exact .inl ⟨by omega, b⟩
      · exact .inr ⟨by omega, b⟩
  by_cases c : (j < k ∧ fs.getD j 0 = 1) ∨ (p < k ∧ fs.getD p 0 = -1)
  · rw [if_pos (e.2 c), if_pos c]
  · rw [if_neg (fun a => c (e.1 a)), if_neg c]
theorem goTo_up {fs : List Int} {k : Nat} (h : fs.getD k 0 = 1) (j : Nat) : goTo fs (k + 1) j = if k = j then 1 else goTo fs k j := by
  by_cases c : k = j
  · subst c
    rw [if_pos rfl]
    unfold goTo
    rw [if_pos (.inl ⟨by omega, h⟩)]
  · rw [if_neg c]
    exact goTo_same (fun a => c a.1) (fun a => by have := a.2; omega)
theorem goTo_down {fs : List Int} (h3 : 3 ≤ fs.length) (h6 : fs.length ≤ 6) {k : Nat} (hk : k < fs.length) (h : fs.getD k 0 = -1) {j : Nat} (hj : j < fs.length) : goTo fs (k + 1) j = if (k + 1) % fs.length = j then 1 else goTo fs k j := by
  obtain ⟨_, _, _, t1⟩ := ring_turns fs.length (by omega) h3 k hk
  obtain ⟨_, _, t2, _⟩ := ring_turns fs.length (by omega) h3 j hj
  by_cases c : (k + 1) % fs.length = j
  · rw [if_pos c]
    unfold goTo
    rw [← c, t1, if_pos (.inr ⟨by omega, h⟩)]
  · rw [if_neg c]
    exact goTo_same (fun a => by have := a.2; omega) (fun a => c (by rw [a.1]; exact t2))
theorem goTo_none {fs : List Int} {k : Nat} (h1 : ¬ fs.getD k 0 = 1) (h2 : ¬ fs.getD k 0 = -1) (j : Nat) : goTo fs (k + 1) j = goTo fs k j :=
  goTo_same (fun a => h1 a.2) (fun a => h2 a.2)
/-- Which nodes go on. -/
def goL (fs : List Int) : List Int := (List.range fs.length).map (goes fs)
theorem goL_length (fs : List Int) : (goL fs).length = fs.length := by simp [goL]
theorem goL_get {fs : List Int} {k : Nat} (h : k < fs.length) : (goL fs).getD k 0 = goes fs k := by
  simp [goL, List.getD_eq_getElem?_getD, h]
end Nt
end Go.Proofs.Ytlcbpnbehbgbeaa
