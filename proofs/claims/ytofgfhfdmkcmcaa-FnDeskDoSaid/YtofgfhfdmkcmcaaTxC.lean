/-
  Walks: texts read as numbers, by the model.
-/
import Derived.Test.YtofgfhfdmkcmcaaTxB
import Derived.Test.YtofgfhfdmkcmcaaKA
namespace Go.Proofs.Ytofgfhfdmkcmcaa
open Go.RowKit

theorem take_tx {s : ByteArray} {k : Nat} (h : k < s.size) : (tx s).take (k + 1) = (tx s).take k ++ [s[k].toNat] := by
  have hl : k < (tx s).length := by rw [tx_length]; exact h
  rw [List.take_succ_eq_append_getElem hl, ← tx_get h]
  simp [List.getD_eq_getElem?_getD, List.getElem?_eq_getElem hl]
theorem val_take {s : ByteArray} {k : Nat} (h : k < s.size) : Nt.valFrom 0 ((tx s).take (k + 1)) = 10 * Nt.valFrom 0 ((tx s).take k) + (s[k].toNat - 48) := by
  rw [take_tx h, Nt.valFrom_append, Nt.valFrom_one]
theorem isNum_no1 {s : List Nat} (h : ¬ (1 ≤ s.length ∧ s.length ≤ 6)) : Nt.dval s = -1 := by
  unfold Nt.dval Nt.isNum
  rw [decide_eq_false h]; rfl
theorem isNum_no2 {s : List Nat} (h1 : 1 < s.length) (h2 : s.getD 0 0 = 48) : Nt.dval s = -1 := by
  unfold Nt.dval Nt.isNum
  rw [decide_eq_true h1, decide_eq_true h2]; simp
theorem isNum_no3 {s : List Nat} {k : Nat} (hk : k < s.length) (h : ¬ (48 ≤ s.getD k 0 ∧ s.getD k 0 ≤ 57)) : Nt.dval s = -1 := by
  unfold Nt.dval
  rw [if_neg]
  intro e
  unfold Nt.isNum at e
  rw [Bool.and_eq_true, List.all_eq_true] at e
  have := e.2 (s.getD k 0) (by rw [List.getD_eq_getElem?_getD, List.getElem?_eq_getElem hk]; exact List.getElem_mem hk)
  exact h (of_decide_eq_true this)
theorem isNum_yes {s : List Nat} (h1 : 1 ≤ s.length ∧ s.length ≤ 6) (h2 : ¬ (1 < s.length ∧ s.getD 0 0 = 48)) (h3 : ∀ k, k < s.length → 48 ≤ s.getD k 0 ∧ s.getD k 0 ≤ 57) : Nt.dval s = ((Nt.valFrom 0 s : Nat) : Int) := by
  unfold Nt.dval
  rw [if_pos]
  unfold Nt.isNum
  rw [Bool.and_eq_true, Bool.and_eq_true, decide_eq_true_eq, Bool.not_eq_true', Bool.and_eq_false_iff, decide_eq_false_iff_not, decide_eq_false_iff_not, List.all_eq_true]
  refine ⟨⟨h1, ?_⟩, fun x hx => ?_⟩
  · by_cases a : 1 < s.length
    · exact .inr fun b => h2 ⟨a, b⟩
    · exact .inl a
  · obtain ⟨i, hi, rfl⟩ := List.mem_iff_getElem.1 hx
    have := h3 i hi
    rw [List.getD_eq_getElem?_getD, List.getElem?_eq_getElem hi, Option.getD_some] at this
    exact decide_eq_true this

end Go.Proofs.Ytofgfhfdmkcmcaa
