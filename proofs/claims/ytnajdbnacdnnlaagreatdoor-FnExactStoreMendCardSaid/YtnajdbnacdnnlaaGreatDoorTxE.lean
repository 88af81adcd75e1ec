/-
  Texts held against each other, and parts of texts (for any seat).
-/
import Derived.Test.YtnajdbnacdnnlaaGreatDoorTxB
import Derived.Test.YtnajdbnacdnnlaaGreatDoorSA
import Derived.Lib.Strings
namespace Go.Proofs.YtnajdbnacdnnlaaGreatDoor
open Go.RowKit

/-- Two texts held against each other, as the walk has them. -/
theorem toList_nums (s : ByteArray) : s.toList.map UInt8.toNat = tx s := by unfold tx; rw [Lib.toList_data]
theorem str_beq (s : ByteArray) (l : List UInt8) : (s.toList == l) = decide (tx s = l.map UInt8.toNat) := by
  rw [← toList_nums]
  by_cases h : s.toList = l
  · rw [h, beq_self_eq_true, decide_eq_true rfl]
  · rw [beq_eq_false_iff_ne.2 h, decide_eq_false (fun e => h (toNat_inj e))]
theorem str_yes {a b : ByteArray} (h : tx a = tx b) : (a.toList == b.toList) = true := by rw [str_beq, toList_nums, decide_eq_true h]
theorem str_no {a b : ByteArray} (h : ¬ tx a = tx b) : (a.toList == b.toList) = false := by rw [str_beq, toList_nums, decide_eq_false h]

/-- A part of a text. -/
theorem tx_part (s : ByteArray) (a b : Nat) : tx (s.extract a b) = ((tx s).take b).drop a := by
  unfold tx
  rw [ByteArray.data_extract, Array.toList_extract]
  simp [List.map_drop, List.map_take, List.drop_take]
theorem cut_more {sep : Nat} {t : List Nat} {f k : Nat} (hf : f ≤ k) (hk : k < t.length) (h : t.getD k 0 ≠ sep) : Nt.cutFrom sep ((t.take k).drop f) (t.drop k) = Nt.cutFrom sep ((t.take (k + 1)).drop f) (t.drop (k + 1)) := by
  have e1 : t.drop k = t.getD k 0 :: t.drop (k + 1) := by
    rw [List.drop_eq_getElem_cons hk]
    simp [List.getD_eq_getElem?_getD, hk]
  have e2 : (t.take (k + 1)).drop f = (t.take k).drop f ++ [t.getD k 0] := by
    rw [List.take_succ_eq_append_getElem hk, List.drop_append_of_le_length (by rw [List.length_take]; omega)]
    simp [List.getD_eq_getElem?_getD, hk]
  rw [e1, e2, Nt.cutFrom, if_neg h]
theorem cut_hit {sep : Nat} {t : List Nat} {f k : Nat} (hk : k < t.length) (h : t.getD k 0 = sep) : Nt.cutFrom sep ((t.take k).drop f) (t.drop k) = (t.take k).drop f :: Nt.cutFrom sep ((t.take (k + 1)).drop (k + 1)) (t.drop (k + 1)) := by
  have e1 : t.drop k = t.getD k 0 :: t.drop (k + 1) := by
    rw [List.drop_eq_getElem_cons hk]
    simp [List.getD_eq_getElem?_getD, hk]
  have e2 : (t.take (k + 1)).drop (k + 1) = [] := List.drop_eq_nil_of_le (by rw [List.length_take]; omega)
  rw [e1, e2, Nt.cutFrom, if_pos h]
end Go.Proofs.YtnajdbnacdnnlaaGreatDoor
