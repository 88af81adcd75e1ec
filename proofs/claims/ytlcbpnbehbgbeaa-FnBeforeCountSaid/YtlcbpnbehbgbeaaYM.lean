/-
  Walks: fronts, by the model.
  Walks: moves of fronts, states of fronts, windings and numbers of rings, by the model.
  Walks: numbers of ring states and of fronts, by the model.
-/
import Derived.Test.YtlcbpnbehbgbeaaUM
import Derived.Test.YtlcbpnbehbgbeaaRA
namespace Go.Proofs.Ytlcbpnbehbgbeaa
open Go.RowKit

theorem tmod3_zero (s : Int) : (s.tmod 3 == 0) = decide (s % 3 = 0) := by
  rw [Bool.eq_iff_iff, beq_iff_eq, decide_eq_true_iff]
  rcases Int.le_total 0 s with h | h
  · rw [Int.tmod_eq_emod_of_nonneg h]
  · obtain ⟨m, rfl⟩ : ∃ m, s = -m := ⟨-s, by omega⟩
    rw [Int.neg_tmod, Int.tmod_eq_emod_of_nonneg (by omega)]
    omega

theorem mod_int (a n : Nat) : ((a : Int)).tmod (n : Int) = ((a % n : Nat) : Int) := by
  rw [Int.tmod_eq_emod_of_nonneg (by omega)]; simp

theorem frow_take (ks : List Nat) (k : Nat) (h : k < ks.length) : (Nt.frow ks).take (k + 1) = (Nt.frow ks).take k ++ [(Nt.frow ks).getD k 0] := by
  have hl : k < (Nt.frow ks).length := by rw [Nt.frow_length]; exact h
  rw [List.take_succ_eq_append_getElem hl]
  simp [List.getD_eq_getElem?_getD, List.getElem?_eq_getElem hl]

end Go.Proofs.Ytlcbpnbehbgbeaa

namespace Go.Proofs.Ytlcbpnbehbgbeaa
open Go.RowKit

theorem takeF_succ (xs : List Int) (k : Nat) (h : k < xs.length) : xs.take (k + 1) = xs.take k ++ [xs.getD k 0] := by
  rw [List.take_succ_eq_append_getElem h]
  simp [List.getD_eq_getElem?_getD, h]

theorem next_kind (a : Nat) (fs : List Int) (k x : Nat) (d : Int) (hx : x = (((a : Int) + Nt.sumI fs k) % 3).toNat) (hd : fs.getD k 0 = d) (h1 : -1 ≤ d) : ((x : Int) + d + 3).tmod 3 = (((((a : Int) + Nt.sumI fs (k + 1)) % 3).toNat : Nat) : Int) := by
  rw [Int.tmod_eq_emod_of_nonneg (by omega), Nt.sumI, hd]
  omega

end Go.Proofs.Ytlcbpnbehbgbeaa

namespace Go.Proofs.Ytlcbpnbehbgbeaa
open Go.RowKit

end Go.Proofs.Ytlcbpnbehbgbeaa
