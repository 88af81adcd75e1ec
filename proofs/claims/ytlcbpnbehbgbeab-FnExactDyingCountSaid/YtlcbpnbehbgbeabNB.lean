/-
  Walks: the neighbours of a set, by the program and by the model.
  Walks: distances, by the model.
  Walks: distances, by the program; and both for all numbers.
  Walks: distances, for all numbers.
  Walks: paths and rings.
  Walks: paths and rings, by the program and by the model.
  Walks: paths and rings, by the model.
  Walks: rings, by the model.
-/
import Derived.Test.YtlcbpnbehbgbeabNA
import Derived.Test.YtlcbpnbehbgbeabKA
import Derived.RegionTactic
import Derived.ChangeAlike
namespace Go.Proofs.Ytlcbpnbehbgbeab
open Go.RowKit
open Nt (okB)

end Go.Proofs.Ytlcbpnbehbgbeab

namespace Go.Proofs.Ytlcbpnbehbgbeab
open Go.RowKit

end Go.Proofs.Ytlcbpnbehbgbeab

namespace Go.Proofs.Ytlcbpnbehbgbeab
open Go.RowKit

/-- Filled up to k. -/
def fillTo (n k : Nat) : List Int := List.replicate k (-1) ++ List.replicate (n - k) 0
theorem fillTo_length (n k : Nat) (h : k ≤ n) : (fillTo n k).length = n := by simp [fillTo]; omega
theorem fillTo_set (n k : Nat) (h : k < n) : (fillTo n k).set k (-1) = fillTo n (k + 1) := by
  unfold fillTo
  rw [List.set_append_right _ _ (by simp)]
  have e : n - k = (n - (k + 1)) + 1 := by omega
  rw [e, List.length_replicate, Nat.sub_self, List.replicate_succ, List.set_cons_zero, List.replicate_succ', List.append_assoc]
  rfl

end Go.Proofs.Ytlcbpnbehbgbeab

namespace Go.Proofs.Ytlcbpnbehbgbeab
open Go.RowKit

theorem Nt.farOf_small (xs : List Int) (set : Int) : (Nt.farOf xs set).length ≤ 2000000 := by
  unfold Nt.farOf
  split
  · rename_i h
    obtain ⟨ns, rfl, hok⟩ := Nt.okB_ok h.1
    rw [Nt.far_length, Nt.nats_toNat]
    have := hok.few
    omega
  · simp

theorem Sl.empty (w : World) : Sl (w.alloc (.cells #[] 3)) w.heap.size (.slice (some ⟨w.heap.size, 0, none⟩) 0 0) [] := Sl.lit w [] (by simp)

theorem Sl.rebase {w w0 : World} {u : Value} {xs : List Int} (h : Sl w w0.heap.size u xs) {w1 : World} (hs : w1.heap.size ≤ w0.heap.size) : Sl w w1.heap.size u xs := h.mono hs

end Go.Proofs.Ytlcbpnbehbgbeab

namespace Go.Proofs.Ytlcbpnbehbgbeab
open Go.RowKit

end Go.Proofs.Ytlcbpnbehbgbeab

namespace Go.Proofs.Ytlcbpnbehbgbeab
open Go.RowKit

theorem pathOf_yes (n : Nat) (h : 1 ≤ n ∧ n ≤ 6) : Nt.pathOf (n : Int) = Nt.nats (Nt.pathN n) := by
  unfold Nt.pathOf
  rw [if_pos (by omega), Int.toNat_natCast]
theorem pathOf_no (n : Int) (h : ¬ (1 ≤ n ∧ n ≤ 6)) : Nt.pathOf n = [] := by
  unfold Nt.pathOf
  rw [if_neg h]
theorem ringOf_yes (n : Nat) (h : 3 ≤ n ∧ n ≤ 6) : Nt.ringOf (n : Int) = Nt.nats (Nt.ringN n) := by
  unfold Nt.ringOf
  rw [if_pos (by omega), Int.toNat_natCast]
theorem ringOf_no (n : Int) (h : ¬ (3 ≤ n ∧ n ≤ 6)) : Nt.ringOf n = [] := by
  unfold Nt.ringOf
  rw [if_neg h]

end Go.Proofs.Ytlcbpnbehbgbeab

namespace Go.Proofs.Ytlcbpnbehbgbeab
open Go.RowKit

theorem Sl.empty' (w : World) : Sl (w.alloc (.cells #[] 3)) w.heap.size (.slice (some ⟨w.heap.size, 0, none⟩) 0 0) [] := Sl.lit w [] (by simp)

theorem pow_lt64 {b : Nat} (h : b < 6) : 2 ^ b < 64 := Nat.pow_lt_pow_right (n := 6) (by omega) h

end Go.Proofs.Ytlcbpnbehbgbeab

namespace Go.Proofs.Ytlcbpnbehbgbeab
open Go.RowKit

theorem ring_bits {p q : Nat} (hp : p ≤ 5) (hq : q ≤ 5) : bits .or .i64 (IntKind.i64.wrap (2 ^ p)) (IntKind.i64.wrap (2 ^ q)) = ((2 ^ p ||| 2 ^ q : Nat) : Int) := by
  have h := or_shl (2 ^ p) q (pow_lt64 (by omega)) (by omega)
  rw [wrap_pow_nat p (by omega), IntWalk.i64_left]
  have e : (2 : Int) ^ p = ((2 ^ p : Nat) : Int) := (Int.natCast_pow 2 p).symm
  rw [e]
  exact h

end Go.Proofs.Ytlcbpnbehbgbeab
