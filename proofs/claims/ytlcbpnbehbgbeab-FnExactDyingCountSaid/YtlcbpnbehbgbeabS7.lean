/-
  Walks: numbers of states, by the program (an iterator that goes backwards) and by the model.
-/
import Derived.RangeFuncNested
import Derived.RangeFuncBound
import Derived.RangeFuncCalls
import Derived.RangeFuncLeaves
import Derived.RangeFuncFrom
import Derived.RangeFuncBox
import Derived.Shelf.Abstract
import Derived.Shelf.RegionOpen
import Derived.OwnWalkIn
import Derived.TacticsInMore
import Derived.LoopNIn
import Derived.LoopIn
import Derived.Test.YtlcbpnbehbgbeabNA
namespace Go.Proofs.Ytlcbpnbehbgbeab
open Go.RowKit Go.Shelf
open Nt (stB)

/-- What has come when j rounds are over. -/
def backTo (ks : List Nat) (n j : Nat) : List (Nat × Nat) := (List.range j).map fun i => (n - 1 - i, ks.getD (n - 1 - i) 0)
theorem backTo_succ (ks : List Nat) (n j : Nat) : backTo ks n (j + 1) = backTo ks n j ++ [(n - 1 - j, ks.getD (n - 1 - j) 0)] := by simp [backTo, List.range_succ]
theorem backTo_length (ks : List Nat) (n j : Nat) : (backTo ks n j).length = j := by simp [backTo]

/-- What lay below n₀ is as it was, and one block beside. -/
def KB (n₀ Bs : Nat) (A B : World) : Prop := Below n₀ A B ∧ B.heap[Bs]? = A.heap[Bs]?
theorem KB.refl (n₀ Bs : Nat) (A : World) : KB n₀ Bs A A := ⟨Below.refl _ _, rfl⟩
theorem KB.trans {n₀ Bs : Nat} {A B C : World} (h : KB n₀ Bs A B) (k : KB n₀ Bs B C) : KB n₀ Bs A C := ⟨h.1.trans k.1, k.2.trans h.2⟩
theorem KB.box {n₀ Bs : Nat} {A B : World} (h : KB n₀ Bs A B) : B.cell? ⟨Bs, 0, none⟩ = A.cell? ⟨Bs, 0, none⟩ := World.cell?_of_block h.2

/-- The number so far. -/
def numW (c : Nat) (pre : List (Nat × Nat)) : Int := pre.foldl (fun a x => wrap64 (wrap64 (a * (c : Int)) + (x.2 : Int))) 0
theorem numW_snoc (c : Nat) (pre : List (Nat × Nat)) (x : Nat × Nat) : numW c (pre ++ [x]) = wrap64 (wrap64 (numW c pre * (c : Int)) + (x.2 : Int)) := by simp [numW]

theorem numW_back {c : Nat} {ks : List Nat} (h : Nt.St c ks) : ∀ j, j ≤ ks.length → numW c (backTo ks ks.length j) = ((Nt.num c (ks.drop (ks.length - j)) : Nat) : Int)
  | 0, _ => by rw [Nat.sub_zero, List.drop_length]; rfl
  | j + 1, hj => by
    have ih := numW_back h j (by omega)
    obtain ⟨i, hi⟩ : ∃ i, i = ks.length - 1 - j := ⟨_, rfl⟩
    have e : ks.length - j = i + 1 := by omega
    have e2 : ks.length - (j + 1) = i := by omega
    have hb := Nt.num_small h (i + 1)
    have hlt := h.lt i (by omega)
    have h5 := h.c5
    rw [e] at ih
    rw [backTo_succ, numW_snoc, ih, e2, ← hi, Nt.num_drop (k := i) (by omega)]
    generalize Nt.num c (ks.drop (i + 1)) = q at *
    show wrap64 (wrap64 ((q : Int) * (c : Int)) + ((ks.getD i 0 : Nat) : Int)) = _
    generalize ks.getD i 0 = x at *
    have hmul : q * c ≤ 15625 * 5 := Nat.mul_le_mul (by omega) h5
    have e1 : (q : Int) * (c : Int) = ((q * c : Nat) : Int) := by simp
    rw [e1]
    generalize q * c = p at *
    rw [show wrap64 (p : Int) = (p : Int) from IntWalk.wrap64_in _ (by omega), show wrap64 ((p : Int) + (x : Int)) = (p : Int) + (x : Int) from IntWalk.wrap64_in _ (by omega)]
    omega

end Go.Proofs.Ytlcbpnbehbgbeab
