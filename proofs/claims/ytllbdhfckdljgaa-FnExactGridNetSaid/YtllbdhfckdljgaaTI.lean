/-
  Walks: turns of a state, stillness, runs of turns and their loops, by the program.
  Walks: how often nodes turn, by the program.
-/
import Derived.Test.YtllbdhfckdljgaaFC
import Derived.Test.YtllbdhfckdljgaaTA
import Derived.Test.YtllbdhfckdljgaaFB
namespace Go.Proofs.Ytllbdhfckdljgaa
open Go.RowKit

/-- Whether a set has a node among the first ones with a kind. -/
def hasK (s q : Nat) (ks : List Nat) (j : Nat) : Bool := (List.range j).any fun i => s.testBit i && decide (ks.getD i 0 = q)
theorem hasK_succ (s q : Nat) (ks : List Nat) (j : Nat) : hasK s q ks (j + 1) = (hasK s q ks j || (s.testBit j && decide (ks.getD j 0 = q))) := by
  unfold hasK
  rw [List.range_succ, List.any_append]
  simp
theorem hasK_all {s q : Nat} {ks : List Nat} {j n : Nat} (h : j < n) (e : (s.testBit j && decide (ks.getD j 0 = q)) = true) : hasK s q ks n = true := by
  unfold hasK
  rw [List.any_eq_true]
  exact ⟨j, List.mem_range.2 h, e⟩

theorem turningOk_any (xs : List Int) (ys : List Int) (w : World) (v : Value) (base : Nat) (u : Value) (base' : Nat) (hs : Sl w base v xs) (ht : Sl w base' u ys) :
    Calls Try.prog 51 #[v, u] w fun e w' => e = .returned (.bool (Nt.fireB xs 3 ys)) ∧ w = w' := by
  have HS := Lib.hid hs
  have HT := Lib.hid ht
  obtain ⟨a, cap, rfl, _, hm, _⟩ := hs.any
  obtain ⟨a', cap', rfl, _, hm', _⟩ := ht.any
  clear hs ht
  go_enter Try.func51, Try.ntmps51
  go_wp2_with (go_at_call 62; refine (firingOk_any xs 3 ys _ _ _ _ _ HS.out HT.out).mono ?_; rintro e w' ⟨rfl, rfl⟩)
  go_ret
  exact ⟨rfl, rfl⟩

/-- One box: a slice. -/
theorem one_box (w : World) (t : TypeId) (v : Value) :
    Kept [] w (w.alloc (.cells #[v] t)) ∧ (w.alloc (.cells #[v] t)).cell? ⟨w.heap.size, 0, none⟩ = some v ∧ (w.alloc (.cells #[v] t)).heap.size = w.heap.size + 1 :=
  ⟨(Kept.refl _ _).alloc _, (Boxed.new w t v).cell, by simp⟩

end Go.Proofs.Ytllbdhfckdljgaa

namespace Go.Proofs.Ytllbdhfckdljgaa
open Go.RowKit

/-- Counts and what is added in the round from state to state. -/
def addD (cs ks js : List Nat) : List Nat := (List.range cs.length).map fun k => cs.getD k 0 + (js.getD k 0 + 3 - ks.getD k 0) % 3
theorem addD_length (cs ks js : List Nat) : (addD cs ks js).length = cs.length := by simp [addD]
theorem addD_get (cs ks js : List Nat) {k : Nat} (h : k < cs.length) : (addD cs ks js).getD k 0 = cs.getD k 0 + (js.getD k 0 + 3 - ks.getD k 0) % 3 := by
  unfold addD
  rw [List.getD_eq_getElem?_getD, List.getElem?_map, List.getElem?_range h]
  rfl
theorem addD_turned {ns ks : List Nat} (st : Nt.St 3 ks) (t : Nat) : addD (Nt.turnedL ns ks t) (Nt.turns ns ks t) (Nt.turn ns (Nt.turns ns ks t)) = Nt.turnedL ns ks (t + 1) := by
  apply Nt.ext_getD
  · rw [addD_length, Nt.turnedL_length, Nt.turnedL_length]
  · intro k hk
    rw [addD_length] at hk
    have hk2 : k < ks.length := by rw [Nt.turnedL_length] at hk; exact hk
    rw [addD_get _ _ _ hk, Nt.turnedL_next st t hk2]
    have h1 := (Nt.turns_st ns st t).lt k (by rw [Nt.turns_length]; exact hk2)
    have h2 := Nt.turn_get ns (Nt.turns ns ks t) (k := k) (by rw [Nt.turns_length]; exact hk2)
    rw [show Nt.turns ns ks (t + 1) = Nt.turn ns (Nt.turns ns ks t) from rfl, h2]
    congr 1
    generalize (Nt.turns ns ks t).getD k 0 = x at *
    unfold Nt.turnK
    cases Nt.pullB ns (Nt.turns ns ks t) k
    · simp
    · rw [if_pos rfl, if_pos (by omega)]; omega
theorem sub_mod3 (x y : Nat) (hx : x < 3) (hy : y < 3) : ((y : Int) - (x : Int) + 3).tmod 3 = (((y + 3 - x) % 3 : Nat) : Int) := by
  rw [show (y : Int) - (x : Int) + 3 = ((y + 3 - x : Nat) : Int) by omega]
  exact tmod_nat _ 3

theorem turnedL_few (ns ks : List Nat) (t : Nat) (ht : t ≤ 60) (k : Nat) (hk : k < ks.length) : (Nt.turnedL ns ks t).getD k 0 ≤ 1000 := by
  rw [Nt.turnedL_get _ _ _ hk]
  have := Nt.turned_le ns ks k t
  omega

end Go.Proofs.Ytllbdhfckdljgaa
