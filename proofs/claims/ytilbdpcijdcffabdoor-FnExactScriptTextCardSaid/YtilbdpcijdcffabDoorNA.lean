/-
  Walks: the neighbours of a set.
  Walks: what a net is, by the program.
  Walks: NetOk of the program.
  Walks: NetOk of the model.
  Walks: what a state is, by the program and by the model.
  Walks: counts of kinds, by the program and by the model.
  Walks: states of numbers, by the program and by the model.
  Walks: raised states, by the program and by the model.
  Walks: lit states, by the program and by the model.
-/
import Derived.Test.YtilbdpcijdcffabDoorKA
import Derived.Deep.QuietTactic
import Derived.BigQuiet
import Derived.Test.YtilbdpcijdcffabDoorPA
import Derived.StillTailTactics
namespace Go.Proofs.YtilbdpcijdcffabDoor
open Go.RowKit

end Go.Proofs.YtilbdpcijdcffabDoor

namespace Go.Proofs.YtilbdpcijdcffabDoor
open Go.RowKit

open Nt (badB goodTo bothB bothB_yes bothB_no goodTo_succ)

end Go.Proofs.YtilbdpcijdcffabDoor

namespace Go.Proofs.YtilbdpcijdcffabDoor
open Go.RowKit
open Nt (okB bothB)

/-- The first k nodes are as they should be. -/
def fineTo (xs : List Int) (k : Nat) : Prop := ∀ i, i < k → (0 ≤ xs.getD i 0 ∧ xs.getD i 0 < 2 ^ xs.length) ∧ bothB xs i = true

theorem fineTo_succ {xs : List Int} {k : Nat} (h : fineTo xs k) (h1 : 0 ≤ xs.getD k 0 ∧ xs.getD k 0 < 2 ^ xs.length) (h2 : bothB xs k = true) : fineTo xs (k + 1) := by
  intro j hj
  by_cases e : j = k
  · subst e; exact ⟨h1, h2⟩
  · exact h j (by omega)

end Go.Proofs.YtilbdpcijdcffabDoor

namespace Go.Proofs.YtilbdpcijdcffabDoor
open Go.RowKit
open Nt (okB bothB)

/-- The first k sets are of the nodes of the net. -/
def fitTo (xs : List Int) (k : Nat) : Prop := ∀ i, i < k → 0 ≤ xs.getD i 0 ∧ xs.getD i 0 < 2 ^ xs.length

theorem fitTo_succ {xs : List Int} {k : Nat} (h : fitTo xs k) (h1 : 0 ≤ xs.getD k 0 ∧ xs.getD k 0 < 2 ^ xs.length) : fitTo xs (k + 1) := by
  intro j hj
  by_cases e : j = k
  · subst e; exact h1
  · exact h j (by omega)

def bothTo (xs : List Int) (k : Nat) : Prop := ∀ i, i < k → bothB xs i = true

theorem bothTo_succ {xs : List Int} {k : Nat} (h : bothTo xs k) (h1 : bothB xs k = true) : bothTo xs (k + 1) := by
  intro j hj
  by_cases e : j = k
  · subst e; exact h1
  · exact h j (by omega)

end Go.Proofs.YtilbdpcijdcffabDoor

namespace Go.Proofs.YtilbdpcijdcffabDoor
open Go.RowKit
open Nt (stB stB_iff stB_no kindTo kindTo_succ)

set_option maxHeartbeats 400000 in
set_option maxRecDepth 100000 in
theorem nodesOk_any (n : Int) (w : World) :
    Calls Tryd.prog 25 #[.int .i64 n] w fun e w' => e = .returned (.bool (decide (1 ≤ n ∧ n ≤ 6))) ∧ w = w' := by
  by_cases a : 1 ≤ n <;> by_cases b : n ≤ 6
  all_goals
    go_enter Tryd.func25, Tryd.ntmps25
    go_wp2
    go_ret
    exact ⟨by simp [a, b], rfl⟩

end Go.Proofs.YtilbdpcijdcffabDoor

namespace Go.Proofs.YtilbdpcijdcffabDoor
open Go.RowKit
open Nt (stB)

end Go.Proofs.YtilbdpcijdcffabDoor

namespace Go.Proofs.YtilbdpcijdcffabDoor
open Go.RowKit

theorem pow_div (m c k : Nat) : m / c ^ (k + 1) = m / c ^ k / c := by
  rw [Nat.pow_succ, Nat.div_div_eq_div_mul]

theorem div_zero_iff {m c n : Nat} (hc : 0 < c) : m / c ^ n = 0 ↔ m < c ^ n := by
  rw [Nat.div_eq_zero_iff]
  have := Nat.pow_pos (n := n) hc
  omega

theorem digits_take (c m k : Nat) : Nt.nats (Nt.digits c m (k + 1)) = Nt.nats (Nt.digits c m k) ++ [((m / c ^ k % c : Nat) : Int)] := by
  rw [Nt.digits_succ]
  simp [Nt.nats]

end Go.Proofs.YtilbdpcijdcffabDoor

namespace Go.Proofs.YtilbdpcijdcffabDoor
open Go.RowKit
open Nt (stB)

theorem succ_mod (k c : Nat) : ((k : Int) + 1).tmod (c : Int) = (((k + 1) % c : Nat) : Int) := by
  have e : (k : Int) + 1 = ((k + 1 : Nat) : Int) := by omega
  rw [e]; exact tmod_nat _ _

theorem raised_take (c : Nat) (ks : List Nat) (k : Nat) (h : k < ks.length) : Nt.nats ((Nt.raised c ks).take (k + 1)) = Nt.nats ((Nt.raised c ks).take k) ++ [(((ks.getD k 0 + 1) % c : Nat) : Int)] := by
  rw [Nt.take_more _ _ (by rw [Nt.raised_length]; exact h), Nt.raised_get _ _ _ h]

end Go.Proofs.YtilbdpcijdcffabDoor

namespace Go.Proofs.YtilbdpcijdcffabDoor
open Go.RowKit

theorem shr_rem (x j : Nat) : ((x : Int) / 2 ^ j).tmod 2 = if x.testBit j then 1 else 0 := by
  rw [Int.tmod_eq_emod_of_nonneg (shr_nonneg x j)]
  exact shr_bit x j

theorem pow_cast (n : Nat) : ((2 ^ n : Nat) : Int) = (2 : Int) ^ n := Int.natCast_pow 2 n

theorem lit_take (n s k : Nat) (h : k < n) : Nt.nats ((Nt.lit n s).take (k + 1)) = Nt.nats ((Nt.lit n s).take k) ++ [if s.testBit k then 1 else 0] := by
  rw [Nt.take_more _ _ (by rw [Nt.lit_length]; exact h), Nt.lit_get _ _ _ h]
  split <;> rfl

end Go.Proofs.YtilbdpcijdcffabDoor
