/-
  Walks: loops found by two runners, for any function that steps; loops of states, by the program.
  Walks: loops of states, by the program; states compared by the model.
  Walks: loops of states, by the model.
  Walks: after how many steps all nodes are at rest, by the program and by the model.
-/
import Derived.Test.YtllbdhfckdljgaaFA
import Derived.Deep.LoopGhost
namespace Go.Proofs.Ytllbdhfckdljgaa
open Go.RowKit

theorem meet_behind {α : Type} {s : Nat → α} {m l i : Nat} (h : Nt.IsLoop s m l) (t : Nt.Tells s) (hi : 1 ≤ i) (e : s i = s (i + i)) (b : Nat) : s b = s (i + i + b) ↔ m ≤ b := by
  have h1 := (h.runners t hi).1 e.symm
  have h2 : (i + i) % l = 0 := by rw [Nat.add_mod, h1.2]; simp
  have h3 := h.meets t (a := b) (d := i + i) (by omega)
  rw [Nat.add_comm b] at h3
  constructor
  · intro e2
    exact (h3.1 e2.symm).1
  · intro hb
    exact (h3.2 ⟨hb, h2⟩).symm

theorem dec_nats (a b : List Nat) : decide (Nt.nats a = Nt.nats b) = decide (a = b) := by
  by_cases h : a = b
  · subst h; simp
  · rw [decide_eq_false h, decide_eq_false (fun e => h (Nt.nats_inj e))]

theorem Sl.zero {w : World} {base : Nat} {v : Value} {xs : List Int} (h : Sl w base v xs) : Sl w 0 v xs := h.mono (Nat.zero_le _)

end Go.Proofs.Ytllbdhfckdljgaa

namespace Go.Proofs.Ytllbdhfckdljgaa
open Go.RowKit

end Go.Proofs.Ytllbdhfckdljgaa

namespace Go.Proofs.Ytllbdhfckdljgaa
open Go.RowKit

end Go.Proofs.Ytllbdhfckdljgaa

namespace Go.Proofs.Ytllbdhfckdljgaa
open Go.RowKit

end Go.Proofs.Ytllbdhfckdljgaa
