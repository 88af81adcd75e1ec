/-
  Slices of natural numbers; small facts of numbers.
-/
import Derived.Test.YtahjplaidkibpaaOps
import Derived.Test.YtahjplaidkibpaaPureO
namespace Go.Proofs.Ytahjplaidkibpaa
open Go.RowKit

theorem Sl.empty3 (w : World) : Sl (w.alloc (.cells #[] 3)) w.heap.size (.slice (some ⟨w.heap.size, 0, none⟩) 0 0) [] := Sl.lit w [] (by simp)

theorem nats_zeros (n : Nat) : Nt.nats (List.replicate n 0) = List.replicate n 0 := by simp [Nt.nats]

/-- A slice of natural numbers in memory: where it lies, and its cells. -/
theorem Sl.row {w : World} {base n : Nat} {v : Value} {ks : List Nat} (h : Sl w base v (Nt.nats ks)) (hn : ks.length = n) (hp : 0 < n) :
    ∃ g cap, v = .slice (some ⟨g, 0, none⟩) n cap ∧ g < w.heap.size ∧ (∀ k, k < n → w.cell? ⟨g, k, none⟩ = some (.int .i64 ((ks.getD k 0 : Nat) : Int))) := by
  obtain ⟨g, cap, rfl, _, hg⟩ := h.shape (n := n) (by rw [Nt.nats_length]; exact hn) hp
  exact ⟨g, cap, rfl, hg, fun k hk => ((h.at k (by rw [Nt.nats_length]; omega)).1).trans (by rw [Nt.nats_get])⟩

theorem put_zero (n : Nat) (os : List Nat) (f : Nat → Nat) : Nt.nats (Nt.putTo n os f 0) = List.replicate n 0 := nats_zeros n

theorem i64_le {a : Int} (h : (Lit.int .i64 a).wf = true) : a ≤ 9223372036854775807 := by
  simp only [Lit.wf, IntKind.min, IntKind.max, IntKind.signed, IntKind.bits, Bool.and_eq_true] at h
  simp at h
  omega

theorem tmod_nat (q c : Nat) : (q : Int).tmod (c : Int) = ((q % c : Nat) : Int) := by
  rw [Int.tmod_eq_emod_of_nonneg (by omega)]; simp
theorem tdiv_nat (q c : Nat) : (q : Int).tdiv (c : Int) = ((q / c : Nat) : Int) := by
  rw [Int.tdiv_eq_ediv_of_nonneg (by omega)]; simp

end Go.Proofs.Ytahjplaidkibpaa
