/-
  Journals read of texts, in one form with those of exact laws.
-/
import Derived.Test.YtaacehdfpoiljaaDoorIQ5
import Derived.Test.YtaacehdfpoiljaaDoorED
namespace Go.Proofs.YtaacehdfpoiljaaDoor
open Go.RowKit

theorem jrn_count (l : List Nt.Dd) : l.length ≤ (Nt.jrnT l).length := by
  induction l with
  | nil => exact Nat.le_refl _
  | cons d l ih =>
    show l.length + 1 ≤ (Nt.deedT d ++ 10 :: Nt.jrnT l).length
    rw [List.length_append, List.length_cons]; omega
theorem jgo_count (t : List Nat) : (Nt.jgo [] t).length ≤ Nt.jlen [] t := by
  have h1 := jrn_count (Nt.jgo [] t)
  rw [Nt.jgo_text, List.length_take] at h1
  omega
theorem iReadJournalN_any (s : ByteArray) (hs : s.size ≤ 1100000) (w : World) (he : ErrW w) :
    Calls Tryd.prog 32 #[.string s] w fun e w' => ∃ u, e = .returned (.tuple #[u, .int .i64 (Nt.jlen [] (tx s) : Nat)]) ∧ Dn w' w.heap.size w'.heap.size u (Nt.jgo [] (tx s)) ∧ Kept [] w w' :=
  (iReadJournal_any s hs w he).mono (by
    rintro e w' ⟨u, rfl, h, hk⟩
    exact ⟨u, rfl, ⟨h, fun _ hg => (Tg.block h hg).2⟩, hk⟩)
theorem heldDeedS_n (m : Int) (h0 : 0 ≤ m) (n : Nat) (hT : m + 3 * (n : Nat) ≤ 10000000) (w : World) (v : Value) (base : Nat) (hs : Dg w base v (marksD m n)) :
    Calls Tryd.prog 46 #[v, .int .i64 m] w fun e w' => e = .returned (.int .i64 (m + 3 * (n : Nat))) ∧ Kept [] w w' :=
  (heldDeedS_any m h0 n hT w v base hs).mono (by rintro e w' ⟨rfl, rfl⟩; exact ⟨rfl, Kept.refl _ _⟩)
end Go.Proofs.YtaacehdfpoiljaaDoor
