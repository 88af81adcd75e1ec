/-
  Walks: distances, for all numbers.
-/
import Derived.Test.YtjogkppgmomggacW9
namespace Go.Proofs.Ytjogkppgmomggac
open Go.RowKit

theorem Nt.farOf_small (xs : List Int) (set : Int) : (Nt.farOf xs set).length ≤ 2000000 := by
  unfold Nt.farOf
  split
  · rename_i h
    obtain ⟨ns, rfl, hok⟩ := Nt.okB_ok h.1
    rw [Nt.far_length, Nt.nats_toNat]
    have := hok.few
    omega
  · simp

set_option maxHeartbeats 1000000 in
theorem iFar_any (xs : List Int) (set : Int) (w : World) (v : Value) (base : Nat) (hs : Sl w base v xs) :
    Calls Try.prog 16 #[v, .int .i64 set] w fun e w' => ∃ u, e = .returned u ∧ Sl w' w.heap.size u (Nt.farOf xs set) ∧ Kept [] w w' := by
  by_cases ho : Nt.okB xs = true
  · obtain ⟨ns, rfl, hok⟩ := Nt.okB_ok ho
    have hfew := hok.few
    by_cases h1 : 0 ≤ set ∧ set < 2 ^ (Nt.nats ns).length
    · obtain ⟨m, rfl⟩ := Int.eq_ofNat_of_zero_le h1.1
      have hm : m < 2 ^ ns.length := by rw [Nt.nats_length] at h1; exact_mod_cast h1.2
      rw [Nt.farOf_ok hok hm]
      exact iFar_ok ns hok m hm w v base hs
    · have hd : decide (0 ≤ set ∧ set < 2 ^ ((Nt.nats ns).length : Int).toNat) = false := dec_not (by simpa using h1)
      have HF := Lib.hid (Nt.farOf_no (xs := Nt.nats ns) (set := set) (fun h => h1 ⟨h.2.1, h.2.2⟩))
      have h6 : (Nt.nats ns).length ≤ 6 := by rw [Nt.nats_length]; exact hfew
      have HS := Lib.hid hs
      obtain ⟨a, cap, rfl, _, _, _⟩ := hs.any
      clear h1 hok hs hfew
      go_enter Try.func16, Try.ntmps16
      go_wp2_with (first | (go_at_call 14; refine (iNetOk_any (Nt.nats ns) _ _ base HS.out).mono ?_; rintro e w' ⟨rfl, rfl⟩) | (go_at_call 40; refine (setOk_any _ _ _ (by omega) (by omega)).mono ?_; rintro e w' ⟨rfl, rfl⟩; rw [hd]))
      go_ret
      exact ⟨_, rfl, by rw [HF.out]; exact Sl.nil _ _, Kept.refl _ _⟩
  · have ho' : Nt.okB xs = false := by simpa using ho
    have HF := Lib.hid (Nt.farOf_no (xs := xs) (set := set) (fun h => ho h.1))
    have HS := Lib.hid hs
    obtain ⟨a, cap, rfl, _, _, _⟩ := hs.any
    clear ho hs
    go_enter Try.func16, Try.ntmps16
    go_wp2_with (go_at_call 14; refine (iNetOk_any xs _ _ base HS.out).mono ?_; rintro e w' ⟨rfl, rfl⟩)
    go_ret
    exact ⟨_, rfl, by rw [HF.out]; exact Sl.nil _ _, Kept.refl _ _⟩

theorem Sl.empty (w : World) : Sl (w.alloc (.cells #[] 3)) w.heap.size (.slice (some ⟨w.heap.size, 0, none⟩) 0 0) [] := Sl.lit w [] (by simp)

theorem Sl.rebase {w w0 : World} {u : Value} {xs : List Int} (h : Sl w w0.heap.size u xs) {w1 : World} (hs : w1.heap.size ≤ w0.heap.size) : Sl w w1.heap.size u xs := h.mono hs

end Go.Proofs.Ytjogkppgmomggac
