/-
  Walks: the greatest distance from a node.
-/
import Derived.Test.YtebbfdpaplkmdaaNB
import Derived.Test.YtebbfdpaplkmdaaPA
namespace Go.Proofs.Ytebbfdpaplkmdaa
open Go.RowKit

set_option maxHeartbeats 1000000 in
theorem max_any (xs : List Int) (n : Nat) (hn : xs.length = n + 1) (w : World) (v : Value) (base : Nat) (hs : Sl w base v xs) :
    Calls Try.prog 74 #[v] w fun e w' => e = .returned (.int .i64 (Nt.topTo xs n)) ∧ w = w' := by
  obtain ⟨g, cap, rfl, _, _⟩ := hs.shape hn (by omega)
  have hc0 := (hs.at 0 (by omega)).1
  have HC := Lib.hid (fun k (hk : k < xs.length) => (hs.at k hk).1)
  have hlen := hs.len
  clear hs
  have h1 : ¬ ((n + 1 : Nat) : Int) < 1 := by omega
  generalize hx0 : xs.getD 0 0 = x0 at *
  have HX0 := Lib.hid hx0
  clear hx0
  have hmax : n ≤ 9223372036854775806 := by omega
  have HN := Lib.hid hn
  clear hlen hn
  go_enter Try.func74, Try.ntmps74
  go_wp2
  go_loop [3, 4] (fun a i => ∃ k : Nat, k ≤ n ∧ i = .int .i64 ((k : Int) + 1) ∧ a = .int .i64 (Nt.topTo xs k)) (fun _ i => n + 1 - (intOf i).toNat)
  case atStart => exact ⟨0, Nat.zero_le _, rfl, by rw [Nt.topTo, HX0.out]⟩
  case round =>
    obtain ⟨k, hk, rfl, rfl⟩ := hrel
    by_cases hlt : k < n
    · have hcell := HC.out (k + 1) (by have := HN.out; omega)
      have HT : Hid (Nt.topTo xs (k + 1) = max (Nt.topTo xs k) (xs.getD (k + 1) 0)) := Lib.hid rfl
      generalize Nt.topTo xs k = a at *
      generalize xs.getD (k + 1) 0 = b at *
      go_wp2
      go_round
      case rel => exact ⟨k + 1, by omega, by go_num, by rw [HT.out]; first | rfl | go_num⟩
      case measure => simp [intOf]; omega
    · have hk' : k = n := by omega
      subst hk'
      go_wp2
      go_ret
      exact ⟨rfl, rfl⟩

end Go.Proofs.Ytebbfdpaplkmdaa
