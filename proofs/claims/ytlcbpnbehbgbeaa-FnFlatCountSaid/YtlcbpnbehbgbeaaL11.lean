/-
  Walks: powers, as the laws reckon them; sums.
-/
import Derived.Test.YtlcbpnbehbgbeaaNP2
import Derived.Test.YtlcbpnbehbgbeaaD30
import Derived.Test.YtlcbpnbehbgbeaaL1
import Derived.Test.YtlcbpnbehbgbeaaNB
import Derived.Test.YtlcbpnbehbgbeaaYP
namespace Go.Proofs.Ytlcbpnbehbgbeaa
open Go.RowKit

set_option maxHeartbeats 1000000 in
set_option maxRecDepth 100000 in
theorem powerOf_any (n c : Nat) (h6 : n ≤ 6) (h5 : c ≤ 5) (w : World) :
    Calls Try.prog 15 #[.int .i64 (c : Int), .int .i64 (n : Int)] w fun e w' => e = .returned (.int .i64 ((c ^ n : Nat) : Int)) ∧ w = w' := by
  go_enter Try.func15, Try.ntmps15
  go_wp2
  go_loop [5, 6] (fun p i => ∃ k : Nat, k ≤ n ∧ i = .int .i64 k ∧ p = .int .i64 ((c ^ k : Nat) : Int)) (fun _ i => n - (intOf i).toNat)
  case atStart => exact ⟨0, Nat.zero_le _, rfl, by simp⟩
  case round =>
    obtain ⟨k, hk, rfl, rfl⟩ := hrel
    by_cases hlt : k < n
    · have hp := Nt.pow5_le (c := c) (n := k + 1) h5 (by omega)
      have HP := Lib.hid (Nat.pow_succ c k)
      rw [Nat.pow_succ] at hp
      have e1 : ((c ^ k : Nat) : Int) * (c : Int) = ((c ^ k * c : Nat) : Int) := by simp
      generalize c ^ k = q at *
      generalize q * c = p at *
      have e2 : wrap64 ((q : Int) * (c : Int)) = (p : Int) := by rw [e1]; exact IntWalk.wrap64_in _ (by omega)
      go_wp2
      go_round
      case rel => exact ⟨k + 1, by omega, by go_num, by rw [HP.out]⟩
      case measure => simp [intOf]; omega
    · have hk' : k = n := by omega
      subst hk'
      go_wp2
      go_ret
      exact ⟨rfl, rfl⟩

theorem sumTo_bound {f : Nat → Nat} {M : Nat} (h : ∀ s, f s ≤ M) : ∀ k, Nt.sumTo f k ≤ M * k
  | 0 => by simp [Nt.sumTo]
  | k + 1 => by
    have := sumTo_bound h k
    have h2 := h k
    rw [Nt.sumTo, Nat.mul_succ]
    omega
theorem path_of_nat {n : Nat} (h1 : 0 < n) (h6 : n ≤ 6) : Nt.pathOf (n : Int) = Nt.nats (Nt.pathN n) := by
  unfold Nt.pathOf; rw [if_pos (by omega), Int.toNat_natCast]
theorem ring_of_nat {n : Nat} (h3 : 3 ≤ n) (h6 : n ≤ 6) : Nt.ringOf (n : Int) = Nt.nats (Nt.ringN n) := by
  unfold Nt.ringOf; rw [if_pos (by omega), Int.toNat_natCast]
theorem path_good : ∀ n, n < 7 → 1 ≤ n → Nt.okB (Nt.nats (Nt.pathN n)) = true := by decide
theorem path_is {n : Nat} (h1 : 0 < n) (h6 : n ≤ 6) : Nt.Ok (Nt.pathN n) := by
  obtain ⟨ns, e, ok⟩ := Nt.okB_ok (path_good n (by omega) h1)
  rw [Nt.nats_inj e]; exact ok
theorem ring_is {n : Nat} (h3 : 3 ≤ n) (h6 : n ≤ 6) : Nt.Ok (Nt.ringN n) := by
  obtain ⟨ns, e, ok⟩ := Nt.okB_ok (Nt.ring_good n (by omega) h3)
  rw [Nt.nats_inj e]; exact ok
theorem path_len (n : Nat) : (Nt.pathN n).length = n := by simp [Nt.pathN]
theorem ring_len (n : Nat) : (Nt.ringN n).length = n := by simp [Nt.ringN]
theorem path_flat {n : Nat} (h1 : 0 < n) (h4 : n ≤ 4) : Nt.flOf (Nt.nats (Nt.pathN n)) = ((3 ^ n : Nat) : Int) := by
  rw [Nt.flOf_ok (path_is h1 (by omega)) (by rw [path_len]; exact h4), Nt.flN_path h1 h4]
theorem path_dies {n : Nat} (h1 : 0 < n) (h4 : n ≤ 4) : Nt.dieOf (Nt.nats (Nt.pathN n)) 3 = ((3 ^ n : Nat) : Int) := by
  have h := Nt.dieOf_ok (c := 3) (path_is h1 (by omega)) (by rw [path_len]; exact h4) (by omega) (by omega)
  rw [Nt.dieN_flat (path_is h1 (by omega)), Nt.flN_path h1 h4] at h
  exact h
theorem ring_flat {n : Nat} (h3 : 3 ≤ n) (h4 : n ≤ 4) : Nt.flOf (Nt.nats (Nt.ringN n)) = Nt.rstOf (n : Int) 0 := by
  rw [Nt.flOf_ok (ring_is h3 (by omega)) (by rw [ring_len]; exact h4), Nt.flN_ring h3 h4, Nt.rstOf_ok h3 (by omega) (by omega) (by omega)]
  rfl
end Go.Proofs.Ytlcbpnbehbgbeaa
