/-
  Walks: arrivals of waves, by the model.
  Walks: ends of waves, sets of lights, by the model.
-/
import Derived.Test.YtgibncpgdbldnaaFA
import Derived.Test.YtgibncpgdbldnaaNA
import Derived.Test.YtgibncpgdbldnaaOpsC
import Derived.Test.YtgibncpgdbldnaaVP
import Derived.Test.YtgibncpgdbldnaaFC
import Derived.Test.YtgibncpgdbldnaaNB
namespace Go.Proofs.Ytgibncpgdbldnaa
open Go.RowKit

end Go.Proofs.Ytgibncpgdbldnaa

namespace Go.Proofs.Ytgibncpgdbldnaa
open Go.RowKit

/-- Where a kind, a set or the net is none. -/
theorem waveB_cases {xs : List Int} {kinds set : Int} (h : Nt.waveB xs kinds set = false) (h1 : Nt.okB xs = true) (h2 : 3 ≤ kinds ∧ kinds ≤ 5) : ¬ (0 ≤ set ∧ set < 2 ^ xs.length) := fun h3 => by
  rw [Nt.waveB_all h1 h2 h3] at h
  cases h

/-- '1<<n - 1', as it is reckoned. -/
theorem all_set (n : Nat) (h6 : n ≤ 6) : wrap64 (wrap64 (2 ^ n) - 1) = 2 ^ n - 1 := by
  have h := wrap_pow n (by omega) (by omega)
  rw [Int.toNat_natCast] at h
  have h2 := wrap_pow_pred n (by omega)
  rw [IntWalk.i64_left] at h2
  rw [h]
  exact h2

/-- The first nodes are near enough. -/
def coverTo (net : List Nat) (set steps k : Nat) : Prop := ∀ j, j < k → 0 ≤ Nt.dist net set 64 j ∧ Nt.dist net set 64 j ≤ (steps : Int)
theorem coverTo_succ {net : List Nat} {set steps k : Nat} (h : coverTo net set steps k) (h1 : 0 ≤ Nt.dist net set 64 k ∧ Nt.dist net set 64 k ≤ (steps : Int)) : coverTo net set steps (k + 1) := by
  intro j hj
  by_cases e : j = k
  · subst e; exact h1
  · exact h j (by omega)
theorem covers_no {net : List Nat} {set steps k : Nat} (hk : k < net.length) (h : ¬ (0 ≤ Nt.dist net set 64 k ∧ Nt.dist net set 64 k ≤ (steps : Int))) : Nt.covers net set steps = false := by
  cases e : Nt.covers net set steps
  · rfl
  · exact absurd (Nt.covers_iff.1 e k hk) h

/-- A set, halved so often. -/
theorem half_bit (s k : Nat) : s / 2 ^ k % 2 = if s.testBit k = true then 1 else 0 := by
  have := Nat.testBit_eq_decide_div_mod_eq (x := s) (i := k)
  rw [this]
  by_cases h : s / 2 ^ k % 2 = 1
  · simp [h]
  · simp [h]; omega
theorem popTo_half (s k : Nat) : Nt.popTo s (k + 1) = Nt.popTo s k + s / 2 ^ k % 2 := by
  rw [half_bit, Nt.popTo]
theorem half_half (s k : Nat) : s / 2 ^ k / 2 = s / 2 ^ (k + 1) := by rw [Nat.div_div_eq_div_mul, ← Nat.pow_succ]

set_option maxHeartbeats 1000000 in
set_option maxRecDepth 100000 in
theorem l4Size_any (s n : Nat) (h6 : n ≤ 6) (hs : s < 2 ^ n) (w : World) :
    Calls Try.prog 48 #[.int .i64 (s : Int)] w fun e w' => e = .returned (.int .i64 ((Nt.popTo s n : Nat) : Int)) ∧ w = w' := by
  have h64 := Nt.pow_le h6
  have HS := Lib.hid hs
  have HEND : Hid (∀ k, s / 2 ^ k = 0 → k ≤ 7 → Nt.popTo s k = Nt.popTo s n) := Lib.hid (fun k h0 _ => by
    have hlt : s < 2 ^ k := by
      apply Classical.byContradiction
      intro h
      have := Nat.div_pos (Nat.le_of_not_lt h) (Nat.two_pow_pos k)
      omega
    rcases Nat.le_total k n with h | h
    · exact (Nt.popTo_more hlt n h).symm
    · exact Nt.popTo_more hs k h)
  have HP := Lib.hid (popTo_half s)
  have HH := Lib.hid (half_half s)
  have HL : Hid (∀ k, s / 2 ^ k ≠ 0 → k ≤ 6) := Lib.hid (fun k h0 => by
    apply Classical.byContradiction
    intro h
    exact h0 (Nat.div_eq_of_lt (Nat.lt_of_lt_of_le hs (Nat.pow_le_pow_right (by omega) (by omega)))))
  have HQ : Hid (∀ k, s / 2 ^ k ≤ 64) := Lib.hid (fun k => by have := Nat.div_le_self s (2 ^ k); omega)
  have HPL : Hid (∀ k, k ≤ 7 → Nt.popTo s k ≤ 7) := Lib.hid (fun k hk => by have := Nt.popTo_le s k; omega)
  clear hs h64
  go_enter Try.func48, Try.ntmps48
  go_wp2
  go_loop [0, 3] (fun q m => ∃ k : Nat, k ≤ 7 ∧ q = .int .i64 ((s / 2 ^ k : Nat) : Int) ∧ m = .int .i64 ((Nt.popTo s k : Nat) : Int)) (fun q _ => (intOf q).toNat)
  case atStart => exact ⟨0, by omega, by simp, rfl⟩
  case round =>
    obtain ⟨k, hk, rfl, rfl⟩ := hrel
    have hq := HQ.out k
    have hpl := HPL.out k hk
    have HP1 := Lib.hid (HP.out k)
    have HH1 := Lib.hid (HH.out k)
    have HE1 := Lib.hid (HEND.out k)
    have HL1 := Lib.hid (HL.out k)
    generalize s / 2 ^ k = q at *
    generalize Nt.popTo s k = p at *
    by_cases h0 : 0 < q
    · have hk6 := HL1.out (by omega)
      have f1 : (q : Int).tmod 2 = ((q % 2 : Nat) : Int) := tmod_nat q 2
      have f2 : (q : Int).tdiv 2 = ((q / 2 : Nat) : Int) := tdiv_nat q 2
      have hr : q % 2 < 2 := Nat.mod_lt _ (by omega)
      have hd : q / 2 < q := Nat.div_lt_self h0 (by omega)
      generalize q % 2 = r at *
      generalize q / 2 = d at *
      go_wp2
      go_round
      case rel => exact ⟨k + 1, by omega, by rw [← HH1.out], by rw [HP1.out]; go_num⟩
      case measure => simp [intOf]; omega
    · have hq0 : q = 0 := by omega
      subst hq0
      go_wp2
      go_ret
      exact ⟨by rw [← HE1.out (by first | trivial | rfl) hk]; rfl, rfl⟩

end Go.Proofs.Ytgibncpgdbldnaa
