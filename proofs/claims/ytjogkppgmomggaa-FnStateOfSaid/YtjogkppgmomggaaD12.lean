/-
  Walks: a state's number drawn.
-/
import Derived.Test.YtjogkppgmomggaaD11
import Derived.Deep.RegionHeld3
namespace Go.Proofs.Ytjogkppgmomggaa
open Go.RowKit

theorem power_of {w0 w : World} {B R P : Nat} (hr : RdQ w0 w B R P) (n c : Nat) (h6 : n ≤ 6) (h3 : 3 ≤ c) (h5 : c ≤ 5) :
    Calls Try.prog 49 #[.int .i64 (n : Int), .int .i64 (c : Int)] w fun e w' => ∃ p : Int, e = .returned (.int .i64 p) ∧ 1 ≤ p ∧ p ≤ 15625 ∧ RdQ w0 w' B R P :=
  (l2Power_any n c h6 h5 w).mono fun _ _ h => by
    obtain ⟨h1, rfl⟩ := h
    have := Nt.pow5_le h5 h6
    have h2 : 0 < c ^ n := Nat.pow_pos (by omega)
    exact ⟨_, h1, by omega, by omega, hr⟩

theorem i64wrap_le (z : Int) : IntKind.i64.wrap z ≤ 9223372036854775807 := by
  rw [IntKind.wrap_i64]; omega

/-- Three numbers are drawn. -/
def DrawnInts (w : World) (e : Ending) (w' : World) : Prop :=
  ∃ x y z : Int, e = .returned (.tuple #[.int .i64 x, .int .i64 y, .int .i64 z]) ∧ z ≤ 9223372036854775807 ∧ Kept [] w w'

set_option maxHeartbeats 8000000 in
theorem drawStateOf_any (w : World) (v : Value) (ha : ArgB w v) : Calls Try.prog 31 #[v] w (DrawnInts w) := by
  have HA := Lib.hid ha
  obtain ⟨a, n, cap, rfl, _, _, _⟩ := ha
  go_enter Try.func31, Try.ntmps31
  go_wp2_with fail
  refine (open_any _ _ HA.out).mono ?_
  rintro e w1 ⟨rfl, hr, hk⟩
  have HR := Lib.hid hr
  have HK := Lib.hid hk
  clear hr hk
  go_wp2_with fail
  refine (pick_any _ _ 0 (by omega) 6 (by omega) _ HR.out).mono ?_
  rintro e w2 ⟨x, rfl, hx0, hx, hr2, hk2⟩
  have hx6 : x < 6 := by omega
  obtain ⟨x1, rfl⟩ := Int.eq_ofNat_of_zero_le hx0
  have HR2 := Lib.hid hr2
  have HK2 := Lib.hid (HK.out.trans hk2 (fun x hx => by right; simp at hx; omega))
  clear hr2 hk2 hx HR HK
  go_wp2_with fail
  refine (pick_any _ _ _ (by omega) 3 (by omega) _ HR2.out).mono ?_
  rintro e w3 ⟨y, rfl, hy0, hy, hr3, hk3⟩
  have hy3 : y < 3 := by omega
  obtain ⟨y1, rfl⟩ := Int.eq_ofNat_of_zero_le hy0
  have q0 : RdQ w3 w3.drew _ _ 2 := ⟨hr3.kept (Kept.refl [] w3).drew (by simp), (Kept.refl _ _).drew⟩
  have HK3 := Lib.hid (HK2.out.trans hk3 (fun x hx => by right; simp at hx; omega))
  obtain ⟨n, hn⟩ : ∃ n, n = x1 + 1 := ⟨_, rfl⟩
  obtain ⟨c, hc⟩ : ∃ c, c = y1 + 3 := ⟨_, rfl⟩
  have HE1 : Hid ((1 : Int) + (x1 : Int) = (n : Int)) := Lib.hid (by omega)
  have HE2 : Hid ((3 : Int) + (y1 : Int) = (c : Int)) := Lib.hid (by omega)
  have n6 : n ≤ 6 := by omega
  have c3 : 3 ≤ c := by omega
  have c5 : c ≤ 5 := by omega
  clear hr3 hk3 hy hx0 hy0 HR2 HK2 hn hc
  go_wp2_with fail
  rw [HE1.out, HE2.out]
  go_region_held3 (fun _ => True) (first | trivial)
   (first
    | (go_simp; go_at_call 35; refine (pickQ (by assumption) _ (by omega) (by omega)).mono ?_; rintro e w' ⟨z, rfl, hz0, hz, hr'⟩)
    | (go_simp; go_at_call 49; refine (power_of hr' n c n6 c3 c5).mono ?_; clear hr'; rintro e w' ⟨p, rfl, hp1, hp2, hr'⟩; have hpw : IntKind.i64.wrap (p + 2) = p + 2 := IntWalk.i64_in _ (by omega); have hpne : ¬ p + 2 = 0 := (by omega); have hpn1 : ¬ p + 2 = -1 := (by omega)))
  all_goals
    have HR' := Lib.hid hr'
    clear hr'
    go_wp2
    go_ret3
    exact ⟨_, _, _, rfl, by first | exact i64wrap_le _ | (rw [← IntWalk.i64_left]; exact i64wrap_le _), HK3.out.trans HR'.out.2 (fun x hx => by right; simp at hx; omega)⟩
end Go.Proofs.Ytjogkppgmomggaa
