/-
  Walks: a lit state's numbers drawn; a state's number drawn.
-/
import Derived.Test.YtjogkppgmomggaaD10
namespace Go.Proofs.Ytjogkppgmomggaa
open Go.RowKit

/-- A reader, and nothing else has turned since w0. -/
def RdQ (w0 w : World) (B R P : Nat) : Prop := Rd w B R P ∧ Kept [R] w0 w

theorem pickQ {w0 w : World} {B R P : Nat} (hr : RdQ w0 w B R P) (m : Int) (hm : m ≤ 1000000) (hP : P ≤ 100000) :
    Calls Try.prog 35 #[.pointer (some ⟨R, 0, none⟩), .int .i64 m] w fun e w' => ∃ x : Int, e = .returned (.int .i64 x) ∧ 0 ≤ x ∧ x ≤ 1000000 ∧ RdQ w0 w' B R (P + 1) :=
  (pick_any B R P hP m hm w hr.1).mono fun _ _ h => by
    obtain ⟨x, h1, h2, h3, h4, h5⟩ := h
    exact ⟨x, h1, h2, by omega, h4, hr.2.trans h5 (by simp)⟩

/-- Two numbers are drawn. -/
def DrawnTwoInts (w : World) (e : Ending) (w' : World) : Prop :=
  ∃ x y : Int, e = .returned (.tuple #[.int .i64 x, .int .i64 y]) ∧ Kept [] w w'

set_option maxHeartbeats 2000000 in
theorem drawLitState_any (w : World) (v : Value) (ha : ArgB w v) : Calls Try.prog 19 #[v] w (DrawnTwoInts w) := by
  have HA := Lib.hid ha
  obtain ⟨a, n, cap, rfl, _, _, _⟩ := ha
  go_enter Try.func19, Try.ntmps19
  go_wp2_with fail
  refine (open_any _ _ HA.out).mono ?_
  rintro e w1 ⟨rfl, hr, hk⟩
  have HR := Lib.hid hr
  have HK := Lib.hid hk
  clear hr hk
  go_wp2_with fail
  refine (pick_any _ _ 0 (by omega) 6 (by omega) _ HR.out).mono ?_
  rintro e w2 ⟨x, rfl, hx0, hx, hr2, hk2⟩
  have hx6 : x < 6 := by omega
  obtain ⟨x1, rfl⟩ := Int.eq_ofNat_of_zero_le hx0
  have q0 : RdQ w2 w2.drew _ _ 1 := ⟨hr2.kept (Kept.refl [] w2).drew (by simp), (Kept.refl _ _).drew⟩
  have HK2 := Lib.hid (HK.out.trans hk2 (fun x hx => by right; simp at hx; omega))
  have e1 : wrap64 (2 ^ (x1 + 1)) ≤ 1000000 := by
    have h := wrap_pow (x1 + 1) (by omega) (by omega)
    rw [show ((x1 : Int) + 1).toNat = x1 + 1 by omega] at h
    have h2 : (2 : Nat) ^ (x1 + 1) ≤ 2 ^ 6 := Nat.pow_le_pow_right (by omega) (by omega)
    have h3 : (2 : Int) ^ (x1 + 1) = ((2 ^ (x1 + 1) : Nat) : Int) := (Int.natCast_pow 2 _).symm
    rw [h, h3]
    omega
  have e3 : (2 : Int) ^ (x1 + 1) ≤ 1000000 := by
    have h2 : (2 : Nat) ^ (x1 + 1) ≤ 2 ^ 6 := Nat.pow_le_pow_right (by omega) (by omega)
    have h3 : (2 : Int) ^ (x1 + 1) = ((2 ^ (x1 + 1) : Nat) : Int) := (Int.natCast_pow 2 _).symm
    rw [h3]
    omega
  have e2 : IntKind.i64.wrap (2 ^ (x1 + 1)) ≤ 1000000 := by rw [IntWalk.i64_left]; exact e1
  have e4 : IntKind.i64.wrap (2 ^ min (x1 + 1) 64) ≤ 1000000 := by rw [Nat.min_eq_left (by omega)]; exact e2
  have y6 : x1 + 1 ≤ 6 := by omega
  have he : (1 : Int) + (x1 : Int) = ((x1 + 1 : Nat) : Int) := by omega
  have HE := Lib.hid he
  clear hr2 hk2 hx hx0 HR HK he
  generalize hy : x1 + 1 = y at *
  clear hy
  go_wp2_with fail
  rw [HE.out]
  go_region_with ((go_at_call 35; refine (pickQ (by assumption) _ (by first | assumption | omega) (by omega)).mono ?_; rintro e w' ⟨z, rfl, hz0, hz, hr'⟩))
  all_goals
    have HR' := Lib.hid hr'
    clear hr'
    go_wp2
    go_ret2
    exact ⟨_, _, rfl, HK2.out.trans HR'.out.2 (fun x hx => by right; simp at hx; omega)⟩
end Go.Proofs.Ytjogkppgmomggaa
