/-
  Walks: a net and a set drawn.
-/
import Derived.Test.YteogfoelidiffaaD4
import Derived.Deep.RegionWith
namespace Go.Proofs.Yteogfoelidiffaa
open Go.RowKit

/-- A reader, and nothing else has turned since w0. -/
def RdK (w0 w : World) (B R P : Nat) : Prop := Rd w B R P ∧ Kept [R] w0 w

theorem pick_of {w0 w : World} {B R P : Nat} (hr : RdK w0 w B R P) (m : Int) (hm : m ≤ 1000000) (hP : P ≤ 100000) :
    Calls Try.prog 56 #[.pointer (some ⟨R, 0, none⟩), .int .i64 m] w fun e w' => ∃ x : Int, e = .returned (.int .i64 x) ∧ 0 ≤ x ∧ (x = 0 ∨ x < m) ∧ RdK w0 w' B R (P + 1) :=
  (pick_any B R P hP m hm w hr.1).mono fun _ _ h => by
    obtain ⟨x, h1, h2, h3, h4, h5⟩ := h
    exact ⟨x, h1, h2, h3, h4, hr.2.trans h5 (by simp)⟩

/-- A list of at most six numbers, and a number. -/
def DrawsTwo (w : World) (B R P : Nat) (e : Ending) (w' : World) : Prop :=
  ∃ u xs, ∃ x : Int, e = .returned (.tuple #[u, .int .i64 x]) ∧ Sl w' w.heap.size u xs ∧ xs.length ≤ 6 ∧ Rd w' B R (P + 30) ∧ Kept [R] w w'

set_option maxHeartbeats 2000000 in
theorem set_any (B R P : Nat) (hP : P ≤ 80000) (m : Int) (hm : m ≤ 1000) (hm0 : 0 ≤ m) (w : World) (hr : Rd w B R P) :
    Calls Try.prog 50 #[.pointer (some ⟨R, 0, none⟩), .int .i64 m] w (DrawsTwo w B R P) := by
  have HR := Lib.hid hr
  have hlt := hr.lt
  clear hr
  go_enter Try.func50, Try.ntmps50
  go_wp2_with fail
  refine (net_any B R P (by omega) m hm hm0 _ HR.out).mono ?_
  rintro e w1 ⟨u, xs, rfl, hs, hl, hr1, hk1⟩
  obtain ⟨b, cap1, rfl, _, _, _⟩ := hs.any
  have HS := Lib.hid hs
  have HK := Lib.hid hk1
  have q0 : RdK w1 w1.drew B R (P + 20) := ⟨hr1.kept (Kept.refl [] w1).drew (by simp), (Kept.refl _ _).drew⟩
  have e1 : wrap64 (2 ^ xs.length) ≤ 1000000 := by
    have h := wrap_pow xs.length (by omega) (by omega)
    rw [Int.toNat_natCast] at h
    have h2 : (2 : Nat) ^ xs.length ≤ 2 ^ 6 := Nat.pow_le_pow_right (by omega) hl
    have h3 : (2 : Int) ^ xs.length = ((2 ^ xs.length : Nat) : Int) := (Int.natCast_pow 2 _).symm
    rw [h, h3]
    omega
  have e2 : IntKind.i64.wrap (2 ^ xs.length) ≤ 1000000 := by rw [IntWalk.i64_left]; exact e1
  clear hs hk1 HR hr1
  go_wp2_with fail
  go_region_with ((go_at_call 56; refine (pick_of (by assumption) _ (by first | assumption | omega) (by omega)).mono ?_; rintro e w' ⟨x, rfl, hx0, hx, hr'⟩))
  have HR' := Lib.hid hr'
  clear hr' hx q0 e1 e2
  go_wp2
  go_ret2
  exact ⟨_, xs, _, rfl, HS.out.kept HR'.out.2 (fun g hg hm => by have := (HS.out.block hg).1; simp at hm; omega), hl, HR'.out.1.mono (by omega), HK.out.trans HR'.out.2 (by simp)⟩

/-- A list of at most six numbers and a number, and nothing else has turned. -/
def DrawnTwo (w : World) (e : Ending) (w' : World) : Prop :=
  ∃ u xs, ∃ x : Int, e = .returned (.tuple #[u, .int .i64 x]) ∧ Sl w' w.heap.size u xs ∧ xs.length ≤ 6 ∧ Kept [] w w'

set_option maxHeartbeats 400000 in
theorem drawNearOf_any (w : World) (v : Value) (ha : ArgB w v) : Calls Try.prog 16 #[v] w (DrawnTwo w) := by
  have HA := Lib.hid ha
  obtain ⟨a, n, cap, rfl, _, _, _⟩ := ha
  go_enter Try.func16, Try.ntmps16
  go_wp2_with fail
  refine (open_any _ _ HA.out).mono ?_
  rintro e w1 ⟨rfl, hr, hk⟩
  have HR := Lib.hid hr
  have HK := Lib.hid hk
  clear hr hk
  go_wp2_with fail
  refine (set_any _ _ 0 (by omega) 12 (by omega) (by omega) _ HR.out).mono ?_
  rintro e w2 ⟨u, xs, x, rfl, hs, hl, _, hk2⟩
  have HS := Lib.hid hs
  have HL := Lib.hid hl
  have HK2 := Lib.hid (HK.out.trans hk2 (fun x hx => by right; simp at hx; omega))
  have hz := HK.out.size
  clear hs hl hk2
  go_wp2
  go_ret2
  exact ⟨u, xs, x, rfl, HS.out.mono hz, HL.out, HK2.out⟩

set_option maxHeartbeats 400000 in
theorem drawDistancesFrom_any (w : World) (v : Value) (ha : ArgB w v) : Calls Try.prog 20 #[v] w (DrawnTwo w) := by
  have HA := Lib.hid ha
  obtain ⟨a, n, cap, rfl, _, _, _⟩ := ha
  go_enter Try.func20, Try.ntmps20
  go_wp2_with fail
  refine (open_any _ _ HA.out).mono ?_
  rintro e w1 ⟨rfl, hr, hk⟩
  have HR := Lib.hid hr
  have HK := Lib.hid hk
  clear hr hk
  go_wp2_with fail
  refine (set_any _ _ 0 (by omega) 12 (by omega) (by omega) _ HR.out).mono ?_
  rintro e w2 ⟨u, xs, x, rfl, hs, hl, _, hk2⟩
  have HS := Lib.hid hs
  have HL := Lib.hid hl
  have HK2 := Lib.hid (HK.out.trans hk2 (fun x hx => by right; simp at hx; omega))
  have hz := HK.out.size
  clear hs hl hk2
  go_wp2
  go_ret2
  exact ⟨u, xs, x, rfl, HS.out.mono hz, HL.out, HK2.out⟩
end Go.Proofs.Yteogfoelidiffaa
