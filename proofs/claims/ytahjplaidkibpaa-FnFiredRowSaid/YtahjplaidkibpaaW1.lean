/-
  Walks of the smallest functions.
-/
import Derived.Test.YtahjplaidkibpaaRows
import Derived.Test.YtahjplaidkibpaaBase
import Derived.Test.YtahjplaidkibpaaBits
namespace Go.Proofs.Ytahjplaidkibpaa
open Go.RowKit

set_option maxHeartbeats 400000 in
theorem hasNode_any (s k : Int) (w : World) (h0 : 0 ≤ k) (h1 : k ≤ 62) :
    Calls Try.prog 57 #[.int .i64 s, .int .i64 k] w fun e w' => e = .returned (.bool (Nt.bit s k.toNat)) ∧ w = w' := by
  go_enter Try.func57, Try.ntmps57
  go_wp2
  go_ret
  exact ⟨by simp only [← and_one_bit]; rfl, rfl⟩

set_option maxHeartbeats 400000 in
theorem l1In_any (n lo hi : Int) (w : World) :
    Calls Try.prog 51 #[.int .i64 n, .int .i64 lo, .int .i64 hi] w fun e w' => e = .returned (.bool (decide (lo ≤ n ∧ n ≤ hi))) ∧ w = w' := by
  by_cases a : lo ≤ n <;> by_cases b : n ≤ hi
  all_goals
    go_enter Try.func51, Try.ntmps51
    go_wp2
    go_ret
    exact ⟨by simp [a, b], rfl⟩

set_option maxHeartbeats 400000 in
theorem setOk_any (n s : Int) (w : World) (h0 : 0 ≤ n) (h1 : n ≤ 6) :
    Calls Try.prog 67 #[.int .i64 n, .int .i64 s] w fun e w' => e = .returned (.bool (decide (0 ≤ s ∧ s < 2 ^ n.toNat))) ∧ w = w' := by
  have hp := wrap_pow n h0 (by omega)
  have HP := Lib.hid hp
  clear hp
  by_cases a : 0 ≤ s
  all_goals
    go_enter Try.func67, Try.ntmps67
    go_wp2
    go_ret
    exact ⟨by have e := HP.out; first | (simp [a, e]; done) | (simp; omega), rfl⟩

theorem hasNode_int (s : Int) (k : Nat) (w : World) (h1 : k ≤ 62) :
    Calls Try.prog 57 #[.int .i64 s, .int .i64 k] w fun e w' => e = .returned (.bool (Nt.bit s k)) ∧ w = w' :=
  (hasNode_any s k w (by omega) (by omega)).mono fun e w' ⟨he, hw⟩ => ⟨by rw [he, Int.toNat_natCast], hw⟩

theorem hasNode_nat (s k : Nat) (w : World) (h1 : k ≤ 62) :
    Calls Try.prog 57 #[.int .i64 s, .int .i64 k] w fun e w' => e = .returned (.bool (s.testBit k)) ∧ w = w' :=
  (hasNode_any s k w (by omega) (by omega)).mono fun e w' ⟨he, hw⟩ => ⟨by rw [he, Int.toNat_natCast, Nt.bit_nat], hw⟩

end Go.Proofs.Ytahjplaidkibpaa
