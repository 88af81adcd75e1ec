/-
  Walks: two lists of numbers compared.
-/
import Derived.Test.YtlcbpnbehbgbeaaNA
import Derived.Test.YtlcbpnbehbgbeaaKA
namespace Go.Proofs.Ytlcbpnbehbgbeaa
open Go.RowKit

set_option maxHeartbeats 1000000 in
set_option maxRecDepth 100000 in
theorem alive_any (w : World) : Calls Try.prog 14 #[] w fun e w' => e = .returned (.bool true) ∧ Kept [] w w' := by
  have o1 : Nt.okB [2, 1] = true := by decide
  have o2 : Nt.okB [1] = false := by decide
  have l1 : Sl (w.alloc (.cells #[.int .i64 2, .int .i64 1] 3)) w.heap.size (.slice (some ⟨w.heap.size, 0, none⟩) 2 2) [2, 1] := Sl.lit w [2, 1] (by simp)
  have l2 : Sl ((w.alloc (.cells #[.int .i64 2, .int .i64 1] 3)).alloc (.cells #[.int .i64 1] 3)) (w.heap.size + 1) (.slice (some ⟨w.heap.size + 1, 0, none⟩) 1 1) [1] := by
    have h := Sl.lit (w.alloc (.cells #[.int .i64 2, .int .i64 1] 3)) [1] (by simp)
    have e : (w.alloc (.cells #[.int .i64 2, .int .i64 1] 3)).heap.size = w.heap.size + 1 := by simp
    rw [e] at h
    exact h
  have L1 := Lib.hid l1
  have L2 := Lib.hid l2
  clear l1 l2
  go_enter Try.func14, Try.ntmps14
  go_wp2_with fail
  refine (iNetOk_any [2, 1] _ _ _ L1.out).mono ?_
  rintro e w' ⟨rfl, rfl⟩
  rw [o1]
  go_wp2_with fail
  refine (iNetOk_any [1] _ _ _ L2.out).mono ?_
  rintro e w' ⟨rfl, rfl⟩
  rw [o2]
  go_wp2_with fail
  go_ret
  exact ⟨rfl, ((Kept.refl _ _).alloc _).alloc _⟩

end Go.Proofs.Ytlcbpnbehbgbeaa
