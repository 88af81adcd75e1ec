/-
  Whether a number is a node, by the program: for seats without deeds (IPD has it too).
-/
import Derived.Test.YtnajdbnacdnnlaaGreatDoorQA
import Derived.Test.YtnajdbnacdnnlaaGreatDoorPJ
namespace Go.Proofs.YtnajdbnacdnnlaaGreatDoor
open Go.RowKit

theorem digs99 {n : Nat} (h : n ≤ 99) : (Nt.digs n).length ≤ 2 := Nt.digs_length (n := n) 1 (by omega)


set_option maxHeartbeats 400000 in
set_option maxRecDepth 100000 in
theorem isNodeZ_any (n : Nat) (a : Int) (w : World) :
    Calls Tryz.prog 140 #[.int .i64 (n : Int), .int .i64 a] w fun e w' => e = .returned (.bool (decide (0 ≤ a ∧ a < (n : Int)))) ∧ w = w' := by
  by_cases h1 : 0 ≤ a <;> by_cases h2 : a < (n : Int)
  all_goals
    go_enter Tryz.func140, Tryz.ntmps140
    go_wp2
    go_ret
    exact ⟨by simp [h1, h2], rfl⟩
end Go.Proofs.YtnajdbnacdnnlaaGreatDoor
