/-
  The walk of an exact law: RingStates of the program answers as its model does.
-/
import Derived.Test.YtdpkacpeednnoabE1
import Derived.Test.YtdpkacpeednnoabYM
import Derived.Test.YtdpkacpeednnoabYP
namespace Go.Proofs.Ytdpkacpeednnoab
open Go.RowKit

set_option maxHeartbeats 4000000 in
set_option maxRecDepth 100000 in
theorem ExactRingStates_calls (nodes : Int) (winding : Int) (w : World)   :
    Calls Try.prog 8 #[.int .i64 nodes, .int .i64 winding] w fun e w' => e = .returned (.bool true) ∧ Kept [] w w' := by
  go_enter Try.func8, Try.ntmps8
  go_wp2_with fail
  refine (sRStates_any nodes winding _).mono ?_
  rintro e w' ⟨rfl, rfl⟩
  go_wp2_with fail
  refine (iRStates_any nodes winding _).mono ?_
  rintro e w1 ⟨rfl, hk⟩
  have H1 := Lib.hid hk; clear hk
  have K2 := Lib.hid H1.out
  clear H1
  go_wp2_with fail
  go_ret
  exact ⟨rfl, K2.out⟩
end Go.Proofs.Ytdpkacpeednnoab
