/-
  The walk of an exact law: StateOk of the program answers as its model does.
-/
import Derived.Test.YtjogkppgmomggabE1
import Derived.Test.YtjogkppgmomggabS1
namespace Go.Proofs.Ytjogkppgmomggab
open Go.RowKit

set_option maxHeartbeats 4000000 in
theorem ExactStateOk_calls (kinds : Int) (xs : List Int) (w : World) (vxs : Value) (haxs : Arg w vxs xs) :
    Calls Try.prog 3 #[.int .i64 kinds, vxs] w fun e w' => e = .returned (.bool true) ∧ Kept [] w w' := by
  have HAxs := Lib.hid haxs
  obtain ⟨axs, capxs, rfl, hmxs, _⟩ := haxs
  by_cases hbigxs : 1048576 < xs.length
  · have hb : (1048576 : Int) < xs.length := by omega
    clear hbigxs
    go_enter Try.func3, Try.ntmps3
    go_wp2
    go_ret
    exact ⟨rfl, Kept.refl _ _⟩
  have hbxs : ¬ (1048576 : Int) < xs.length := by omega
  have h20xs : xs.length ≤ 1048576 := by omega
  clear hbigxs
  go_enter Try.func3, Try.ntmps3
  go_wp2_with fail
  refine (toIntS_any xs h20xs _ _ HAxs.out).mono ?_
  rintro e w1 ⟨u1, rfl, hs, hk⟩
  have H1 := Lib.hid hk; clear hk
  have S2 := Lib.hid hs; clear hs
  have B3 := Lib.hid (fun g (hg : u1.ownBlock = some g) => (S2.out.block hg).1)
  have A4 := Lib.hid (fun g (hg : u1.ownBlock = some g) => Nat.le_trans (Nat.le_refl _) (B3.out g hg))
  have K5 := Lib.hid H1.out
  clear H1
  go_wp2_with fail
  refine (sStateOk_any kinds xs _ _ _ S2.out).mono ?_
  rintro e w' ⟨rfl, rfl⟩
  go_wp2_with fail
  have L6 := Lib.hid (fun g (hg : u1.ownBlock = some g) => (S2.out.block hg).2)
  refine (toIntS_any xs h20xs _ _ (HAxs.out.stay K5.out)).mono ?_
  rintro e w2 ⟨u2, rfl, hs, hk⟩
  have H7 := Lib.hid hk; clear hk
  have S8 := Lib.hid (S2.out.stay H7.out); clear S2
  have S9 := Lib.hid hs; clear hs
  have B10 := Lib.hid (fun g (hg : u2.ownBlock = some g) => (S9.out.block hg).1)
  have A11 := Lib.hid (fun g (hg : u2.ownBlock = some g) => Nat.le_trans (K5.out.size) (B10.out g hg))
  have K12 := Lib.hid (K5.out.trans H7.out (by simp))
  clear H7
  go_wp2_with fail
  refine (iStateOk_any kinds xs _ _ _ S9.out).mono ?_
  rintro e w' ⟨rfl, rfl⟩
  go_wp2_with fail
  have L13 := Lib.hid (fun g (hg : u1.ownBlock = some g) => (S8.out.block hg).2)
  have L14 := Lib.hid (fun g (hg : u2.ownBlock = some g) => (S9.out.block hg).2)
  refine (toIntS_any xs h20xs _ _ (HAxs.out.stay K12.out)).mono ?_
  rintro e w3 ⟨u3, rfl, hs, hk⟩
  have H15 := Lib.hid hk; clear hk
  have S16 := Lib.hid (S8.out.stay H15.out); clear S8
  have S17 := Lib.hid (S9.out.stay H15.out); clear S9
  have S18 := Lib.hid hs; clear hs
  have B19 := Lib.hid (fun g (hg : u3.ownBlock = some g) => (S18.out.block hg).1)
  have A20 := Lib.hid (fun g (hg : u3.ownBlock = some g) => Nat.le_trans (K12.out.size) (B19.out g hg))
  have K21 := Lib.hid (K12.out.trans H15.out (by simp))
  clear H15
  go_wp2_with fail
  refine (eqIntS_any _ _ _ _ _ _ _ S17.out S18.out).mono ?_
  rintro e w4 ⟨rfl, hq⟩
  have H22 := Lib.hid hq.kept; clear hq
  have S23 := Lib.hid (S16.out.stay H22.out); clear S16
  have S24 := Lib.hid (S17.out.stay H22.out); clear S17
  have S25 := Lib.hid (S18.out.stay H22.out); clear S18
  have K26 := Lib.hid (K21.out.trans H22.out (by simp))
  clear H22
  go_wp2_with fail
  go_ret
  exact ⟨rfl, K26.out⟩
end Go.Proofs.Ytjogkppgmomggab
