/-
  The walk of an exact law: WiresOf of the program answers as its model does.
-/
import Derived.Test.YteogfoelidiffabE1
import Derived.Test.YteogfoelidiffabW16
namespace Go.Proofs.Yteogfoelidiffab
open Go.RowKit

set_option maxHeartbeats 4000000 in
theorem ExactWiresOf_calls (xs : List Int) (w : World) (vxs : Value) (haxs : Arg w vxs xs) :
    Calls Try.prog 11 #[vxs] w fun e w' => e = .returned (.bool true) ∧ Kept [] w w' := by
  have HAxs := Lib.hid haxs
  obtain ⟨axs, capxs, rfl, hmxs, _⟩ := haxs
  by_cases hbigxs : 1048576 < xs.length
  · have hb : (1048576 : Int) < xs.length := by omega
    clear hbigxs
    go_enter Try.func11, Try.ntmps11
    go_wp2
    go_ret
    exact ⟨rfl, Kept.refl _ _⟩
  have hbxs : ¬ (1048576 : Int) < xs.length := by omega
  have h20xs : xs.length ≤ 1048576 := by omega
  clear hbigxs
  go_enter Try.func11, Try.ntmps11
  go_wp2_with fail
  refine (toIntS_any xs h20xs _ _ HAxs.out).mono ?_
  rintro e w1 ⟨u1, rfl, hs, hk⟩
  have H1 := Lib.hid hk; clear hk
  have S2 := Lib.hid hs; clear hs
  have B3 := Lib.hid (fun g (hg : u1.ownBlock = some g) => (S2.out.block hg).1)
  have A4 := Lib.hid (fun g (hg : u1.ownBlock = some g) => Nat.le_trans (Nat.le_refl _) (B3.out g hg))
  have K5 := Lib.hid H1.out
  clear H1
  go_wp2_with fail
  refine (sWires_any xs _ _ _ S2.out).mono ?_
  rintro e w2 ⟨rfl, hq⟩
  have H6 := Lib.hid hq.kept; clear hq
  have S7 := Lib.hid (S2.out.stay H6.out); clear S2
  have K8 := Lib.hid (K5.out.trans H6.out (by simp))
  clear H6
  go_wp2_with fail
  have L9 := Lib.hid (fun g (hg : u1.ownBlock = some g) => (S7.out.block hg).2)
  refine (toIntS_any xs h20xs _ _ (HAxs.out.stay K8.out)).mono ?_
  rintro e w3 ⟨u3, rfl, hs, hk⟩
  have H10 := Lib.hid hk; clear hk
  have S11 := Lib.hid (S7.out.stay H10.out); clear S7
  have S12 := Lib.hid hs; clear hs
  have B13 := Lib.hid (fun g (hg : u3.ownBlock = some g) => (S12.out.block hg).1)
  have A14 := Lib.hid (fun g (hg : u3.ownBlock = some g) => Nat.le_trans (K8.out.size) (B13.out g hg))
  have K15 := Lib.hid (K8.out.trans H10.out (by simp))
  clear H10
  go_wp2_with fail
  refine (iWires_any xs _ _ _ S12.out).mono ?_
  rintro e w' ⟨rfl, rfl⟩
  go_wp2_with fail
  have L16 := Lib.hid (fun g (hg : u1.ownBlock = some g) => (S11.out.block hg).2)
  have L17 := Lib.hid (fun g (hg : u3.ownBlock = some g) => (S12.out.block hg).2)
  refine (toIntS_any xs h20xs _ _ (HAxs.out.stay K15.out)).mono ?_
  rintro e w4 ⟨u4, rfl, hs, hk⟩
  have H18 := Lib.hid hk; clear hk
  have S19 := Lib.hid (S11.out.stay H18.out); clear S11
  have S20 := Lib.hid (S12.out.stay H18.out); clear S12
  have S21 := Lib.hid hs; clear hs
  have B22 := Lib.hid (fun g (hg : u4.ownBlock = some g) => (S21.out.block hg).1)
  have A23 := Lib.hid (fun g (hg : u4.ownBlock = some g) => Nat.le_trans (K15.out.size) (B22.out g hg))
  have K24 := Lib.hid (K15.out.trans H18.out (by simp))
  clear H18
  go_wp2_with fail
  refine (eqIntS_any _ _ _ _ _ _ _ S20.out S21.out).mono ?_
  rintro e w5 ⟨rfl, hq⟩
  have H25 := Lib.hid hq.kept; clear hq
  have S26 := Lib.hid (S19.out.stay H25.out); clear S19
  have S27 := Lib.hid (S20.out.stay H25.out); clear S20
  have S28 := Lib.hid (S21.out.stay H25.out); clear S21
  have K29 := Lib.hid (K24.out.trans H25.out (by simp))
  clear H25
  go_wp2_with fail
  go_ret
  exact ⟨rfl, K29.out⟩
end Go.Proofs.Yteogfoelidiffab
