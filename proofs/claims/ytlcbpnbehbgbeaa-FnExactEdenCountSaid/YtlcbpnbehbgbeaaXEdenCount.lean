/-
  The walk of an exact law: EdenCount of the program answers as its model does.
-/
import Derived.Test.YtlcbpnbehbgbeaaE1
import Derived.Test.YtlcbpnbehbgbeaaNM
import Derived.Test.YtlcbpnbehbgbeaaNP3
namespace Go.Proofs.Ytlcbpnbehbgbeaa
open Go.RowKit

set_option maxHeartbeats 4000000 in
set_option maxRecDepth 100000 in
theorem ExactEdenCount_calls (xs : List Int) (kinds : Int) (w : World) (vxs : Value) (haxs : Arg w vxs xs) :
    Calls Try.prog 10 #[vxs, .int .i64 kinds] w fun e w' => e = .returned (.bool true) ∧ Kept [] w w' := by
  have HAxs := Lib.hid haxs
  obtain ⟨axs, capxs, rfl, hmxs, _⟩ := haxs
  by_cases hbigxs : 1048576 < xs.length
  · have hb : (1048576 : Int) < xs.length := by omega
    clear hbigxs
    go_enter Try.func10, Try.ntmps10
    go_wp2
    go_ret
    exact ⟨rfl, Kept.refl _ _⟩
  have hbxs : ¬ (1048576 : Int) < xs.length := by omega
  have h20xs : xs.length ≤ 1048576 := by omega
  clear hbigxs
  go_enter Try.func10, Try.ntmps10
  go_wp2_with fail
  refine (toIntS_any xs h20xs _ _ HAxs.out).mono ?_
  rintro e w1 ⟨u1, rfl, hs, hk⟩
  have H1 := Lib.hid hk; clear hk
  have S2 := Lib.hid hs; clear hs
  have B3 := Lib.hid (fun g (hg : u1.ownBlock = some g) => (S2.out.block hg).1)
  have A4 := Lib.hid (fun g (hg : u1.ownBlock = some g) => Nat.le_trans (Nat.le_refl _) (B3.out g hg))
  have K5 := Lib.hid H1.out
  clear H1
  go_wp2_with fail
  refine (sEden_any xs kinds _ _ _ S2.out).mono ?_
  rintro e w2 ⟨rfl, hk⟩
  have H6 := Lib.hid hk; clear hk
  have S7 := Lib.hid (S2.out.stay H6.out); clear S2
  have K8 := Lib.hid (K5.out.trans H6.out (by simp))
  clear H6
  go_wp2_with fail
  have L9 := Lib.hid (fun g (hg : u1.ownBlock = some g) => (S7.out.block hg).2)
  refine (toIntS_any xs h20xs _ _ (HAxs.out.stay K8.out)).mono ?_
  rintro e w3 ⟨u3, rfl, hs, hk⟩
  have H10 := Lib.hid hk; clear hk
  have S11 := Lib.hid (S7.out.stay H10.out); clear S7
  have S12 := Lib.hid hs; clear hs
  have B13 := Lib.hid (fun g (hg : u3.ownBlock = some g) => (S12.out.block hg).1)
  have A14 := Lib.hid (fun g (hg : u3.ownBlock = some g) => Nat.le_trans (K8.out.size) (B13.out g hg))
  have K15 := Lib.hid (K8.out.trans H10.out (by simp))
  clear H10
  go_wp2_with fail
  refine (iEden_any xs kinds _ _ _ S12.out).mono ?_
  rintro e w4 ⟨rfl, hk⟩
  have H16 := Lib.hid hk; clear hk
  have S17 := Lib.hid (S11.out.stay H16.out); clear S11
  have S18 := Lib.hid (S12.out.stay H16.out); clear S12
  have K19 := Lib.hid (K15.out.trans H16.out (by simp))
  clear H16
  go_wp2_with fail
  have L20 := Lib.hid (fun g (hg : u1.ownBlock = some g) => (S17.out.block hg).2)
  have L21 := Lib.hid (fun g (hg : u3.ownBlock = some g) => (S18.out.block hg).2)
  refine (toIntS_any xs h20xs _ _ (HAxs.out.stay K19.out)).mono ?_
  rintro e w5 ⟨u5, rfl, hs, hk⟩
  have H22 := Lib.hid hk; clear hk
  have S23 := Lib.hid (S17.out.stay H22.out); clear S17
  have S24 := Lib.hid (S18.out.stay H22.out); clear S18
  have S25 := Lib.hid hs; clear hs
  have B26 := Lib.hid (fun g (hg : u5.ownBlock = some g) => (S25.out.block hg).1)
  have A27 := Lib.hid (fun g (hg : u5.ownBlock = some g) => Nat.le_trans (K19.out.size) (B26.out g hg))
  have K28 := Lib.hid (K19.out.trans H22.out (by simp))
  clear H22
  go_wp2_with fail
  refine (eqIntS_any _ _ _ _ _ _ _ S24.out S25.out).mono ?_
  rintro e w6 ⟨rfl, hq⟩
  have H29 := Lib.hid hq.kept; clear hq
  have S30 := Lib.hid (S23.out.stay H29.out); clear S23
  have S31 := Lib.hid (S24.out.stay H29.out); clear S24
  have S32 := Lib.hid (S25.out.stay H29.out); clear S25
  have K33 := Lib.hid (K28.out.trans H29.out (by simp))
  clear H29
  go_wp2_with fail
  go_ret
  exact ⟨rfl, K33.out⟩
end Go.Proofs.Ytlcbpnbehbgbeaa
