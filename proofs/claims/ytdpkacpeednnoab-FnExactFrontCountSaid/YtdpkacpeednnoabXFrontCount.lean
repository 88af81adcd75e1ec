/-
  The walk of an exact law: FrontCount of the program answers as its model does.
-/
import Derived.Test.YtdpkacpeednnoabE1
import Derived.Test.YtdpkacpeednnoabYM
import Derived.Test.YtdpkacpeednnoabYP
namespace Go.Proofs.Ytdpkacpeednnoab
open Go.RowKit

set_option maxHeartbeats 4000000 in
set_option maxRecDepth 100000 in
theorem ExactFrontCount_calls (xs : List Int) (sign : Int) (w : World) (vxs : Value) (haxs : Arg w vxs xs) :
    Calls Try.prog 9 #[vxs, .int .i64 sign] w fun e w' => e = .returned (.bool true) ∧ Kept [] w w' := by
  have HAxs := Lib.hid haxs
  obtain ⟨axs, capxs, rfl, hmxs, _⟩ := haxs
  by_cases hbigxs : 1048576 < xs.length
  · have hb : (1048576 : Int) < xs.length := by omega
    clear hbigxs
    go_enter Try.func9, Try.ntmps9
    go_wp2
    go_ret
    exact ⟨rfl, Kept.refl _ _⟩
  have hbxs : ¬ (1048576 : Int) < xs.length := by omega
  have h20xs : xs.length ≤ 1048576 := by omega
  clear hbigxs
  go_enter Try.func9, Try.ntmps9
  go_wp2_with fail
  refine (toIntS_any xs h20xs _ _ HAxs.out).mono ?_
  rintro e w1 ⟨u1, rfl, hs, hk⟩
  have H1 := Lib.hid hk; clear hk
  have S2 := Lib.hid hs; clear hs
  have B3 := Lib.hid (fun g (hg : u1.ownBlock = some g) => (S2.out.block hg).1)
  have A4 := Lib.hid (fun g (hg : u1.ownBlock = some g) => Nat.le_trans (Nat.le_refl _) (B3.out g hg))
  have K5 := Lib.hid H1.out
  clear H1
  go_wp2_with fail
  refine (sFCount_any xs sign _ _ _ S2.out).mono ?_
  rintro e w' ⟨rfl, rfl⟩
  go_wp2_with fail
  have L6 := Lib.hid (fun g (hg : u1.ownBlock = some g) => (S2.out.block hg).2)
  refine (toIntS_any xs h20xs _ _ (HAxs.out.stay K5.out)).mono ?_
  rintro e w2 ⟨u2, rfl, hs, hk⟩
  have H7 := Lib.hid hk; clear hk
  have S8 := Lib.hid (S2.out.stay H7.out); clear S2
  have S9 := Lib.hid hs; clear hs
  have B10 := Lib.hid (fun g (hg : u2.ownBlock = some g) => (S9.out.block hg).1)
  have A11 := Lib.hid (fun g (hg : u2.ownBlock = some g) => Nat.le_trans (K5.out.size) (B10.out g hg))
  have K12 := Lib.hid (K5.out.trans H7.out (by simp))
  clear H7
  go_wp2_with fail
  refine (iFCount_any xs sign _ _ _ S9.out).mono ?_
  rintro e w3 ⟨rfl, hk⟩
  have H13 := Lib.hid hk; clear hk
  have S14 := Lib.hid (S8.out.stay H13.out); clear S8
  have S15 := Lib.hid (S9.out.stay H13.out); clear S9
  have K16 := Lib.hid (K12.out.trans H13.out (by simp))
  clear H13
  go_wp2_with fail
  have L17 := Lib.hid (fun g (hg : u1.ownBlock = some g) => (S14.out.block hg).2)
  have L18 := Lib.hid (fun g (hg : u2.ownBlock = some g) => (S15.out.block hg).2)
  refine (toIntS_any xs h20xs _ _ (HAxs.out.stay K16.out)).mono ?_
  rintro e w4 ⟨u4, rfl, hs, hk⟩
  have H19 := Lib.hid hk; clear hk
  have S20 := Lib.hid (S14.out.stay H19.out); clear S14
  have S21 := Lib.hid (S15.out.stay H19.out); clear S15
  have S22 := Lib.hid hs; clear hs
  have B23 := Lib.hid (fun g (hg : u4.ownBlock = some g) => (S22.out.block hg).1)
  have A24 := Lib.hid (fun g (hg : u4.ownBlock = some g) => Nat.le_trans (K16.out.size) (B23.out g hg))
  have K25 := Lib.hid (K16.out.trans H19.out (by simp))
  clear H19
  go_wp2_with fail
  refine (eqIntS_any _ _ _ _ _ _ _ S21.out S22.out).mono ?_
  rintro e w5 ⟨rfl, hq⟩
  have H26 := Lib.hid hq.kept; clear hq
  have S27 := Lib.hid (S20.out.stay H26.out); clear S20
  have S28 := Lib.hid (S21.out.stay H26.out); clear S21
  have S29 := Lib.hid (S22.out.stay H26.out); clear S22
  have K30 := Lib.hid (K25.out.trans H26.out (by simp))
  clear H26
  go_wp2_with fail
  go_ret
  exact ⟨rfl, K30.out⟩
end Go.Proofs.Ytdpkacpeednnoab
