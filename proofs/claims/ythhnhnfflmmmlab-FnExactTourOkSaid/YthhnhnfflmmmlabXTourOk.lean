/-
  The walk of an exact law: TourOk of the program answers as its model does.
-/
import Derived.Test.YthhnhnfflmmmlabE1
import Derived.Test.YthhnhnfflmmmlabUM
import Derived.Test.YthhnhnfflmmmlabUI
namespace Go.Proofs.Ythhnhnfflmmmlab
open Go.RowKit

set_option maxHeartbeats 4000000 in
theorem ExactTourOk_calls (xs : List Int) (zs : List Int) (w : World) (vxs : Value) (vzs : Value) (haxs : Arg w vxs xs) (hazs : Arg w vzs zs) :
    Calls Try.prog 4 #[vxs, vzs] w fun e w' => e = .returned (.bool true) ∧ Kept [] w w' := by
  have HAxs := Lib.hid haxs
  obtain ⟨axs, capxs, rfl, hmxs, _⟩ := haxs
  have HAzs := Lib.hid hazs
  obtain ⟨azs, capzs, rfl, hmzs, _⟩ := hazs
  by_cases hbigxs : 1048576 < xs.length
  · have hb : (1048576 : Int) < xs.length := by omega
    clear hbigxs
    go_enter Try.func4, Try.ntmps4
    go_wp2
    go_ret
    exact ⟨rfl, Kept.refl _ _⟩
  have hbxs : ¬ (1048576 : Int) < xs.length := by omega
  have h20xs : xs.length ≤ 1048576 := by omega
  clear hbigxs
  by_cases hbigzs : 1048576 < zs.length
  · have hb : (1048576 : Int) < zs.length := by omega
    have hcxs : ¬ (1048576 : Int) < xs.length := by omega
    clear hbigzs
    go_enter Try.func4, Try.ntmps4
    go_wp2
    go_ret
    exact ⟨rfl, Kept.refl _ _⟩
  have hbzs : ¬ (1048576 : Int) < zs.length := by omega
  have h20zs : zs.length ≤ 1048576 := by omega
  clear hbigzs
  go_enter Try.func4, Try.ntmps4
  go_wp2_with fail
  refine (toIntS_any xs h20xs _ _ HAxs.out).mono ?_
  rintro e w1 ⟨u1, rfl, hs, hk⟩
  have H1 := Lib.hid hk; clear hk
  have S2 := Lib.hid hs; clear hs
  have B3 := Lib.hid (fun g (hg : u1.ownBlock = some g) => (S2.out.block hg).1)
  have A4 := Lib.hid (fun g (hg : u1.ownBlock = some g) => Nat.le_trans (Nat.le_refl _) (B3.out g hg))
  have K5 := Lib.hid H1.out
  clear H1
  go_wp2_with fail
  have L6 := Lib.hid (fun g (hg : u1.ownBlock = some g) => (S2.out.block hg).2)
  refine (toIntS_any zs h20zs _ _ (HAzs.out.stay K5.out)).mono ?_
  rintro e w2 ⟨u2, rfl, hs, hk⟩
  have H7 := Lib.hid hk; clear hk
  have S8 := Lib.hid (S2.out.stay H7.out); clear S2
  have S9 := Lib.hid hs; clear hs
  have B10 := Lib.hid (fun g (hg : u2.ownBlock = some g) => (S9.out.block hg).1)
  have A11 := Lib.hid (fun g (hg : u2.ownBlock = some g) => Nat.le_trans (K5.out.size) (B10.out g hg))
  have K12 := Lib.hid (K5.out.trans H7.out (by simp))
  clear H7
  go_wp2_with fail
  refine (sTourOk_any xs zs _ _ _ _ _ S8.out S9.out).mono ?_
  rintro e w3 ⟨rfl, hq⟩
  have H13 := Lib.hid hq.kept; clear hq
  have S14 := Lib.hid (S8.out.stay H13.out); clear S8
  have S15 := Lib.hid (S9.out.stay H13.out); clear S9
  have K16 := Lib.hid (K12.out.trans H13.out (by simp))
  clear H13
  go_wp2_with fail
  have L17 := Lib.hid (fun g (hg : u1.ownBlock = some g) => (S14.out.block hg).2)
  have L18 := Lib.hid (fun g (hg : u2.ownBlock = some g) => (S15.out.block hg).2)
  refine (toIntS_any xs h20xs _ _ (HAxs.out.stay K16.out)).mono ?_
  rintro e w4 ⟨u4, rfl, hs, hk⟩
  have H19 := Lib.hid hk; clear hk
  have S20 := Lib.hid (S14.out.stay H19.out); clear S14
  have S21 := Lib.hid (S15.out.stay H19.out); clear S15
  have S22 := Lib.hid hs; clear hs
  have B23 := Lib.hid (fun g (hg : u4.ownBlock = some g) => (S22.out.block hg).1)
  have A24 := Lib.hid (fun g (hg : u4.ownBlock = some g) => Nat.le_trans (K16.out.size) (B23.out g hg))
  have K25 := Lib.hid (K16.out.trans H19.out (by simp))
  clear H19
  go_wp2_with fail
  have L26 := Lib.hid (fun g (hg : u1.ownBlock = some g) => (S20.out.block hg).2)
  have L27 := Lib.hid (fun g (hg : u2.ownBlock = some g) => (S21.out.block hg).2)
  have L28 := Lib.hid (fun g (hg : u4.ownBlock = some g) => (S22.out.block hg).2)
  refine (toIntS_any zs h20zs _ _ (HAzs.out.stay K25.out)).mono ?_
  rintro e w5 ⟨u5, rfl, hs, hk⟩
  have H29 := Lib.hid hk; clear hk
  have S30 := Lib.hid (S20.out.stay H29.out); clear S20
  have S31 := Lib.hid (S21.out.stay H29.out); clear S21
  have S32 := Lib.hid (S22.out.stay H29.out); clear S22
  have S33 := Lib.hid hs; clear hs
  have B34 := Lib.hid (fun g (hg : u5.ownBlock = some g) => (S33.out.block hg).1)
  have A35 := Lib.hid (fun g (hg : u5.ownBlock = some g) => Nat.le_trans (K25.out.size) (B34.out g hg))
  have K36 := Lib.hid (K25.out.trans H29.out (by simp))
  clear H29
  go_wp2_with fail
  refine (iTourOk_any xs zs _ _ _ _ _ S32.out S33.out).mono ?_
  rintro e w' ⟨rfl, rfl⟩
  go_wp2_with fail
  have L37 := Lib.hid (fun g (hg : u1.ownBlock = some g) => (S30.out.block hg).2)
  have L38 := Lib.hid (fun g (hg : u2.ownBlock = some g) => (S31.out.block hg).2)
  have L39 := Lib.hid (fun g (hg : u4.ownBlock = some g) => (S32.out.block hg).2)
  have L40 := Lib.hid (fun g (hg : u5.ownBlock = some g) => (S33.out.block hg).2)
  refine (toIntS_any xs h20xs _ _ (HAxs.out.stay K36.out)).mono ?_
  rintro e w6 ⟨u6, rfl, hs, hk⟩
  have H41 := Lib.hid hk; clear hk
  have S42 := Lib.hid (S30.out.stay H41.out); clear S30
  have S43 := Lib.hid (S31.out.stay H41.out); clear S31
  have S44 := Lib.hid (S32.out.stay H41.out); clear S32
  have S45 := Lib.hid (S33.out.stay H41.out); clear S33
  have S46 := Lib.hid hs; clear hs
  have B47 := Lib.hid (fun g (hg : u6.ownBlock = some g) => (S46.out.block hg).1)
  have A48 := Lib.hid (fun g (hg : u6.ownBlock = some g) => Nat.le_trans (K36.out.size) (B47.out g hg))
  have K49 := Lib.hid (K36.out.trans H41.out (by simp))
  clear H41
  go_wp2_with fail
  refine (eqIntS_any _ _ _ _ _ _ _ S44.out S46.out).mono ?_
  rintro e w7 ⟨rfl, hq⟩
  have H50 := Lib.hid hq.kept; clear hq
  have S51 := Lib.hid (S42.out.stay H50.out); clear S42
  have S52 := Lib.hid (S43.out.stay H50.out); clear S43
  have S53 := Lib.hid (S44.out.stay H50.out); clear S44
  have S54 := Lib.hid (S45.out.stay H50.out); clear S45
  have S55 := Lib.hid (S46.out.stay H50.out); clear S46
  have K56 := Lib.hid (K49.out.trans H50.out (by simp))
  clear H50
  go_wp2_with fail
  have L57 := Lib.hid (fun g (hg : u1.ownBlock = some g) => (S51.out.block hg).2)
  have L58 := Lib.hid (fun g (hg : u2.ownBlock = some g) => (S52.out.block hg).2)
  have L59 := Lib.hid (fun g (hg : u4.ownBlock = some g) => (S53.out.block hg).2)
  have L60 := Lib.hid (fun g (hg : u5.ownBlock = some g) => (S54.out.block hg).2)
  have L61 := Lib.hid (fun g (hg : u6.ownBlock = some g) => (S55.out.block hg).2)
  refine (toIntS_any zs h20zs _ _ (HAzs.out.stay K56.out)).mono ?_
  rintro e w8 ⟨u8, rfl, hs, hk⟩
  have H62 := Lib.hid hk; clear hk
  have S63 := Lib.hid (S51.out.stay H62.out); clear S51
  have S64 := Lib.hid (S52.out.stay H62.out); clear S52
  have S65 := Lib.hid (S53.out.stay H62.out); clear S53
  have S66 := Lib.hid (S54.out.stay H62.out); clear S54
  have S67 := Lib.hid (S55.out.stay H62.out); clear S55
  have S68 := Lib.hid hs; clear hs
  have B69 := Lib.hid (fun g (hg : u8.ownBlock = some g) => (S68.out.block hg).1)
  have A70 := Lib.hid (fun g (hg : u8.ownBlock = some g) => Nat.le_trans (K56.out.size) (B69.out g hg))
  have K71 := Lib.hid (K56.out.trans H62.out (by simp))
  clear H62
  go_wp2_with fail
  refine (eqIntS_any _ _ _ _ _ _ _ S66.out S68.out).mono ?_
  rintro e w9 ⟨rfl, hq⟩
  have H72 := Lib.hid hq.kept; clear hq
  have S73 := Lib.hid (S63.out.stay H72.out); clear S63
  have S74 := Lib.hid (S64.out.stay H72.out); clear S64
  have S75 := Lib.hid (S65.out.stay H72.out); clear S65
  have S76 := Lib.hid (S66.out.stay H72.out); clear S66
  have S77 := Lib.hid (S67.out.stay H72.out); clear S67
  have S78 := Lib.hid (S68.out.stay H72.out); clear S68
  have K79 := Lib.hid (K71.out.trans H72.out (by simp))
  clear H72
  go_wp2_with fail
  go_ret
  exact ⟨rfl, K79.out⟩
end Go.Proofs.Ythhnhnfflmmmlab
