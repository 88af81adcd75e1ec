/-
  The walk of an exact law: BeforeCount of the program answers as its model does.
-/
import Derived.Test.YtlcbpnbehbgbeaaE1
import Derived.Test.YtlcbpnbehbgbeaaNM
import Derived.Test.YtlcbpnbehbgbeaaNP2
namespace Go.Proofs.Ytlcbpnbehbgbeaa
open Go.RowKit

set_option maxHeartbeats 4000000 in
set_option maxRecDepth 100000 in
theorem ExactBeforeCount_calls (xs : List Int) (kinds : Int) (ys : List Int) (w : World) (vxs : Value) (vys : Value) (haxs : Arg w vxs xs) (hays : Arg w vys ys) :
    Calls Try.prog 9 #[vxs, .int .i64 kinds, vys] w fun e w' => e = .returned (.bool true) ∧ Kept [] w w' := by
  have HAxs := Lib.hid haxs
  obtain ⟨axs, capxs, rfl, hmxs, _⟩ := haxs
  have HAys := Lib.hid hays
  obtain ⟨ays, capys, rfl, hmys, _⟩ := hays
  by_cases hbigxs : 1048576 < xs.length
  · have hb : (1048576 : Int) < xs.length := by omega
    clear hbigxs
    go_enter Try.func9, Try.ntmps9
    go_wp2
    go_ret
    exact ⟨rfl, Kept.refl _ _⟩
  have hbxs : ¬ (1048576 : Int) < xs.length := by omega
  have h20xs : xs.length ≤ 1048576 := by omega
  clear hbigxs
  by_cases hbigys : 1048576 < ys.length
  · have hb : (1048576 : Int) < ys.length := by omega
    have hcxs : ¬ (1048576 : Int) < xs.length := by omega
    clear hbigys
    go_enter Try.func9, Try.ntmps9
    go_wp2
    go_ret
    exact ⟨rfl, Kept.refl _ _⟩
  have hbys : ¬ (1048576 : Int) < ys.length := by omega
  have h20ys : ys.length ≤ 1048576 := by omega
  clear hbigys
  go_enter Try.func9, Try.ntmps9
  go_wp2_with fail
  refine (toIntS_any xs h20xs _ _ HAxs.out).mono ?_
  rintro e w1 ⟨u1, rfl, hs, hk⟩
  have H1 := Lib.hid hk; clear hk
  have S2 := Lib.hid hs; clear hs
  have B3 := Lib.hid (fun g (hg : u1.ownBlock = some g) => (S2.out.block hg).1)
  have A4 := Lib.hid (fun g (hg : u1.ownBlock = some g) => Nat.le_trans (Nat.le_refl _) (B3.out g hg))
  have K5 := Lib.hid H1.out
  clear H1
  go_wp2_with fail
  have L6 := Lib.hid (fun g (hg : u1.ownBlock = some g) => (S2.out.block hg).2)
  refine (toIntS_any ys h20ys _ _ (HAys.out.stay K5.out)).mono ?_
  rintro e w2 ⟨u2, rfl, hs, hk⟩
  have H7 := Lib.hid hk; clear hk
  have S8 := Lib.hid (S2.out.stay H7.out); clear S2
  have S9 := Lib.hid hs; clear hs
  have B10 := Lib.hid (fun g (hg : u2.ownBlock = some g) => (S9.out.block hg).1)
  have A11 := Lib.hid (fun g (hg : u2.ownBlock = some g) => Nat.le_trans (K5.out.size) (B10.out g hg))
  have K12 := Lib.hid (K5.out.trans H7.out (by simp))
  clear H7
  go_wp2_with fail
  refine (sBef_any xs kinds ys _ _ _ _ _ S8.out S9.out).mono ?_
  rintro e w3 ⟨rfl, hk⟩
  have H13 := Lib.hid hk; clear hk
  have S14 := Lib.hid (S8.out.stay H13.out); clear S8
  have S15 := Lib.hid (S9.out.stay H13.out); clear S9
  have K16 := Lib.hid (K12.out.trans H13.out (by simp))
  clear H13
  go_wp2_with fail
  have L17 := Lib.hid (fun g (hg : u1.ownBlock = some g) => (S14.out.block hg).2)
  have L18 := Lib.hid (fun g (hg : u2.ownBlock = some g) => (S15.out.block hg).2)
  refine (toIntS_any xs h20xs _ _ (HAxs.out.stay K16.out)).mono ?_
  rintro e w4 ⟨u4, rfl, hs, hk⟩
  have H19 := Lib.hid hk; clear hk
  have S20 := Lib.hid (S14.out.stay H19.out); clear S14
  have S21 := Lib.hid (S15.out.stay H19.out); clear S15
  have S22 := Lib.hid hs; clear hs
  have B23 := Lib.hid (fun g (hg : u4.ownBlock = some g) => (S22.out.block hg).1)
  have A24 := Lib.hid (fun g (hg : u4.ownBlock = some g) => Nat.le_trans (K16.out.size) (B23.out g hg))
  have K25 := Lib.hid (K16.out.trans H19.out (by simp))
  clear H19
  go_wp2_with fail
  have L26 := Lib.hid (fun g (hg : u1.ownBlock = some g) => (S20.out.block hg).2)
  have L27 := Lib.hid (fun g (hg : u2.ownBlock = some g) => (S21.out.block hg).2)
  have L28 := Lib.hid (fun g (hg : u4.ownBlock = some g) => (S22.out.block hg).2)
  refine (toIntS_any ys h20ys _ _ (HAys.out.stay K25.out)).mono ?_
  rintro e w5 ⟨u5, rfl, hs, hk⟩
  have H29 := Lib.hid hk; clear hk
  have S30 := Lib.hid (S20.out.stay H29.out); clear S20
  have S31 := Lib.hid (S21.out.stay H29.out); clear S21
  have S32 := Lib.hid (S22.out.stay H29.out); clear S22
  have S33 := Lib.hid hs; clear hs
  have B34 := Lib.hid (fun g (hg : u5.ownBlock = some g) => (S33.out.block hg).1)
  have A35 := Lib.hid (fun g (hg : u5.ownBlock = some g) => Nat.le_trans (K25.out.size) (B34.out g hg))
  have K36 := Lib.hid (K25.out.trans H29.out (by simp))
  clear H29
  go_wp2_with fail
  refine (iBef_any xs kinds ys _ _ _ _ _ S32.out S33.out).mono ?_
  rintro e w6 ⟨rfl, hk⟩
  have H37 := Lib.hid hk; clear hk
  have S38 := Lib.hid (S30.out.stay H37.out); clear S30
  have S39 := Lib.hid (S31.out.stay H37.out); clear S31
  have S40 := Lib.hid (S32.out.stay H37.out); clear S32
  have S41 := Lib.hid (S33.out.stay H37.out); clear S33
  have K42 := Lib.hid (K36.out.trans H37.out (by simp))
  clear H37
  go_wp2_with fail
  have L43 := Lib.hid (fun g (hg : u1.ownBlock = some g) => (S38.out.block hg).2)
  have L44 := Lib.hid (fun g (hg : u2.ownBlock = some g) => (S39.out.block hg).2)
  have L45 := Lib.hid (fun g (hg : u4.ownBlock = some g) => (S40.out.block hg).2)
  have L46 := Lib.hid (fun g (hg : u5.ownBlock = some g) => (S41.out.block hg).2)
  refine (toIntS_any xs h20xs _ _ (HAxs.out.stay K42.out)).mono ?_
  rintro e w7 ⟨u7, rfl, hs, hk⟩
  have H47 := Lib.hid hk; clear hk
  have S48 := Lib.hid (S38.out.stay H47.out); clear S38
  have S49 := Lib.hid (S39.out.stay H47.out); clear S39
  have S50 := Lib.hid (S40.out.stay H47.out); clear S40
  have S51 := Lib.hid (S41.out.stay H47.out); clear S41
  have S52 := Lib.hid hs; clear hs
  have B53 := Lib.hid (fun g (hg : u7.ownBlock = some g) => (S52.out.block hg).1)
  have A54 := Lib.hid (fun g (hg : u7.ownBlock = some g) => Nat.le_trans (K42.out.size) (B53.out g hg))
  have K55 := Lib.hid (K42.out.trans H47.out (by simp))
  clear H47
  go_wp2_with fail
  refine (eqIntS_any _ _ _ _ _ _ _ S50.out S52.out).mono ?_
  rintro e w8 ⟨rfl, hq⟩
  have H56 := Lib.hid hq.kept; clear hq
  have S57 := Lib.hid (S48.out.stay H56.out); clear S48
  have S58 := Lib.hid (S49.out.stay H56.out); clear S49
  have S59 := Lib.hid (S50.out.stay H56.out); clear S50
  have S60 := Lib.hid (S51.out.stay H56.out); clear S51
  have S61 := Lib.hid (S52.out.stay H56.out); clear S52
  have K62 := Lib.hid (K55.out.trans H56.out (by simp))
  clear H56
  go_wp2_with fail
  have L63 := Lib.hid (fun g (hg : u1.ownBlock = some g) => (S57.out.block hg).2)
  have L64 := Lib.hid (fun g (hg : u2.ownBlock = some g) => (S58.out.block hg).2)
  have L65 := Lib.hid (fun g (hg : u4.ownBlock = some g) => (S59.out.block hg).2)
  have L66 := Lib.hid (fun g (hg : u5.ownBlock = some g) => (S60.out.block hg).2)
  have L67 := Lib.hid (fun g (hg : u7.ownBlock = some g) => (S61.out.block hg).2)
  refine (toIntS_any ys h20ys _ _ (HAys.out.stay K62.out)).mono ?_
  rintro e w9 ⟨u9, rfl, hs, hk⟩
  have H68 := Lib.hid hk; clear hk
  have S69 := Lib.hid (S57.out.stay H68.out); clear S57
  have S70 := Lib.hid (S58.out.stay H68.out); clear S58
  have S71 := Lib.hid (S59.out.stay H68.out); clear S59
  have S72 := Lib.hid (S60.out.stay H68.out); clear S60
  have S73 := Lib.hid (S61.out.stay H68.out); clear S61
  have S74 := Lib.hid hs; clear hs
  have B75 := Lib.hid (fun g (hg : u9.ownBlock = some g) => (S74.out.block hg).1)
  have A76 := Lib.hid (fun g (hg : u9.ownBlock = some g) => Nat.le_trans (K62.out.size) (B75.out g hg))
  have K77 := Lib.hid (K62.out.trans H68.out (by simp))
  clear H68
  go_wp2_with fail
  refine (eqIntS_any _ _ _ _ _ _ _ S72.out S74.out).mono ?_
  rintro e w10 ⟨rfl, hq⟩
  have H78 := Lib.hid hq.kept; clear hq
  have S79 := Lib.hid (S69.out.stay H78.out); clear S69
  have S80 := Lib.hid (S70.out.stay H78.out); clear S70
  have S81 := Lib.hid (S71.out.stay H78.out); clear S71
  have S82 := Lib.hid (S72.out.stay H78.out); clear S72
  have S83 := Lib.hid (S73.out.stay H78.out); clear S73
  have S84 := Lib.hid (S74.out.stay H78.out); clear S74
  have K85 := Lib.hid (K77.out.trans H78.out (by simp))
  clear H78
  go_wp2_with fail
  go_ret
  exact ⟨rfl, K85.out⟩
end Go.Proofs.Ytlcbpnbehbgbeaa
