/-
  The walk of an exact law: ScriptText of the program answers as its model does.
-/
import Derived.Test.YtilbdpcijdcffabDoorE2
import Derived.Test.YtilbdpcijdcffabDoorSM5
import Derived.Test.YtilbdpcijdcffabDoorSQ1
namespace Go.Proofs.YtilbdpcijdcffabDoor
open Go.RowKit

set_option maxHeartbeats 4000000 in
set_option maxRecDepth 100000 in
theorem ExactScriptText_calls (n : Int) (ls : List (Int × Int)) (w : World) (vls : Value) (hals : ArgL w vls ls) :
    Calls Tryd.prog 3 #[.int .i64 n, vls] w fun e w' => e = .returned (.bool true) ∧ Kept [] w w' := by
  have HAls := Lib.hid hals
  obtain ⟨als, capls, rfl, hmls, _⟩ := hals
  by_cases hbigls : 1048576 < ls.length
  · have hb : (1048576 : Int) - ls.length < 0 := by omega
    have HBIG := Lib.hid hbigls
    clear hbigls hb
    go_enter Tryd.func3, Tryd.ntmps3
    go_wp2_with (go_at_call 5; refine (szLightS_big ls.length HBIG.out hmls _ _ _).mono ?_; rintro e w' ⟨rfl, rfl⟩)
    go_ret
    exact ⟨rfl, Kept.refl _ _⟩
  have hzls : ¬ (1048576 : Int) - ls.length < 0 := by omega
  have hz2ls : decide ((1048576 : Int) - ls.length < 0) = false := dec_not hzls
  have h20ls : ls.length ≤ 1048576 := by omega
  clear hbigls hzls
  go_enter Tryd.func3, Tryd.ntmps3
  go_wp2_with fail
  refine (szLightS_ok ls.length h20ls _ _ _).mono ?_
  rintro e w' ⟨rfl, rfl⟩
  go_wp2_with fail
  refine (toLightS_any ls h20ls _ _ HAls.out).mono ?_
  rintro e w1 ⟨u1, rfl, hs, hk⟩
  have H1 := Lib.hid hk; clear hk
  have S2 := Lib.hid hs; clear hs
  have B3 := Lib.hid (fun g (hg : u1.ownBlock = some g) => (S2.out.block hg).1)
  have A4 := Lib.hid (fun g (hg : u1.ownBlock = some g) => Nat.le_trans (Nat.le_refl _) (B3.out g hg))
  have K5 := Lib.hid H1.out
  clear H1
  go_wp2_with fail
  refine (sScriptText_any n ls _ _ _ S2.out).mono ?_
  rintro e w2 ⟨za, rfl, hza, hk⟩
  have H6 := Lib.hid hk; clear hk
  have Zza := Lib.hid hza; clear hza
  have S7 := Lib.hid (S2.out.stay H6.out); clear S2
  have K8 := Lib.hid (K5.out.trans H6.out (by simp))
  clear H6
  go_wp2_with fail
  have L9 := Lib.hid (fun g (hg : u1.ownBlock = some g) => (S7.out.block hg).2)
  refine (toLightS_any ls h20ls _ _ (HAls.out.stay K8.out)).mono ?_
  rintro e w3 ⟨u3, rfl, hs, hk⟩
  have H10 := Lib.hid hk; clear hk
  have S11 := Lib.hid (S7.out.stay H10.out); clear S7
  have S12 := Lib.hid hs; clear hs
  have B13 := Lib.hid (fun g (hg : u3.ownBlock = some g) => (S12.out.block hg).1)
  have A14 := Lib.hid (fun g (hg : u3.ownBlock = some g) => Nat.le_trans (K8.out.size) (B13.out g hg))
  have K15 := Lib.hid (K8.out.trans H10.out (by simp))
  clear H10
  go_wp2_with fail
  refine (iScriptText_any n ls _ _ _ S12.out).mono ?_
  rintro e w4 ⟨zb, rfl, hzb, hk⟩
  have H16 := Lib.hid hk; clear hk
  have Zzb := Lib.hid hzb; clear hzb
  have S17 := Lib.hid (S11.out.stay H16.out); clear S11
  have S18 := Lib.hid (S12.out.stay H16.out); clear S12
  have K19 := Lib.hid (K15.out.trans H16.out (by simp))
  clear H16
  have d1 : (zb.toList == za.toList) = true := str_yes (by rw [Zzb.out, Zza.out])
  go_wp2_with fail
  have L20 := Lib.hid (fun g (hg : u1.ownBlock = some g) => (S17.out.block hg).2)
  have L21 := Lib.hid (fun g (hg : u3.ownBlock = some g) => (S18.out.block hg).2)
  refine (toLightS_any ls h20ls _ _ (HAls.out.stay K19.out)).mono ?_
  rintro e w5 ⟨u5, rfl, hs, hk⟩
  have H22 := Lib.hid hk; clear hk
  have S23 := Lib.hid (S17.out.stay H22.out); clear S17
  have S24 := Lib.hid (S18.out.stay H22.out); clear S18
  have S25 := Lib.hid hs; clear hs
  have B26 := Lib.hid (fun g (hg : u5.ownBlock = some g) => (S25.out.block hg).1)
  have A27 := Lib.hid (fun g (hg : u5.ownBlock = some g) => Nat.le_trans (K19.out.size) (B26.out g hg))
  have K28 := Lib.hid (K19.out.trans H22.out (by simp))
  clear H22
  go_wp2_with fail
  refine (eqLightS_any _ _ _ _ _ _ _ S24.out S25.out).mono ?_
  rintro e w6 ⟨rfl, hk⟩
  have H29 := Lib.hid hk; clear hk
  have S30 := Lib.hid (S23.out.stay H29.out); clear S23
  have S31 := Lib.hid (S24.out.stay H29.out); clear S24
  have S32 := Lib.hid (S25.out.stay H29.out); clear S25
  have K33 := Lib.hid (K28.out.trans H29.out (by simp))
  clear H29
  go_wp2_with fail
  go_ret
  exact ⟨rfl, K33.out⟩
end Go.Proofs.YtilbdpcijdcffabDoor
