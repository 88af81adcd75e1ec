/-
  The law ScriptText, walked.
-/
import Derived.Test.YtilbdpcijdcffaaDoorDS
import Derived.Test.YtilbdpcijdcffaaDoorL1
import Derived.Test.YtilbdpcijdcffaaDoorL2
import Derived.Test.YtilbdpcijdcffaaDoorSQ3
import Derived.Test.YtilbdpcijdcffaaDoorSM5
namespace Go.Proofs.YtilbdpcijdcffaaDoor
open Go.RowKit

set_option maxHeartbeats 4000000 in
set_option maxRecDepth 100000 in
theorem FnScriptText_calls (w : World) (v : Value) (ha : ArgB w v) (he : ErrW w) :
    Calls Tryd.prog 3 #[v] w fun e w' => e = .returned (.bool true) ∧ Kept [] w w' := by
  have HA := Lib.hid ha
  have HE := Lib.hid he
  clear he
  obtain ⟨a, len, cap, rfl, hlc, hcm, _⟩ := ha
  by_cases hbig : 1048576 < len
  · have hb : (1048576 : Int) < (len : Int) := by omega
    clear hbig
    go_enter Tryd.func3, Tryd.ntmps3
    go_wp2
    go_ret
    exact ⟨rfl, Kept.refl _ _⟩
  have hb : ¬ (1048576 : Int) < (len : Int) := by omega
  clear hbig
  go_enter Tryd.func3, Tryd.ntmps3
  go_wp2_with fail
  refine (drawScriptText_any _ _ HA.out).mono ?_
  rintro e w1 ⟨nn, u, ls, rfl, hx0, hx1, hg, hl6, hk⟩
  have G1 := Lib.hid hg
  have HK1 := Lib.hid hk
  obtain ⟨bG, capG, rfl, _, _, _⟩ := hg.any
  clear hk hg hb
  go_wp2_with fail
  refine (iScriptText_any nn ls _ _ _ G1.out).mono ?_
  rintro e w2 ⟨z, rfl, hz, hk⟩
  have HZ := Lib.hid hz
  have G2 := Lib.hid (G1.out.stay hk)
  have HK2 := Lib.hid (HK1.out.trans hk (by simp))
  clear hz hk G1 HK1
  go_wp2_with fail
  refine (sScriptText_any nn ls _ _ _ G2.out).mono ?_
  rintro e w3 ⟨z', rfl, hz, hk⟩
  have d1 : (z.toList == z'.toList) = true := str_yes (by rw [HZ.out, hz])
  have G3 := Lib.hid (G2.out.stay hk)
  have HK3 := Lib.hid (HK2.out.trans hk (by simp))
  clear hz hk G2 HK2
  cases h1 : Nt.scB nn ls
  · have hz0 : tx z = [] := by rw [HZ.out]; exact Nt.textOf_no h1
    have d2 : (z.toList == []) = true := by rw [str_beq, decide_eq_true (by simpa using hz0)]
    have d3 : z.toList.isEmpty = true := by rw [List.isEmpty_iff]; exact eq_of_beq d2
    have HB := Lib.hid h1
    clear hz0 h1
    go_wp2_with fail
    refine (iScriptOk_any nn ls _ _ _ G3.out).mono ?_
    rintro e w4 ⟨rfl, hk⟩
    rw [HB.out]
    have HK4 := Lib.hid (HK3.out.trans hk (by simp))
    clear hk
    go_wp2_with fail
    refine (alive_any _).mono ?_
    rintro e w5 ⟨rfl, hk⟩
    have HK5 := Lib.hid (HK4.out.trans hk (by simp))
    clear hk
    go_wp2
    go_ret
    exact ⟨rfl, HK5.out⟩
  · have hz0 : tx z ≠ [] := by rw [HZ.out]; exact Nt.textOf_ne h1
    have d2 : (z.toList == []) = false := by rw [str_beq, decide_eq_false (by simpa using hz0)]
    have d3 : z.toList.isEmpty = false := by rw [List.isEmpty_eq_false_iff]; exact ne_of_beq_false d2
    have HR := Lib.hid (Nt.read_of (n := nn) (xs := ls) HZ.out.symm hz0)
    have HZS : Hid (z.size ≤ 1100000) := Lib.hid (by rw [← tx_length, HZ.out]; exact Nat.le_trans (Nt.textOf_length _ _) (by omega))
    clear hz0 h1
    go_wp2_with fail
    refine (iReadScript_any nn z HZS.out _ (HE.out.stay HK3.out)).mono ?_
    rintro e w4 ⟨u4, rfl, hg4, hk⟩
    rw [HR.out.1]
    rw [HR.out.2.1] at hg4
    have X4 := Lib.hid hg4
    have G4 := Lib.hid (G3.out.stay hk)
    have HK4 := Lib.hid (HK3.out.trans hk (by simp))
    obtain ⟨bX, capX, rfl, _, _, _⟩ := hg4.any
    clear hk hg4
    go_wp2_with fail
    refine (sameLights_any _ _ _ _ _ _ _ X4.out G4.out).mono ?_
    rintro e w5 ⟨rfl, hq⟩
    rw [dec_of rfl]
    have HK5 := Lib.hid (HK4.out.trans hq.kept (by simp))
    clear hq
    go_wp2
    go_ret
    exact ⟨rfl, HK5.out⟩
end Go.Proofs.YtilbdpcijdcffaaDoor
