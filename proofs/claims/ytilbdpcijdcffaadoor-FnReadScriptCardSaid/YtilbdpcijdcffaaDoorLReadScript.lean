/-
  The law ReadScript, walked.
-/
import Derived.Test.YtilbdpcijdcffaaDoorD29
import Derived.Test.YtilbdpcijdcffaaDoorL1
import Derived.Test.YtilbdpcijdcffaaDoorL2
import Derived.Test.YtilbdpcijdcffaaDoorSQ3
import Derived.Test.YtilbdpcijdcffaaDoorSM6
namespace Go.Proofs.YtilbdpcijdcffaaDoor
open Go.RowKit

theorem read_back {n : Int} {t : List Nat} (h : Nt.readB n t = true) : Nt.textOf n (Nt.readOf n t) = t ∧ Nt.scB n (Nt.readOf n t) = true := by
  obtain ⟨m, sc, rfl, so, rfl, _, e⟩ := Nt.readB_ok h
  rw [e]
  have h1 := Nt.textOf_ok so
  exact ⟨h1, Nt.textOf_some (by rw [h1]; exact Nt.textS_ne sc)⟩

set_option maxHeartbeats 4000000 in
set_option maxRecDepth 100000 in
theorem FnReadScript_calls (w : World) (v : Value) (ha : ArgB w v) (he : ErrW w) :
    Calls Tryd.prog 4 #[v] w fun e w' => e = .returned (.bool true) ∧ Kept [] w w' := by
  have HA := Lib.hid ha
  have HE := Lib.hid he
  clear he
  obtain ⟨a, len, cap, rfl, hlc, hcm, _⟩ := ha
  by_cases hbig : 1048576 < len
  · have hb : (1048576 : Int) < (len : Int) := by omega
    clear hbig
    go_enter Tryd.func4, Tryd.ntmps4
    go_wp2
    go_ret
    exact ⟨rfl, Kept.refl _ _⟩
  have hb : ¬ (1048576 : Int) < (len : Int) := by omega
  clear hbig
  go_enter Tryd.func4, Tryd.ntmps4
  go_wp2_with fail
  refine (drawReadScript_any _ _ HA.out).mono ?_
  rintro e w1 ⟨nn, s, rfl, hs2, hk⟩
  have HK1 := Lib.hid hk
  have hs11 : s.size ≤ 1100000 := by omega
  clear hk hb
  go_wp2_with fail
  refine (iReadScript_any nn s hs11 _ (HE.out.stay HK1.out)).mono ?_
  rintro e w2 ⟨u, rfl, hg, hk⟩
  have G2 := Lib.hid hg
  obtain ⟨bG, capG, rfl, _, _, _⟩ := hg.any
  have HK2 := Lib.hid (HK1.out.trans hk (by simp))
  clear hk HK1 hg
  go_wp2_with fail
  refine (sReadScript_any nn s hs11 _).mono ?_
  rintro e w3 ⟨u', rfl, hg, hk⟩
  have X3 := Lib.hid hg
  obtain ⟨bX, capX, rfl, _, _, _⟩ := hg.any
  have G3 := Lib.hid (G2.out.stay hk)
  have HK3 := Lib.hid (HK2.out.trans hk (by simp))
  clear hk HK2 G2 hg
  cases h1 : Nt.readB nn (tx s)
  · have h0 := Nt.readOf_no h1
    have HL : Hid ((Nt.readOf nn (tx s)).length = 0) := Lib.hid (by rw [h0]; rfl)
    rw [h0] at X3 G3 ⊢
    clear h1 h0 HL
    go_wp2_with fail
    refine (sameLights_any _ _ _ _ _ _ _ G3.out X3.out).mono ?_
    rintro e w5 ⟨rfl, hq⟩
    rw [dec_of rfl]
    have HK5 := Lib.hid (HK3.out.trans hq.kept (by simp))
    clear hq
    go_wp2_with fail
    refine (alive_any _).mono ?_
    rintro e w6 ⟨rfl, hk⟩
    have HK6 := Lib.hid (HK5.out.trans hk (by simp))
    clear hk
    go_wp2
    go_ret
    exact ⟨rfl, HK6.out⟩
  · have HB := Lib.hid (read_back h1)
    have HC : Hid (Nt.readB nn (tx (s ++ ⟨#[44]⟩)) = false) := Lib.hid (by rw [tx_append]; exact Nt.readB_comma h1 nn)
    have hsz : (s ++ ⟨#[44]⟩).size ≤ 1100000 := by rw [ByteArray.size_append]; show s.size + 1 ≤ _; omega
    clear h1
    go_wp2_with fail
    refine (sameLights_any _ _ _ _ _ _ _ G3.out X3.out).mono ?_
    rintro e w5 ⟨rfl, hq⟩
    rw [dec_of rfl]
    have G5 := Lib.hid (G3.out.stay hq.kept)
    have HK5 := Lib.hid (HK3.out.trans hq.kept (by simp))
    clear hq G3 X3 HK3
    go_wp2_with fail
    refine (iReadScript_any nn _ hsz _ (HE.out.stay HK5.out)).mono ?_
    rintro e w6 ⟨u6, rfl, _, hk⟩
    rw [HC.out]
    have G6 := Lib.hid (G5.out.stay hk)
    have HK6 := Lib.hid (HK5.out.trans hk (by simp))
    clear hk G5 HK5
    go_wp2_with fail
    refine (iScriptText_any nn _ _ _ _ G6.out).mono ?_
    rintro e w7 ⟨z, rfl, hz, hk⟩
    have d1 : (z.toList == s.toList) = true := str_yes (by rw [hz, HB.out.1])
    have G7 := Lib.hid (G6.out.stay hk)
    have HK7 := Lib.hid (HK6.out.trans hk (by simp))
    clear hk G6 HK6 hz
    go_wp2_with fail
    refine (iScriptOk_any nn _ _ _ _ G7.out).mono ?_
    rintro e w8 ⟨rfl, hk⟩
    rw [HB.out.2]
    have HK8 := Lib.hid (HK7.out.trans hk (by simp))
    clear hk G7 HK7
    go_wp2
    go_ret
    exact ⟨rfl, HK8.out⟩
end Go.Proofs.YtilbdpcijdcffaaDoor
