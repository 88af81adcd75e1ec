/-
  The law ScriptOk, walked.
-/
import Derived.Test.YtilbdpcijdcffaaDS
import Derived.Test.YtilbdpcijdcffaaL1
import Derived.Test.YtilbdpcijdcffaaSP3
import Derived.Test.YtilbdpcijdcffaaSP4
import Derived.Test.YtilbdpcijdcffaaSM
import Derived.Test.YtilbdpcijdcffaaLgC
namespace Go.Proofs.Ytilbdpcijdcffaa
open Go.RowKit

set_option maxHeartbeats 4000000 in
set_option maxRecDepth 100000 in
theorem FnScriptOk_calls (w : World) (v : Value) (ha : ArgB w v) :
    Calls Try.prog 3 #[v] w fun e w' => e = .returned (.bool true) ∧ Kept [] w w' := by
  have HA := Lib.hid ha
  obtain ⟨a, len, cap, rfl, hlc, hcm, _⟩ := ha
  by_cases hbig : 1048576 < len
  · have hb : (1048576 : Int) < (len : Int) := by omega
    clear hbig
    go_enter Try.func3, Try.ntmps3
    go_wp2
    go_ret
    exact ⟨rfl, Kept.refl _ _⟩
  have hb : ¬ (1048576 : Int) < (len : Int) := by omega
  clear hbig
  go_enter Try.func3, Try.ntmps3
  go_wp2_with fail
  refine (drawScriptOk_any _ _ HA.out).mono ?_
  rintro e w1 ⟨nn, u, ls, rfl, hx0, hx1, hg, hl6, hk⟩
  have G1 := Lib.hid hg
  have HK := Lib.hid hk
  clear hk
  by_cases hin : 1 ≤ nn ∧ nn ≤ 6
  · by_cases hl0 : ls.length = 0
    · cases h1 : Nt.scB nn ls
      · have HB := Lib.hid h1
        have HE0 : Hid (Nt.scB nn [] = true) := Lib.hid (by
          obtain ⟨k, rfl⟩ := Int.eq_ofNat_of_zero_le hx0
          exact Nt.scB_yes (sc := []) (Nt.SOk.none (by omega) (by omega)))
        have d1 : decide (nn < 1) = false := decide_eq_false (by omega)
        have d2 : decide (6 < nn) = false := decide_eq_false (by omega)
        have hls : ls = [] := List.eq_nil_of_length_eq_zero hl0
        subst hls
        have HLM : Hid (([] : List (Int × Int)).length + ([] : List (Int × Int)).length ≤ 1000000) := Lib.hid (by simp)
        obtain ⟨bG, capG, rfl, _, _, _⟩ := hg.any
        clear hg h1 hb hin hx0 hx1 hl6 hl0
        go_wp2_with fail
        refine (iScriptOk_any _ _ _ _ _ G1.out).mono ?_
        rintro e w2 ⟨rfl, hk⟩
        rw [HB.out]
        have G2 := Lib.hid (G1.out.stay hk)
        have HK2 := Lib.hid (HK.out.trans hk (by simp))
        clear G1 HK
        clear hk
        go_wp2_with fail
        refine (sScriptOk_any _ _ _ _ _ G2.out).mono ?_
        rintro e w3 ⟨rfl, hq⟩
        rw [HB.out]
        have hk := hq.kept
        have G3 := Lib.hid (G2.out.stay hk)
        have HK3 := Lib.hid (HK2.out.trans hk (by simp))
        clear G2 HK2
        clear hk hq
        have hkA : Kept [] w3 (w3.alloc (.cells #[] 35)) := (Kept.refl [] w3).alloc _
        have HZ3 := Lib.hid (Sg.empty w3)
        have HA3 := Lib.hid hkA
        have HY3 := Lib.hid (G3.out.stay hkA)
        clear hkA
        go_wp2_with (at_builtin; refine app_lights rfl _ _ rfl w3.heap.size w3.heap.size 0 [] HZ3.out rfl _ _ _ HY3.out rfl HLM.out (by simp) ?_; intro u4 w4 hs9 hk9; rw [List.nil_append] at hs9; obtain ⟨b4, c4, rfl, _, _, _⟩ := hs9.any; have HS4 := Lib.hid hs9; have hk := HA3.out.trans hk9 (fun x hx => .inr (by simp at hx; omega)); clear hs9 hk9; have G4 := Lib.hid (G3.out.stay hk); have HK4 := Lib.hid (HK3.out.trans hk (by simp)); clear G3 HK3; clear hk HZ3 HA3 HY3)
        have HE := Lib.hid (Sg.empty w4)
        have hk : Kept [] w4 (w4.alloc (.cells #[] 35)) := (Kept.refl [] w4).alloc _
        have G5 := Lib.hid (G4.out.stay hk)
        have L5 := Lib.hid (HS4.out.stay hk)
        have HK5 := Lib.hid (HK4.out.trans hk (by simp))
        clear G4 HS4 HK4
        clear hk
        go_wp2_with fail
        refine (iScriptOk_any _ _ _ _ _ HE.out).mono ?_
        rintro e w6 ⟨rfl, hk⟩
        rw [HE0.out]
        have G6 := Lib.hid (G5.out.stay hk)
        have L6 := Lib.hid (L5.out.stay hk)
        have E6 := Lib.hid (HE.out.stay hk)
        have HK6 := Lib.hid (HK5.out.trans hk (by simp))
        clear G5 L5 HE HK5
        clear hk
        go_wp2_with fail
        refine (alive_any _).mono ?_
        rintro e w7 ⟨rfl, hk⟩
        have G7 := Lib.hid (G6.out.stay hk)
        have L7 := Lib.hid (L6.out.stay hk)
        have E7 := Lib.hid (E6.out.stay hk)
        have HK7 := Lib.hid (HK6.out.trans hk (by simp))
        clear G6 L6 E6 HK6
        clear hk
        go_wp2
        go_ret
        exact ⟨rfl, HK7.out⟩
      · have HB := Lib.hid h1
        have HE0 : Hid (Nt.scB nn [] = true) := Lib.hid (by
          obtain ⟨k, rfl⟩ := Int.eq_ofNat_of_zero_le hx0
          exact Nt.scB_yes (sc := []) (Nt.SOk.none (by omega) (by omega)))
        have HLS : Hid (Nt.scB nn (ls.take (ls.length - 1)) = true) := Lib.hid (by
          obtain ⟨k, sc, rfl, rfl, so⟩ := Nt.scB_ok h1
          have e : (Nt.prs sc).take ((Nt.prs sc).length - 1) = Nt.prs sc.dropLast := by unfold Nt.prs; rw [← List.map_take, List.length_map, List.dropLast_eq_take]
          rw [e]
          exact Nt.scB_yes so.less)
        have d1 : decide (nn < 1) = false := decide_eq_false (by omega)
        have d2 : decide (6 < nn) = false := decide_eq_false (by omega)
        have hls : ls = [] := List.eq_nil_of_length_eq_zero hl0
        subst hls
        have HLM : Hid (([] : List (Int × Int)).length + ([] : List (Int × Int)).length ≤ 1000000) := Lib.hid (by simp)
        obtain ⟨bG, capG, rfl, _, _, _⟩ := hg.any
        clear hg h1 hb hin hx0 hx1 hl6 hl0
        have HLS2 : Hid (Nt.scB nn [] = true) := HE0
        go_wp2_with fail
        refine (iScriptOk_any _ _ _ _ _ G1.out).mono ?_
        rintro e w2 ⟨rfl, hk⟩
        rw [HB.out]
        have G2 := Lib.hid (G1.out.stay hk)
        have HK2 := Lib.hid (HK.out.trans hk (by simp))
        clear G1 HK
        clear hk
        go_wp2_with fail
        refine (sScriptOk_any _ _ _ _ _ G2.out).mono ?_
        rintro e w3 ⟨rfl, hq⟩
        rw [HB.out]
        have hk := hq.kept
        have G3 := Lib.hid (G2.out.stay hk)
        have HK3 := Lib.hid (HK2.out.trans hk (by simp))
        clear G2 HK2
        clear hk hq
        have hkA : Kept [] w3 (w3.alloc (.cells #[] 35)) := (Kept.refl [] w3).alloc _
        have HZ3 := Lib.hid (Sg.empty w3)
        have HA3 := Lib.hid hkA
        have HY3 := Lib.hid (G3.out.stay hkA)
        clear hkA
        go_wp2_with (at_builtin; refine app_lights rfl _ _ rfl w3.heap.size w3.heap.size 0 [] HZ3.out rfl _ _ _ HY3.out rfl HLM.out (by simp) ?_; intro u4 w4 hs9 hk9; rw [List.nil_append] at hs9; obtain ⟨b4, c4, rfl, _, _, _⟩ := hs9.any; have HS4 := Lib.hid hs9; have hk := HA3.out.trans hk9 (fun x hx => .inr (by simp at hx; omega)); clear hs9 hk9; have G4 := Lib.hid (G3.out.stay hk); have HK4 := Lib.hid (HK3.out.trans hk (by simp)); clear G3 HK3; clear hk HZ3 HA3 HY3)
        have HE := Lib.hid (Sg.empty w4)
        have hk : Kept [] w4 (w4.alloc (.cells #[] 35)) := (Kept.refl [] w4).alloc _
        have G5 := Lib.hid (G4.out.stay hk)
        have L5 := Lib.hid (HS4.out.stay hk)
        have HK5 := Lib.hid (HK4.out.trans hk (by simp))
        clear G4 HS4 HK4
        clear hk
        go_wp2_with fail
        refine (iScriptOk_any _ _ _ _ _ HE.out).mono ?_
        rintro e w6 ⟨rfl, hk⟩
        rw [HE0.out]
        have G6 := Lib.hid (G5.out.stay hk)
        have L6 := Lib.hid (L5.out.stay hk)
        have E6 := Lib.hid (HE.out.stay hk)
        have HK6 := Lib.hid (HK5.out.trans hk (by simp))
        clear G5 L5 HE HK5
        clear hk
        go_wp2_with fail
        refine (iScriptOk_any _ _ _ _ _ L6.out).mono ?_
        rintro e w7 ⟨rfl, hk⟩
        rw [HE0.out]
        have G7 := Lib.hid (G6.out.stay hk)
        have L7 := Lib.hid (L6.out.stay hk)
        have E7 := Lib.hid (E6.out.stay hk)
        have HK7 := Lib.hid (HK6.out.trans hk (by simp))
        clear G6 L6 E6 HK6
        clear hk
        go_wp2_with fail
        refine (alive_any _).mono ?_
        rintro e w8 ⟨rfl, hk⟩
        have G8 := Lib.hid (G7.out.stay hk)
        have L8 := Lib.hid (L7.out.stay hk)
        have E8 := Lib.hid (E7.out.stay hk)
        have HK8 := Lib.hid (HK7.out.trans hk (by simp))
        clear G7 L7 E7 HK7
        clear hk
        go_wp2
        go_ret
        exact ⟨rfl, HK8.out⟩
    · cases h1 : Nt.scB nn ls
      · have HB := Lib.hid h1
        have HE0 : Hid (Nt.scB nn [] = true) := Lib.hid (by
          obtain ⟨k, rfl⟩ := Int.eq_ofNat_of_zero_le hx0
          exact Nt.scB_yes (sc := []) (Nt.SOk.none (by omega) (by omega)))
        have d1 : decide (nn < 1) = false := decide_eq_false (by omega)
        have d2 : decide (6 < nn) = false := decide_eq_false (by omega)
        have HLM : Hid (([] : List (Int × Int)).length + ls.length ≤ 1000000) := Lib.hid (by simp; omega)
        obtain ⟨m, hm⟩ : ∃ m, ls.length = m := ⟨_, rfl⟩
        obtain ⟨p, hp⟩ : ∃ p, p = m - 1 := ⟨_, rfl⟩
        obtain ⟨gG, capG, rfl, hcG⟩ : ∃ gG capG, u = .slice (some ⟨gG, 0, none⟩) m capG ∧ m ≤ capG := by
          obtain ⟨a9, c9, rfl, h8, _, h9⟩ := hg.any
          obtain ⟨g9, rfl, _⟩ := h9 0 (by omega)
          exact ⟨g9, c9, by rw [hm], by omega⟩
        have HP := Lib.hid (hg.less p (by omega))
        have d3 : decide ((0 : Int) < (m : Int)) = true := decide_eq_true (by omega)
        have s1 : IntKind.i64.wrap ((m : Int) - 1) = (p : Int) := by rw [IntWalk.i64_in _ (by omega)]; omega
        have hm6 : m ≤ 6 := by omega
        have hm0 : 0 < m := by omega
        have hpm : p ≤ m := by omega
        have HM := Lib.hid hm
        have HLT : Hid ((ls.take p).length = p) := Lib.hid (by rw [List.length_take]; omega)
        have HLM2 : Hid (([] : List (Int × Int)).length + (ls.take p).length ≤ 1000000) := Lib.hid (by rw [HLT.out]; simp; omega)
        clear hg h1 hb hin hx0 hx1 hl6 hl0 hm hp
        go_wp2_with fail
        refine (iScriptOk_any _ _ _ _ _ G1.out).mono ?_
        rintro e w2 ⟨rfl, hk⟩
        rw [HB.out]
        have G2 := Lib.hid (G1.out.stay hk)
        have P2 := Lib.hid (HP.out.stay hk)
        have HK2 := Lib.hid (HK.out.trans hk (by simp))
        clear G1 HP HK
        clear hk
        go_wp2_with fail
        refine (sScriptOk_any _ _ _ _ _ G2.out).mono ?_
        rintro e w3 ⟨rfl, hq⟩
        rw [HB.out]
        have hk := hq.kept
        have G3 := Lib.hid (G2.out.stay hk)
        have P3 := Lib.hid (P2.out.stay hk)
        have HK3 := Lib.hid (HK2.out.trans hk (by simp))
        clear G2 P2 HK2
        clear hk hq
        have hkA : Kept [] w3 (w3.alloc (.cells #[] 35)) := (Kept.refl [] w3).alloc _
        have HZ3 := Lib.hid (Sg.empty w3)
        have HA3 := Lib.hid hkA
        have HY3 := Lib.hid (G3.out.stay hkA)
        clear hkA
        go_wp2_with (at_builtin; first | (refine app_lights rfl _ _ rfl w4.heap.size w4.heap.size 0 [] HZ4.out rfl _ _ _ HY4.out rfl HLM2.out (by simp) ?_; intro u5 w5 hs9 hk9; rw [List.nil_append] at hs9; obtain ⟨b5, c5, rfl, _, _, _⟩ := hs9.any; rw [HLT.out] at hs9 ⊢; have HS5 := Lib.hid hs9; have hk := HA4.out.trans hk9 (fun x hx => .inr (by simp at hx; omega)); clear hs9 hk9; have G5 := Lib.hid (G4.out.stay hk); have P5 := Lib.hid (P4.out.stay hk); have HK5 := Lib.hid (HK4.out.trans hk (by simp)); clear G4 P4 HK4; clear hk HZ4 HA4 HY4) | (refine app_lights rfl _ _ rfl w3.heap.size w3.heap.size 0 [] HZ3.out rfl _ _ _ HY3.out rfl HLM.out (by simp) ?_; intro u4 w4 hs9 hk9; rw [List.nil_append] at hs9; obtain ⟨b4, c4, rfl, _, _, _⟩ := hs9.any; rw [HM.out] at hs9 ⊢; have HS4 := Lib.hid hs9; have hk := HA3.out.trans hk9 (fun x hx => .inr (by simp at hx; omega)); clear hs9 hk9; have G4 := Lib.hid (G3.out.stay hk); have P4 := Lib.hid (P3.out.stay hk); have HK4 := Lib.hid (HK3.out.trans hk (by simp)); clear G3 P3 HK3; clear hk HZ3 HA3 HY3; clear HS4; have hkA : Kept [] w4 (w4.alloc (.cells #[] 35)) := (Kept.refl [] w4).alloc _; have HZ4 := Lib.hid (Sg.empty w4); have HA4 := Lib.hid hkA; have HY4 := Lib.hid (P4.out.stay hkA); clear hkA))
        have HE := Lib.hid (Sg.empty w5)
        have hk : Kept [] w5 (w5.alloc (.cells #[] 35)) := (Kept.refl [] w5).alloc _
        have G6 := Lib.hid (G5.out.stay hk)
        have P6 := Lib.hid (P5.out.stay hk)
        have L6 := Lib.hid (HS5.out.stay hk)
        have HK6 := Lib.hid (HK5.out.trans hk (by simp))
        clear G5 P5 HS5 HK5
        clear hk
        go_wp2_with fail
        refine (iScriptOk_any _ _ _ _ _ HE.out).mono ?_
        rintro e w7 ⟨rfl, hk⟩
        rw [HE0.out]
        have G7 := Lib.hid (G6.out.stay hk)
        have P7 := Lib.hid (P6.out.stay hk)
        have L7 := Lib.hid (L6.out.stay hk)
        have E7 := Lib.hid (HE.out.stay hk)
        have HK7 := Lib.hid (HK6.out.trans hk (by simp))
        clear G6 P6 L6 HE HK6
        clear hk
        go_wp2_with fail
        refine (alive_any _).mono ?_
        rintro e w8 ⟨rfl, hk⟩
        have G8 := Lib.hid (G7.out.stay hk)
        have P8 := Lib.hid (P7.out.stay hk)
        have L8 := Lib.hid (L7.out.stay hk)
        have E8 := Lib.hid (E7.out.stay hk)
        have HK8 := Lib.hid (HK7.out.trans hk (by simp))
        clear G7 P7 L7 E7 HK7
        clear hk
        go_wp2
        go_ret
        exact ⟨rfl, HK8.out⟩
      · have HB := Lib.hid h1
        have HE0 : Hid (Nt.scB nn [] = true) := Lib.hid (by
          obtain ⟨k, rfl⟩ := Int.eq_ofNat_of_zero_le hx0
          exact Nt.scB_yes (sc := []) (Nt.SOk.none (by omega) (by omega)))
        have HLS : Hid (Nt.scB nn (ls.take (ls.length - 1)) = true) := Lib.hid (by
          obtain ⟨k, sc, rfl, rfl, so⟩ := Nt.scB_ok h1
          have e : (Nt.prs sc).take ((Nt.prs sc).length - 1) = Nt.prs sc.dropLast := by unfold Nt.prs; rw [← List.map_take, List.length_map, List.dropLast_eq_take]
          rw [e]
          exact Nt.scB_yes so.less)
        have d1 : decide (nn < 1) = false := decide_eq_false (by omega)
        have d2 : decide (6 < nn) = false := decide_eq_false (by omega)
        have HLM : Hid (([] : List (Int × Int)).length + ls.length ≤ 1000000) := Lib.hid (by simp; omega)
        obtain ⟨m, hm⟩ : ∃ m, ls.length = m := ⟨_, rfl⟩
        obtain ⟨p, hp⟩ : ∃ p, p = m - 1 := ⟨_, rfl⟩
        obtain ⟨gG, capG, rfl, hcG⟩ : ∃ gG capG, u = .slice (some ⟨gG, 0, none⟩) m capG ∧ m ≤ capG := by
          obtain ⟨a9, c9, rfl, h8, _, h9⟩ := hg.any
          obtain ⟨g9, rfl, _⟩ := h9 0 (by omega)
          exact ⟨g9, c9, by rw [hm], by omega⟩
        have HP := Lib.hid (hg.less p (by omega))
        have d3 : decide ((0 : Int) < (m : Int)) = true := decide_eq_true (by omega)
        have s1 : IntKind.i64.wrap ((m : Int) - 1) = (p : Int) := by rw [IntWalk.i64_in _ (by omega)]; omega
        have hm6 : m ≤ 6 := by omega
        have hm0 : 0 < m := by omega
        have hpm : p ≤ m := by omega
        have HM := Lib.hid hm
        rw [hm, ← hp] at HLS
        have HLT : Hid ((ls.take p).length = p) := Lib.hid (by rw [List.length_take]; omega)
        have HLM2 : Hid (([] : List (Int × Int)).length + (ls.take p).length ≤ 1000000) := Lib.hid (by rw [HLT.out]; simp; omega)
        clear hg h1 hb hin hx0 hx1 hl6 hl0 hm hp
        go_wp2_with fail
        refine (iScriptOk_any _ _ _ _ _ G1.out).mono ?_
        rintro e w2 ⟨rfl, hk⟩
        rw [HB.out]
        have G2 := Lib.hid (G1.out.stay hk)
        have P2 := Lib.hid (HP.out.stay hk)
        have HK2 := Lib.hid (HK.out.trans hk (by simp))
        clear G1 HP HK
        clear hk
        go_wp2_with fail
        refine (sScriptOk_any _ _ _ _ _ G2.out).mono ?_
        rintro e w3 ⟨rfl, hq⟩
        rw [HB.out]
        have hk := hq.kept
        have G3 := Lib.hid (G2.out.stay hk)
        have P3 := Lib.hid (P2.out.stay hk)
        have HK3 := Lib.hid (HK2.out.trans hk (by simp))
        clear G2 P2 HK2
        clear hk hq
        have hkA : Kept [] w3 (w3.alloc (.cells #[] 35)) := (Kept.refl [] w3).alloc _
        have HZ3 := Lib.hid (Sg.empty w3)
        have HA3 := Lib.hid hkA
        have HY3 := Lib.hid (G3.out.stay hkA)
        clear hkA
        go_wp2_with (at_builtin; first | (refine app_lights rfl _ _ rfl w4.heap.size w4.heap.size 0 [] HZ4.out rfl _ _ _ HY4.out rfl HLM2.out (by simp) ?_; intro u5 w5 hs9 hk9; rw [List.nil_append] at hs9; obtain ⟨b5, c5, rfl, _, _, _⟩ := hs9.any; rw [HLT.out] at hs9 ⊢; have HS5 := Lib.hid hs9; have hk := HA4.out.trans hk9 (fun x hx => .inr (by simp at hx; omega)); clear hs9 hk9; have G5 := Lib.hid (G4.out.stay hk); have P5 := Lib.hid (P4.out.stay hk); have HK5 := Lib.hid (HK4.out.trans hk (by simp)); clear G4 P4 HK4; clear hk HZ4 HA4 HY4) | (refine app_lights rfl _ _ rfl w3.heap.size w3.heap.size 0 [] HZ3.out rfl _ _ _ HY3.out rfl HLM.out (by simp) ?_; intro u4 w4 hs9 hk9; rw [List.nil_append] at hs9; obtain ⟨b4, c4, rfl, _, _, _⟩ := hs9.any; rw [HM.out] at hs9 ⊢; have HS4 := Lib.hid hs9; have hk := HA3.out.trans hk9 (fun x hx => .inr (by simp at hx; omega)); clear hs9 hk9; have G4 := Lib.hid (G3.out.stay hk); have P4 := Lib.hid (P3.out.stay hk); have HK4 := Lib.hid (HK3.out.trans hk (by simp)); clear G3 P3 HK3; clear hk HZ3 HA3 HY3; clear HS4; have hkA : Kept [] w4 (w4.alloc (.cells #[] 35)) := (Kept.refl [] w4).alloc _; have HZ4 := Lib.hid (Sg.empty w4); have HA4 := Lib.hid hkA; have HY4 := Lib.hid (P4.out.stay hkA); clear hkA))
        have HE := Lib.hid (Sg.empty w5)
        have hk : Kept [] w5 (w5.alloc (.cells #[] 35)) := (Kept.refl [] w5).alloc _
        have G6 := Lib.hid (G5.out.stay hk)
        have P6 := Lib.hid (P5.out.stay hk)
        have L6 := Lib.hid (HS5.out.stay hk)
        have HK6 := Lib.hid (HK5.out.trans hk (by simp))
        clear G5 P5 HS5 HK5
        clear hk
        go_wp2_with fail
        refine (iScriptOk_any _ _ _ _ _ HE.out).mono ?_
        rintro e w7 ⟨rfl, hk⟩
        rw [HE0.out]
        have G7 := Lib.hid (G6.out.stay hk)
        have P7 := Lib.hid (P6.out.stay hk)
        have L7 := Lib.hid (L6.out.stay hk)
        have E7 := Lib.hid (HE.out.stay hk)
        have HK7 := Lib.hid (HK6.out.trans hk (by simp))
        clear G6 P6 L6 HE HK6
        clear hk
        go_wp2_with fail
        refine (iScriptOk_any _ _ _ _ _ L7.out).mono ?_
        rintro e w8 ⟨rfl, hk⟩
        rw [HLS.out]
        have G8 := Lib.hid (G7.out.stay hk)
        have P8 := Lib.hid (P7.out.stay hk)
        have L8 := Lib.hid (L7.out.stay hk)
        have E8 := Lib.hid (E7.out.stay hk)
        have HK8 := Lib.hid (HK7.out.trans hk (by simp))
        clear G7 P7 L7 E7 HK7
        clear hk
        go_wp2_with fail
        refine (alive_any _).mono ?_
        rintro e w9 ⟨rfl, hk⟩
        have G9 := Lib.hid (G8.out.stay hk)
        have P9 := Lib.hid (P8.out.stay hk)
        have L9 := Lib.hid (L8.out.stay hk)
        have E9 := Lib.hid (E8.out.stay hk)
        have HK9 := Lib.hid (HK8.out.trans hk (by simp))
        clear G8 P8 L8 E8 HK8
        clear hk
        go_wp2
        go_ret
        exact ⟨rfl, HK9.out⟩
  · have HB : Hid (Nt.scB nn ls = false) := Lib.hid (Nt.scB_no (fun h => hin h.1))
    obtain ⟨bG, capG, rfl, _, _, _⟩ := hg.any
    clear hg hb
    by_cases ha : nn < 1
    · have d1 : decide (nn < 1) = true := decide_eq_true ha
      clear ha hin hx0 hx1 hl6
      go_wp2_with fail
      refine (iScriptOk_any _ _ _ _ _ G1.out).mono ?_
      rintro e w2 ⟨rfl, hk⟩
      rw [HB.out]
      have G2 := Lib.hid (G1.out.stay hk)
      have HK2 := Lib.hid (HK.out.trans hk (by simp))
      clear G1 HK
      clear hk
      go_wp2_with fail
      refine (sScriptOk_any _ _ _ _ _ G2.out).mono ?_
      rintro e w3 ⟨rfl, hq⟩
      rw [HB.out]
      have hk := hq.kept
      have G3 := Lib.hid (G2.out.stay hk)
      have HK3 := Lib.hid (HK2.out.trans hk (by simp))
      clear G2 HK2
      clear hk hq
      go_wp2_with fail
      refine (alive_any _).mono ?_
      rintro e w4 ⟨rfl, hk⟩
      have G4 := Lib.hid (G3.out.stay hk)
      have HK4 := Lib.hid (HK3.out.trans hk (by simp))
      clear G3 HK3
      clear hk
      go_wp2
      go_ret
      exact ⟨rfl, HK4.out⟩
    · have d1 : decide (nn < 1) = false := decide_eq_false ha
      have d2 : decide (6 < nn) = true := decide_eq_true (by omega)
      clear ha hin hx0 hx1 hl6
      go_wp2_with fail
      refine (iScriptOk_any _ _ _ _ _ G1.out).mono ?_
      rintro e w2 ⟨rfl, hk⟩
      rw [HB.out]
      have G2 := Lib.hid (G1.out.stay hk)
      have HK2 := Lib.hid (HK.out.trans hk (by simp))
      clear G1 HK
      clear hk
      go_wp2_with fail
      refine (sScriptOk_any _ _ _ _ _ G2.out).mono ?_
      rintro e w3 ⟨rfl, hq⟩
      rw [HB.out]
      have hk := hq.kept
      have G3 := Lib.hid (G2.out.stay hk)
      have HK3 := Lib.hid (HK2.out.trans hk (by simp))
      clear G2 HK2
      clear hk hq
      go_wp2_with fail
      refine (alive_any _).mono ?_
      rintro e w4 ⟨rfl, hk⟩
      have G4 := Lib.hid (G3.out.stay hk)
      have HK4 := Lib.hid (HK3.out.trans hk (by simp))
      clear G3 HK3
      clear hk
      go_wp2
      go_ret
      exact ⟨rfl, HK4.out⟩
end Go.Proofs.Ytilbdpcijdcffaa
