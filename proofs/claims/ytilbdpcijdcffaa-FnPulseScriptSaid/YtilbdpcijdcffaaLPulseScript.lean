/-
  The law PulseScript, walked.
-/
import Derived.Test.YtilbdpcijdcffaaDS
import Derived.Test.YtilbdpcijdcffaaL1
import Derived.Test.YtilbdpcijdcffaaSP3
import Derived.Test.YtilbdpcijdcffaaSP4
import Derived.Test.YtilbdpcijdcffaaSM
import Derived.Test.YtilbdpcijdcffaaL2
import Derived.Test.YtilbdpcijdcffaaFB
import Derived.Test.YtilbdpcijdcffaaNB
namespace Go.Proofs.Ytilbdpcijdcffaa
open Go.RowKit

theorem ArgB.stay {w w' : World} {v : Value} (h : ArgB w v) (k : Kept [] w w') : ArgB w' v := by
  obtain ⟨a, n, cap, e, h1, h2, h3⟩ := h
  refine ⟨a, n, cap, e, h1, h2, fun i hi => ?_⟩
  obtain ⟨b, off, u, ha, hb, hu, hc⟩ := h3 i hi
  exact ⟨b, off, u, ha, Nat.lt_of_lt_of_le hb k.size, hu, (k.cell (p := ⟨b, off + i, none⟩) hb (by simp)).trans hc⟩

set_option maxHeartbeats 4000000 in
set_option maxRecDepth 100000 in
theorem FnPulseScript_calls (w : World) (v v' : Value) (ha : ArgB w v) (ha' : ArgB w v') :
    Calls Try.prog 6 #[v, v'] w fun e w' => e = .returned (.bool true) ∧ Kept [] w w' := by
  have HA := Lib.hid ha
  have HA' := Lib.hid ha'
  obtain ⟨a, len, cap, rfl, hlc, hcm, _⟩ := ha
  obtain ⟨a', len', cap', rfl, hlc', hcm', _⟩ := ha'
  by_cases hbig : 1048576 < len
  · have hb : (1048576 : Int) < (len : Int) := by omega
    clear hbig
    go_enter Try.func6, Try.ntmps6
    go_wp2
    go_ret
    exact ⟨rfl, Kept.refl _ _⟩
  have hb : ¬ (1048576 : Int) < (len : Int) := by omega
  clear hbig
  by_cases hbig : 1048576 < len'
  · have hb' : (1048576 : Int) < (len' : Int) := by omega
    clear hbig
    go_enter Try.func6, Try.ntmps6
    go_wp2
    go_ret
    exact ⟨rfl, Kept.refl _ _⟩
  have hb' : ¬ (1048576 : Int) < (len' : Int) := by omega
  clear hbig
  go_enter Try.func6, Try.ntmps6
  go_wp2_with fail
  refine (drawPulseScript_any _ _ HA.out).mono ?_
  rintro e w1 ⟨x, y, z, rfl, hk⟩
  skip
  have HK := Lib.hid hk
  clear hk
  by_cases h1 : Nt.pulOf x y z = []
  · have HF := Lib.hid h1
    clear h1 hb hb'
    go_wp2_with fail
    refine (iPulse_any _ _ _ _).mono ?_
    rintro e w2 ⟨u2, rfl, hs, hk⟩
    rw [HF.out] at hs
    have R2 := Lib.hid hs
    obtain ⟨bR, capR, rfl, _, _, _⟩ := hs.any
    have HK2 := Lib.hid (HK.out.trans hk (by simp))
    clear HK
    clear hs hk
    go_wp2_with fail
    refine (sPulse_any _ _ _ _).mono ?_
    rintro e w3 ⟨u3, rfl, hs, hk⟩
    rw [HF.out] at hs
    have Y3 := Lib.hid hs
    obtain ⟨bY, capY, rfl, _, _, _⟩ := hs.any
    have R3 := Lib.hid (R2.out.stay hk)
    have HK3 := Lib.hid (HK2.out.trans hk (by simp))
    clear R2 HK2
    clear hs hk
    go_wp2_with fail
    refine (sameLights_any _ _ _ _ _ _ _ R3.out Y3.out).mono ?_
    rintro e w4 ⟨rfl, hq⟩
    rw [dec_of rfl]
    have hk := hq.kept
    have R4 := Lib.hid (R3.out.stay hk)
    have Y4 := Lib.hid (Y3.out.stay hk)
    have HK4 := Lib.hid (HK3.out.trans hk (by simp))
    clear R3 Y3 HK3
    clear hk hq
    clear Y4
    go_wp2_with fail
    refine (alive_any _).mono ?_
    rintro e w5 ⟨rfl, hk⟩
    have R5 := Lib.hid (R4.out.stay hk)
    have HK5 := Lib.hid (HK4.out.trans hk (by simp))
    clear R4 HK4
    clear hk
    go_wp2
    go_ret
    exact ⟨rfl, HK5.out⟩
  · have hpb : Nt.pulB x y z = true := by
      cases h : Nt.pulB x y z
      · exact absurd (Nt.pulOf_no h) h1
      · rfl
    obtain ⟨a, e, m, rfl, rfl, rfl, ha5, he1, he60, hm8, hti⟩ := Nt.pulB_ok hpb
    obtain ⟨ls, hls⟩ : ∃ ls, ls = Nt.prs (Nt.pulseS a e m) := ⟨_, rfl⟩
    have HF : Hid (Nt.pulOf (a : Int) (e : Int) (m : Int) = ls) := Lib.hid (by rw [hls]; exact Nt.pulOf_ok hpb)
    have hlm : ls.length = m := by rw [hls, Nt.prs_length, Nt.pulseS_length]
    have HPL := Lib.hid hlm
    have hm1 : 1 ≤ m := by
      have h2 := HF.out
      rcases Nat.eq_zero_or_pos m with h | h
      · exact absurd (by rw [h2]; exact List.eq_nil_of_length_eq_zero (by omega)) h1
      · exact h
    have HSO : Hid (∀ n : Nat, 1 ≤ n → n ≤ 6 → a < n → Nt.SOk n (Nt.pulseS a e m)) := Lib.hid (fun n h1 h6 hn => Nt.pulseS_ok he1 h1 h6 hn hm8 hti)
    have HOK : Hid (Nt.scB 6 ls = true) := Lib.hid (by rw [hls]; exact Nt.scB_yes (m := 6) (HSO.out 6 (by omega) (by omega) (by omega)))
    have HLS := Lib.hid hls
    obtain ⟨p, hp⟩ : ∃ p, p = m - 1 := ⟨_, rfl⟩
    obtain ⟨E, hE⟩ : ∃ E, E = e * p := ⟨_, rfl⟩
    have hE480 : E ≤ 480 := by rw [hE]; exact Nat.mul_le_mul he60 (show p ≤ 8 by omega)
    have HE := Lib.hid hE
    have hep : (e : Int) * (p : Int) = (E : Int) := by rw [hE]; exact (Int.natCast_mul e p).symm
    have HS1 : Hid (IntKind.i64.wrap ((m : Int) - 1) = (p : Int)) := Lib.hid (by rw [IntWalk.i64_in _ (by omega)]; omega)
    have HS2 : Hid (IntKind.i64.wrap ((e : Int) * (p : Int)) = (E : Int)) := Lib.hid (by rw [hep, IntWalk.i64_in _ (by omega)])
    have HS4 : Hid (wrap64 ((e : Int) * (p : Int)) = (E : Int)) := Lib.hid (by rw [hep, IntWalk.wrap64_in _ (by omega)])
    have HPM := Lib.hid hp
    have hm0 : ((m : Int) == 0) = false := beq_eq_false_iff_ne.2 (by omega)
    have hmm : ((m : Int) != (m : Int)) = false := by simp
    clear h1 hb hb' hpb hti hls hlm hE hep hp
    go_wp2_with fail
    refine (iPulse_any _ _ _ _).mono ?_
    rintro e w2 ⟨u2, rfl, hs, hk⟩
    rw [HF.out] at hs
    have R2 := Lib.hid hs
    obtain ⟨bR, capR, rfl, _, _, _⟩ := hs.any
    have HK2 := Lib.hid (HK.out.trans hk (by simp))
    clear HK
    clear hs hk
    rw [HPL.out] at R2 ⊢
    go_wp2_with fail
    refine (sPulse_any _ _ _ _).mono ?_
    rintro e w3 ⟨u3, rfl, hs, hk⟩
    rw [HF.out] at hs
    have Y3 := Lib.hid hs
    obtain ⟨bY, capY, rfl, _, _, _⟩ := hs.any
    have R3 := Lib.hid (R2.out.stay hk)
    have HK3 := Lib.hid (HK2.out.trans hk (by simp))
    clear R2 HK2
    clear hs hk
    go_wp2_with fail
    refine (sameLights_any _ _ _ _ _ _ _ R3.out Y3.out).mono ?_
    rintro e w4 ⟨rfl, hq⟩
    rw [dec_of rfl]
    have hk := hq.kept
    have R4 := Lib.hid (R3.out.stay hk)
    have Y4 := Lib.hid (Y3.out.stay hk)
    have HK4 := Lib.hid (HK3.out.trans hk (by simp))
    clear R3 Y3 HK3
    clear hk hq
    clear Y4
    go_wp2_with fail
    refine (drawFireStep_any _ _ (HA'.out.stay HK4.out)).mono ?_
    rintro e w5 ⟨ud, xs, vd, ys, c0, rfl, hc3, hc5, hs, _, hx6, _, hk⟩
    have S5 := Lib.hid hs
    have R5 := Lib.hid (R4.out.stay hk)
    have HK5 := Lib.hid (HK4.out.trans hk (by simp))
    clear R4 HK4
    clear hk
    by_cases hno : Nt.okB xs = true
    · have HNO := Lib.hid hno
      obtain ⟨ns, rfl, ok⟩ := Nt.okB_ok hno
      obtain ⟨c, rfl⟩ := Int.eq_ofNat_of_zero_le (show 0 ≤ c0 by omega)
      obtain ⟨n, hnn⟩ : ∃ n, n = ns.length := ⟨_, rfl⟩
      have hp0 : 0 < n := by have := ok.some; omega
      have h6n : n ≤ 6 := by have := ok.few; omega
      obtain ⟨gS, capS, rfl, _, _⟩ := hs.row (n := n) hnn.symm hp0
      have HS3 : Hid (IntKind.i64.wrap ((E : Int) + (n : Int)) = (E : Int) + (n : Int)) := Lib.hid (IntWalk.i64_in _ (by omega))
      have HS5 : Hid (wrap64 ((E : Int) + (n : Int)) = (E : Int) + (n : Int)) := Lib.hid (IntWalk.wrap64_in _ (by omega))
      have HN := Lib.hid hnn
      have HOKN := Lib.hid ok
      have hc3n : 3 ≤ c := by omega
      have hc5n : c ≤ 5 := by omega
      clear hs hno hnn ok
      by_cases h2 : a < n
      · by_cases h3 : c ≤ e
        · by_cases h4 : E + n ≤ 60
          · have h4' : ¬ 60 < E + n := by omega
            have h2' : ¬ n ≤ a := by omega
            have h3' : ¬ e < c := by omega
            have d1 : decide ((n : Int) ≤ (a : Int)) = false := decide_eq_false (by omega)
            have d2 : decide ((e : Int) < (c : Int)) = false := decide_eq_false (by omega)
            have d3 : decide ((60 : Int) < (E : Int) + (n : Int)) = false := decide_eq_false (by omega)
            have HRZ : Hid (List.replicate n (0 : Int) = Nt.nats (Nt.rest n)) := Lib.hid (by unfold Nt.nats Nt.rest; rw [List.map_replicate]; rfl)
            have HSF : Hid (Nt.sfiredOf (Nt.nats ns) (c : Int) (Nt.nats (Nt.rest n)) ls 60 = Nt.nats (Nt.firedSL ns c (Nt.rest n) (Nt.pulseS a e m) 60)) := Lib.hid (by
              rw [HLS.out, HN.out]
              exact Nt.sfiredOf_ok (t := 60) HOKN.out (Nt.rest_st hc3n hc5n HOKN.out.some HOKN.out.few) (Nt.rest_length _) (HSO.out _ HOKN.out.some HOKN.out.few (by rw [← HN.out]; exact h2)) (by omega))
            have HRL : Hid ((Nt.firedSL ns c (Nt.rest n) (Nt.pulseS a e m) 60).length = n) := Lib.hid (by rw [Nt.firedSL_length, HN.out])
            have HFF : Hid (Nt.farOf (Nt.nats ns) ((2 : Int) ^ a) = Nt.far ns (2 ^ a)) := Lib.hid (by
              have e : ((2 ^ a : Nat) : Int) = (2 : Int) ^ a := Int.natCast_pow 2 a
              rw [← e]
              exact Nt.farOf_ok HOKN.out (Nat.pow_lt_pow_right (by omega) (by rw [← HN.out]; exact h2)))
            have HALL : Hid (∀ k, k < n → (Nt.firedSL ns c (Nt.rest n) (Nt.pulseS a e m) 60).getD k 0 = if 0 ≤ Nt.dist ns (2 ^ a) 64 k then m else 0) := Lib.hid (fun k hk => by
              rw [Nt.firedSL_get _ _ _ _ _ (by rw [← HN.out]; exact hk), HN.out]
              exact Nt.pulse_all HOKN.out hc3n h3 hm1 (by rw [← HN.out]; exact h2) (by rw [← HN.out, ← HPM.out, ← HE.out]; omega) (by rw [← HN.out]; exact hk))
            have EP : Hid (wrap64 (2 ^ a) = ((2 ^ a : Nat) : Int)) := Lib.hid (by
              have h := wrap_pow a (by omega) (by omega)
              rw [Int.toNat_natCast] at h
              rw [h]; exact (Int.natCast_pow 2 a).symm)
            have hnn' : ((n : Int) != (n : Int)) = false := by simp
            go_wp2_with fail
            refine (iScriptOk_any _ _ _ _ _ R5.out).mono ?_
            rintro e w6 ⟨rfl, hk⟩
            rw [HOK.out]
            have R6 := Lib.hid (R5.out.stay hk)
            have S6 := Lib.hid (S5.out.stay hk)
            have HK6 := Lib.hid (HK5.out.trans hk (by simp))
            clear R5 S5 HK5
            clear hk
            have s1 := HS1.out
            have s2 := HS2.out
            have s3 := HS3.out
            have s4 := HS4.out
            have s5 := HS5.out
            go_wp2_with fail
            refine (sNetOk_any _ _ _ _ S6.out).mono ?_
            rintro e w7 ⟨rfl, hq⟩
            rw [HNO.out]
            have hk := hq.kept
            have R7 := Lib.hid (R6.out.stay hk)
            have S7 := Lib.hid (S6.out.stay hk)
            have HK7 := Lib.hid (HK6.out.trans hk (by simp))
            clear R6 S6 HK6
            clear hk hq
            go_wp2_with (at_make; refine make_int _ n rfl _ _ rfl rfl rfl ?_ ?_)
            · exact Nat.le_trans h6n (by decide)
            · intro w8 hs hk _
              rw [HRZ.out] at hs
              clear s1 s2 s3 s4 s5 d3 h4' h4
              have Z8 := Lib.hid hs
              have R8 := Lib.hid (R7.out.stay hk)
              have S8 := Lib.hid (S7.out.stay hk)
              have HK8 := Lib.hid (HK7.out.trans hk (by simp))
              clear R7 S7 HK7
              clear hs hk
              go_wp2_with fail
              refine (iScriptFired_any _ _ _ _ _ _ _ _ _ _ _ _ S8.out Z8.out R8.out).mono ?_
              rintro e w9 ⟨u9, rfl, hs, hk⟩
              have hp := hp0
              rw [HSF.out] at hs
              have F9 := Lib.hid hs
              obtain ⟨gF, capF, rfl, hgF, hcF⟩ := hs.row HRL.out hp
              have CF9 := Lib.hid hcF
              have lF9 := Lib.hid hgF
              clear hgF hcF
              have R9 := Lib.hid (R8.out.stay hk)
              have S9 := Lib.hid (S8.out.stay hk)
              have Z9 := Lib.hid (Z8.out.stay hk)
              have HK9 := Lib.hid (HK8.out.trans hk (by simp))
              clear R8 S8 Z8 HK8
              clear hs hk
              have ep := EP.out
              go_wp2_with fail
              refine (iFar_any _ _ _ _ _ S9.out).mono ?_
              rintro e w10 ⟨u10, rfl, hs, hk⟩
              rw [HFF.out] at hs
              have D10 := Lib.hid hs
              obtain ⟨gD, capD, rfl, _, hgD⟩ := hs.shape (n := n) (by rw [Nt.far_length]; exact HN.out.symm) hp
              have CD10 := Lib.hid (fun j (hj : j < n) => ((hs.at j (by rw [Nt.far_length, ← HN.out]; exact hj)).1).trans (by rw [Nt.far_get _ _ (by rw [← HN.out]; exact hj)]))
              have lD10 := Lib.hid hgD
              clear hgD
              have R10 := Lib.hid (R9.out.stay hk)
              have S10 := Lib.hid (S9.out.stay hk)
              have Z10 := Lib.hid (Z9.out.stay hk)
              have F10 := Lib.hid (F9.out.stay hk)
              have CF10 := Lib.hid (fun j (hj : j < n) => (hk.cell (p := ⟨gF, j, none⟩) lF9.out (by simp)).trans (CF9.out j hj))
              have lF10 := Lib.hid (Nat.lt_of_lt_of_le lF9.out hk.size)
              have HK10 := Lib.hid (HK9.out.trans hk (by simp))
              clear R9 S9 Z9 F9 CF9 lF9 HK9
              clear hs hk
              go_wp2_with fail
              clear ep
              go_loop [14] (fun i => ∃ k : Nat, k ≤ n ∧ i = .int .i64 k) (fun i => n - (intOf i).toNat)
              case atStart => exact ⟨0, Nat.zero_le _, rfl⟩
              case round =>
                obtain ⟨k, hk, rfl⟩ := hrel
                by_cases hlt : k < n
                · have kF := CF10.out k hlt
                  have kD := CD10.out k hlt
                  have hall := HALL.out k hlt
                  generalize (Nt.firedSL ns c (Nt.rest n) (Nt.pulseS a e m) 60).getD k 0 = r at *
                  generalize Nt.dist ns (2 ^ a) 64 k = d at *
                  by_cases hd : 0 ≤ d
                  · rw [if_pos hd] at hall
                    subst hall
                    go_wp2
                    go_round
                    case rel => exact ⟨k + 1, by omega, by go_num⟩
                    case measure => simp [intOf]; omega
                  · rw [if_neg hd] at hall
                    subst hall
                    go_wp2
                    go_round
                    case rel => exact ⟨k + 1, by omega, by go_num⟩
                    case measure => simp [intOf]; omega
                · have hk' : n = k := by omega
                  subst hk'
                  clear hlt hk
                  go_wp2
                  go_ret
                  exact ⟨rfl, HK10.out⟩
          · have h2' : ¬ n ≤ a := by omega
            have d1 : decide ((n : Int) ≤ (a : Int)) = false := decide_eq_false (by omega)
            have h3' : ¬ e < c := by omega
            have d2 : decide ((e : Int) < (c : Int)) = false := decide_eq_false (by omega)
            have h4' : 60 < E + n := by omega
            have h4'' : (60 : Int) < (E : Int) + (n : Int) := by omega
            have d3 : decide ((60 : Int) < (E : Int) + (n : Int)) = true := decide_eq_true (by omega)
            go_wp2_with fail
            refine (iScriptOk_any _ _ _ _ _ R5.out).mono ?_
            rintro e w6 ⟨rfl, hk⟩
            rw [HOK.out]
            have R6 := Lib.hid (R5.out.stay hk)
            have S6 := Lib.hid (S5.out.stay hk)
            have HK6 := Lib.hid (HK5.out.trans hk (by simp))
            clear R5 S5 HK5
            clear hk
            have s1 := HS1.out
            have s2 := HS2.out
            have s3 := HS3.out
            have s4 := HS4.out
            have s5 := HS5.out
            go_wp2_with fail
            refine (sNetOk_any _ _ _ _ S6.out).mono ?_
            rintro e w7 ⟨rfl, hq⟩
            rw [HNO.out]
            have hk := hq.kept
            have R7 := Lib.hid (R6.out.stay hk)
            have S7 := Lib.hid (S6.out.stay hk)
            have HK7 := Lib.hid (HK6.out.trans hk (by simp))
            clear R6 S6 HK6
            clear hk hq
            go_wp2
            go_ret
            exact ⟨rfl, HK7.out⟩
        · have h2' : ¬ n ≤ a := by omega
          have d1 : decide ((n : Int) ≤ (a : Int)) = false := decide_eq_false (by omega)
          have h3' : e < c := by omega
          have d2 : decide ((e : Int) < (c : Int)) = true := decide_eq_true (by omega)
          go_wp2_with fail
          refine (iScriptOk_any _ _ _ _ _ R5.out).mono ?_
          rintro e w6 ⟨rfl, hk⟩
          rw [HOK.out]
          have R6 := Lib.hid (R5.out.stay hk)
          have S6 := Lib.hid (S5.out.stay hk)
          have HK6 := Lib.hid (HK5.out.trans hk (by simp))
          clear R5 S5 HK5
          clear hk
          have s1 := HS1.out
          have s2 := HS2.out
          have s3 := HS3.out
          have s4 := HS4.out
          have s5 := HS5.out
          go_wp2_with fail
          refine (sNetOk_any _ _ _ _ S6.out).mono ?_
          rintro e w7 ⟨rfl, hq⟩
          rw [HNO.out]
          have hk := hq.kept
          have R7 := Lib.hid (R6.out.stay hk)
          have S7 := Lib.hid (S6.out.stay hk)
          have HK7 := Lib.hid (HK6.out.trans hk (by simp))
          clear R6 S6 HK6
          clear hk hq
          go_wp2
          go_ret
          exact ⟨rfl, HK7.out⟩
      · have h2' : n ≤ a := by omega
        have d1 : decide ((n : Int) ≤ (a : Int)) = true := decide_eq_true (by omega)
        go_wp2_with fail
        refine (iScriptOk_any _ _ _ _ _ R5.out).mono ?_
        rintro e w6 ⟨rfl, hk⟩
        rw [HOK.out]
        have R6 := Lib.hid (R5.out.stay hk)
        have S6 := Lib.hid (S5.out.stay hk)
        have HK6 := Lib.hid (HK5.out.trans hk (by simp))
        clear R5 S5 HK5
        clear hk
        have s1 := HS1.out
        have s2 := HS2.out
        have s3 := HS3.out
        have s4 := HS4.out
        have s5 := HS5.out
        go_wp2_with fail
        refine (sNetOk_any _ _ _ _ S6.out).mono ?_
        rintro e w7 ⟨rfl, hq⟩
        rw [HNO.out]
        have hk := hq.kept
        have R7 := Lib.hid (R6.out.stay hk)
        have S7 := Lib.hid (S6.out.stay hk)
        have HK7 := Lib.hid (HK6.out.trans hk (by simp))
        clear R6 S6 HK6
        clear hk hq
        go_wp2
        go_ret
        exact ⟨rfl, HK7.out⟩
    · have HNO : Hid (Nt.okB xs = false) := Lib.hid (by simpa using hno)
      obtain ⟨bS, capS, rfl, _, _, _⟩ := hs.any
      clear hs hno
      go_wp2_with fail
      refine (iScriptOk_any _ _ _ _ _ R5.out).mono ?_
      rintro e w6 ⟨rfl, hk⟩
      rw [HOK.out]
      have R6 := Lib.hid (R5.out.stay hk)
      have S6 := Lib.hid (S5.out.stay hk)
      have HK6 := Lib.hid (HK5.out.trans hk (by simp))
      clear R5 S5 HK5
      clear hk
      go_wp2_with fail
      refine (sNetOk_any _ _ _ _ S6.out).mono ?_
      rintro e w7 ⟨rfl, hq⟩
      rw [HNO.out]
      have hk := hq.kept
      have R7 := Lib.hid (R6.out.stay hk)
      have S7 := Lib.hid (S6.out.stay hk)
      have HK7 := Lib.hid (HK6.out.trans hk (by simp))
      clear R6 S6 HK6
      clear hk hq
      go_wp2
      go_ret
      exact ⟨rfl, HK7.out⟩
end Go.Proofs.Ytilbdpcijdcffaa
