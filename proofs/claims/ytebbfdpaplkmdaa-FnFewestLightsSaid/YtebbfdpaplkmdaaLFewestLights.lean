/-
  The law FewestLights, walked.
-/
import Derived.Test.YtebbfdpaplkmdaaD16
import Derived.Test.YtebbfdpaplkmdaaL1
import Derived.Test.YtebbfdpaplkmdaaVM
import Derived.Test.YtebbfdpaplkmdaaVN
import Derived.Test.YtebbfdpaplkmdaaNC
namespace Go.Proofs.Ytebbfdpaplkmdaa
open Go.RowKit

set_option maxHeartbeats 4000000 in
set_option maxRecDepth 100000 in
theorem FnFewestLights_calls (w : World) (v : Value) (ha : ArgB w v) :
    Calls Try.prog 5 #[v] w fun e w' => e = .returned (.bool true) ∧ Kept [] w w' := by
  have HA := Lib.hid ha
  obtain ⟨a, len, cap, rfl, hlc, hcm, _⟩ := ha
  by_cases hbig : 1048576 < len
  · have hb : (1048576 : Int) < (len : Int) := by omega
    clear hbig
    go_enter Try.func5, Try.ntmps5
    go_wp2
    go_ret
    exact ⟨rfl, Kept.refl _ _⟩
  have hb : ¬ (1048576 : Int) < (len : Int) := by omega
  clear hbig
  go_enter Try.func5, Try.ntmps5
  go_wp2_with fail
  refine (drawFewestLights_any _ _ HA.out).mono ?_
  rintro e w1 ⟨u, xs, s0, rfl, hs1, hs2, hs, hl1, hk⟩
  have S1 := Lib.hid hs
  have HK := Lib.hid hk
  clear hk hb
  by_cases ho : Nt.okB xs = true ∧ 0 ≤ s0
  · obtain ⟨ns, rfl, ok⟩ := Nt.okB_ok ho.1
    obtain ⟨t, rfl⟩ := Int.eq_ofNat_of_zero_le ho.2
    obtain ⟨a, b, hl⟩ := Nt.lights_ex ns t
    have HLI : Hid (Nt.LightsIs (Nt.nats ns) (t : Int) (a : Int) (b : Int)) := Lib.hid (.inl ⟨ns, t, a, b, rfl, rfl, ok, hl, rfl, rfl⟩)
    have HL := Lib.hid hl
    obtain ⟨n, hn⟩ : ∃ n, n = ns.length := ⟨_, rfl⟩
    have hp := ok.some
    have h6 := ok.few
    have HOK := Lib.hid ok
    have HN := Lib.hid hn
    have HPO := Lib.hid (Nt.partsOf_ok ok)
    have HPL : Hid ((Nt.parts ns).length = n) := Lib.hid (by rw [Nt.parts_length ok, hn])
    obtain ⟨a0, b0, hl0⟩ := Nt.lights_ex ns 0
    obtain ⟨a1, b1, hl1'⟩ := Nt.lights_ex ns n
    obtain ⟨a2, b2, hl2'⟩ := Nt.lights_ex ns (t + 1)
    have HI0 : Hid (Nt.LightsIs (Nt.nats ns) 0 (a0 : Int) (b0 : Int)) := Lib.hid (.inl ⟨ns, 0, a0, b0, rfl, rfl, ok, hl0, rfl, rfl⟩)
    have HI1 : Hid (Nt.LightsIs (Nt.nats ns) (n : Int) (a1 : Int) (b1 : Int)) := Lib.hid (.inl ⟨ns, n, a1, b1, rfl, rfl, ok, hl1', rfl, rfl⟩)
    have HI2 : Hid (Nt.LightsIs (Nt.nats ns) ((t : Int) + 1) (a2 : Int) (b2 : Int)) := Lib.hid (.inl ⟨ns, t + 1, a2, b2, rfl, by omega, ok, hl2', rfl, rfl⟩)
    have e0 : b0 = n := by rw [hn]; exact Nt.fewest_none hl0.few
    have e1 : b1 = Nt.reps (Nt.parts ns) := Nt.fewest_parts ok (by omega) hl1'.few
    have e2 : b2 ≤ b := hl.few.more hl2'.few
    have e3 : Nt.reps (Nt.parts ns) ≤ b := Nt.fewest_ge ok hl.few
    have e4 : b ≤ 6 := Nat.le_trans hl.few.le_all ok.few
    have HRE : Hid (Nt.reps (Nt.parts ns) = Nt.sumTo (fun i => if (Nt.parts ns).getD i 0 = i then 1 else 0) n) := Lib.hid (by unfold Nt.reps; rw [Nt.parts_length ok, hn])
    have HRS : Hid (∀ k, Nt.sumTo (fun i => if (Nt.parts ns).getD i 0 = i then 1 else 0) (k + 1) = Nt.sumTo (fun i => if (Nt.parts ns).getD i 0 = i then 1 else 0) k + if (Nt.parts ns).getD k 0 = k then 1 else 0) := Lib.hid (fun _ => rfl)
    have HRL : Hid (∀ k, Nt.sumTo (fun i => if (Nt.parts ns).getD i 0 = i then 1 else 0) k ≤ k) := Lib.hid (fun k => by
      have h := Nt.sumTo_le (f := fun i => if (Nt.parts ns).getD i 0 = i then 1 else 0) (c := 1) k (fun i _ => by split <;> omega)
      omega)
    clear hl0 hl1' hl2'
    rw [← hn] at hp h6
    have hne0 : ((n : Int) == 0) = false := beq_eq_false_iff_ne.2 (by omega)
    obtain ⟨gS, capS, rfl, _, _⟩ := hs.row hn.symm hp
    clear hs ok hn ho hl1 hl hs1
    go_wp2_with fail
    refine (iFewest_any _ _ HLI.out _ _ _ S1.out).mono ?_
    rintro e w2 ⟨rfl, hk⟩
    have S2 := Lib.hid (S1.out.stay hk)
    have HK2 := Lib.hid (HK.out.trans hk (by simp))
    clear S1 HK
    clear hk
    go_wp2_with fail
    refine (sFewest_any _ _ HLI.out _ _ _ S2.out).mono ?_
    rintro e w3 ⟨rfl, hk⟩
    have S3 := Lib.hid (S2.out.stay hk)
    have HK3 := Lib.hid (HK2.out.trans hk (by simp))
    clear S2 HK2
    clear hk
    go_wp2_with fail
    refine (iParts_any _ _ _ _ S3.out).mono ?_
    rintro e w4 ⟨u4, rfl, hs, hk⟩
    rw [HPO.out] at hs
    have P4 := Lib.hid hs
    obtain ⟨gP, capP, rfl, hgP, hcP⟩ := hs.row HPL.out hp
    have CP4 := Lib.hid hcP
    have lP4 := Lib.hid hgP
    clear hgP hcP
    have S4 := Lib.hid (S3.out.stay hk)
    have HK4 := Lib.hid (HK3.out.trans hk (by simp))
    clear S3 HK3
    clear hs hk
    go_wp2_with fail
    go_loop [7, 8] (fun m i => ∃ k : Nat, k ≤ n ∧ i = .int .i64 k ∧ m = .int .i64 ((Nt.sumTo (fun i => if (Nt.parts ns).getD i 0 = i then 1 else 0) k : Nat) : Int)) (fun _ i => n - (intOf i).toNat)
    case atStart => exact ⟨0, Nat.zero_le _, rfl, rfl⟩
    case round =>
      obtain ⟨k, hk, rfl, rfl⟩ := hrel
      by_cases hlt : k < n
      · have hcell := CP4.out k hlt
        have HS0 := Lib.hid (HRS.out k)
        have hrl := HRL.out k
        generalize (Nt.parts ns).getD k 0 = p at *
        generalize Nt.sumTo (fun i => if (Nt.parts ns).getD i 0 = i then 1 else 0) k = m at *
        by_cases hpk : p = k
        · have d1 : ((p : Int) == (k : Int)) = true := by simp [hpk]
          have HPK := Lib.hid hpk
          clear hpk
          go_wp2
          go_round
          case rel => exact ⟨k + 1, by omega, by go_num, by rw [HS0.out, if_pos HPK.out]; go_num⟩
          case measure => simp [intOf]; omega
        · have d1 : ((p : Int) == (k : Int)) = false := by simp; omega
          have HPK := Lib.hid hpk
          clear hpk
          go_wp2
          go_round
          case rel => exact ⟨k + 1, by omega, by go_num, by rw [HS0.out, if_neg HPK.out]; rfl⟩
          case measure => simp [intOf]; omega
      · have hk' : k = n := by omega
        subst hk'
        rw [← HRE.out]
        generalize Nt.reps (Nt.parts ns) = rp at *
        have d0 : ((b0 : Int) == (k : Int)) = true := by simp [e0]
        have d1 : ((b1 : Int) == (rp : Int)) = true := by simp [e1]
        clear e0 e1 hlt hk
        clear P4
        go_wp2_with fail
        refine (iFewest_any _ _ HI0.out _ _ _ S4.out).mono ?_
        rintro e w5 ⟨rfl, hk⟩
        have S5 := Lib.hid (S4.out.stay hk)
        have HK5 := Lib.hid (HK4.out.trans hk (by simp))
        clear S4 HK4
        clear hk
        go_wp2_with fail
        refine (iFewest_any _ _ HI1.out _ _ _ S5.out).mono ?_
        rintro e w6 ⟨rfl, hk⟩
        have S6 := Lib.hid (S5.out.stay hk)
        have HK6 := Lib.hid (HK5.out.trans hk (by simp))
        clear S5 HK5
        clear hk
        go_wp2_with fail
        refine (iFewest_any _ _ HI2.out _ _ _ S6.out).mono ?_
        rintro e w7 ⟨rfl, hk⟩
        have S7 := Lib.hid (S6.out.stay hk)
        have HK7 := Lib.hid (HK6.out.trans hk (by simp))
        clear S6 HK6
        clear hk
        go_wp2
        go_ret
        exact ⟨by simp, HK7.out⟩
  · have HLI : Hid (Nt.LightsIs xs s0 (-1) (-1)) := Lib.hid (.inr ⟨ho, rfl, rfl⟩)
    obtain ⟨bS, capS, rfl, _, _, _⟩ := hs.any
    clear hs ho hl1 hs1 hs2
    go_wp2_with fail
    refine (iFewest_any _ _ HLI.out _ _ _ S1.out).mono ?_
    rintro e w2 ⟨rfl, hk⟩
    have S2 := Lib.hid (S1.out.stay hk)
    have HK2 := Lib.hid (HK.out.trans hk (by simp))
    clear S1 HK
    clear hk
    go_wp2_with fail
    refine (sFewest_any _ _ HLI.out _ _ _ S2.out).mono ?_
    rintro e w3 ⟨rfl, hk⟩
    have S3 := Lib.hid (S2.out.stay hk)
    have HK3 := Lib.hid (HK2.out.trans hk (by simp))
    clear S2 HK2
    clear hk
    go_wp2_with fail
    refine (alive_any _).mono ?_
    rintro e w4 ⟨rfl, hk⟩
    have S4 := Lib.hid (S3.out.stay hk)
    have HK4 := Lib.hid (HK3.out.trans hk (by simp))
    clear S3 HK3
    clear hk
    go_wp2
    go_ret
    exact ⟨rfl, HK4.out⟩
end Go.Proofs.Ytebbfdpaplkmdaa
