/-
  The law FlatCount, walked.
-/
import Derived.Test.YtlcbpnbehbgbeaaL11
namespace Go.Proofs.Ytlcbpnbehbgbeaa
open Go.RowKit

set_option maxHeartbeats 4000000 in
set_option maxRecDepth 100000 in
theorem FnFlatCount_calls (w : World) (v : Value) (ha : ArgB w v) :
    Calls Try.prog 7 #[v] w fun e w' => e = .returned (.bool true) ∧ Kept [] w w' := by
  have HA := Lib.hid ha
  obtain ⟨a, len, cap, rfl, hlc, hcm, _⟩ := ha
  by_cases hbig : 1048576 < len
  · have hb : (1048576 : Int) < (len : Int) := by omega
    clear hbig
    go_enter Try.func7, Try.ntmps7
    go_wp2
    go_ret
    exact ⟨rfl, Kept.refl _ _⟩
  have hb : ¬ (1048576 : Int) < (len : Int) := by omega
  clear hbig
  go_enter Try.func7, Try.ntmps7
  go_wp2_with fail
  refine (drawFlatCount_any _ _ HA.out).mono ?_
  rintro e w1 ⟨u, xs, rfl, hs, hk⟩
  have HK1 := Lib.hid hk
  clear hk hb
  cases hcc : Nt.ccB xs 3
  · have HE := Lib.hid (Nt.flOf_no hcc)
    obtain ⟨b1, cap1, rfl, _, _, _⟩ := hs.any
    have S1 := Lib.hid hs
    clear hs
    go_wp2_with fail
    refine (iFl_any xs _ _ _ S1.out).mono ?_
    rintro e w2 ⟨rfl, hk⟩
    rw [HE.out]
    have S2 := Lib.hid (S1.out.stay hk)
    have HK2 := Lib.hid (HK1.out.trans hk (by simp))
    clear hk S1 HK1
    go_wp2_with fail
    refine (sFl_any xs _ _ _ S2.out).mono ?_
    rintro e w3 ⟨rfl, hk⟩
    rw [HE.out]
    have S3 := Lib.hid (S2.out.stay hk)
    have HK3 := Lib.hid (HK2.out.trans hk (by simp))
    clear hk S2 HK2
    go_wp2_with fail
    refine (alive_any _).mono ?_
    rintro e w4 ⟨rfl, hk⟩
    have HKE := Lib.hid (HK3.out.trans hk (by simp))
    clear hk
    go_wp2
    go_ret
    exact ⟨rfl, HKE.out⟩
  · obtain ⟨ns, c, rfl, hc3, ok, h4, h3, h5⟩ := Nt.ccB_ok hcc
    clear hcc hc3
    have HOK := Lib.hid ok
    have hn1 := ok.some
    obtain ⟨n, hn⟩ : ∃ n, n = ns.length := ⟨_, rfl⟩
    have HN := Lib.hid hn
    obtain ⟨gN, capN, rfl, _, _⟩ := hs.row hn.symm (by omega)
    have S1 := Lib.hid hs
    obtain ⟨N, hN⟩ : ∃ N, N = 3 ^ n := ⟨_, rfl⟩
    have HNN := Lib.hid hN
    have hN6 : N ≤ 625 := by rw [hN]; exact pow_625 (by omega) (by omega)
    have hn4 : n ≤ 4 := by omega
    have hp : 0 < n := by omega
    have HC := Lib.hid (And.intro h3 h5)
    have HPW := Lib.hid (fun (w' : World) => (powerOf_any n 3 (by omega) (by omega) w').mono fun e w2 h => (show e = .returned (.int .i64 (N : Int)) ∧ w' = w2 from by rw [hN]; exact h))
    clear hs hN hn
    have HE : Hid (Nt.flOf (Nt.nats ns) = ((Nt.flN ns : Nat) : Int)) := Lib.hid (Nt.flOf_ok ok h4)
    have hq3 : 3 ≤ Nt.flN ns := Nt.flN_three ok h4
    have HPP : Hid (Nt.pathOf (n : Int) = Nt.nats (Nt.pathN n)) := Lib.hid (path_of_nat hp (by omega))
    have HPF : Hid (Nt.flOf (Nt.nats (Nt.pathN n)) = (N : Int)) := Lib.hid (by rw [HNN.out]; exact path_flat hp hn4)
    have HRR : Hid (3 ≤ n → Nt.ringOf (n : Int) = Nt.nats (Nt.ringN n)) := Lib.hid (fun h => ring_of_nat h (by omega))
    have HRF : Hid (3 ≤ n → Nt.flOf (Nt.nats (Nt.ringN n)) = Nt.rstOf (n : Int) 0) := Lib.hid (fun h => ring_flat h hn4)
    clear ok h4 hn1 HC
    generalize Nt.flN ns = q at *
    go_wp2_with fail
    refine (iFl_any _ _ _ _ S1.out).mono ?_
    rintro e w2 ⟨rfl, hk⟩
    rw [HE.out]
    have S2 := Lib.hid (S1.out.stay hk)
    have HK2 := Lib.hid (HK1.out.trans hk (by simp))
    clear hk HK1 S1
    go_wp2_with fail
    refine (sFl_any _ _ _ _ S2.out).mono ?_
    rintro e w3 ⟨rfl, hk⟩
    rw [HE.out]
    have S3 := Lib.hid (S2.out.stay hk)
    have HK3 := Lib.hid (HK2.out.trans hk (by simp))
    clear hk HK2 S2
    go_wp2_with fail
    refine (iPath_any (n : Int) _).mono ?_
    rintro e w9 ⟨u9, rfl, hz, hk9⟩
    rw [HPP.out] at hz
    have Z9 := Lib.hid hz
    have HK9 := Lib.hid (HK3.out.trans hk9 (by simp))
    clear hz hk9
    go_wp2_with fail
    refine (iFl_any _ _ _ _ Z9.out).mono ?_
    rintro e w10 ⟨rfl, hk10⟩
    rw [HPF.out]
    have HK10 := Lib.hid (HK9.out.trans hk10 (by simp))
    clear hk10
    go_wp2_with fail
    refine (HPW.out _).mono ?_
    rintro e w' ⟨rfl, rfl⟩
    by_cases hn3 : n < 3
    · have dn3 : ((n : Int) < 3) := by omega
      go_wp2
      go_ret
      exact ⟨rfl, HK10.out⟩
    · have dn3 : ¬ ((n : Int) < 3) := by omega
      go_wp2_with fail
      refine (iRing_any (n : Int) _).mono ?_
      rintro e w11 ⟨u11, rfl, hz, hk11⟩
      rw [HRR.out (by omega)] at hz
      have Z11 := Lib.hid hz
      have HK11 := Lib.hid (HK10.out.trans hk11 (by simp))
      clear hz hk11
      go_wp2_with fail
      refine (iFl_any _ _ _ _ Z11.out).mono ?_
      rintro e w12 ⟨rfl, hk12⟩
      rw [HRF.out (by omega)]
      have HK12 := Lib.hid (HK11.out.trans hk12 (by simp))
      clear hk12
      go_wp2_with fail
      refine (iRStates_any (n : Int) 0 _).mono ?_
      rintro e w13 ⟨rfl, hk13⟩
      have HK13 := Lib.hid (HK12.out.trans hk13 (by simp))
      clear hk13
      generalize Nt.rstOf (n : Int) 0 = rr at *
      go_wp2
      go_ret
      exact ⟨rfl, HK13.out⟩
end Go.Proofs.Ytlcbpnbehbgbeaa
