/-
  The law DyingCount, walked.
-/
import Derived.Test.YtlcbpnbehbgbeaaL11
namespace Go.Proofs.Ytlcbpnbehbgbeaa
open Go.RowKit

set_option maxHeartbeats 4000000 in
set_option maxRecDepth 100000 in
theorem FnDyingCount_calls (w : World) (v : Value) (ha : ArgB w v) :
    Calls Try.prog 5 #[v] w fun e w' => e = .returned (.bool true) ∧ Kept [] w w' := by
  have HA := Lib.hid ha
  obtain ⟨a, len, cap, rfl, hlc, hcm, _⟩ := ha
  by_cases hbig : 1048576 < len
  · have hb : (1048576 : Int) < (len : Int) := by omega
    clear hbig
    go_enter Try.func5, Try.ntmps5
    go_wp2
    go_ret
    exact ⟨rfl, Kept.refl _ _⟩
  have hb : ¬ (1048576 : Int) < (len : Int) := by omega
  clear hbig
  go_enter Try.func5, Try.ntmps5
  go_wp2_with fail
  refine (drawDyingCount_any _ _ HA.out).mono ?_
  rintro e w1 ⟨u, xs, kinds, rfl, hs, hk⟩
  have HK1 := Lib.hid hk
  clear hk hb
  cases hcc : Nt.ccB xs kinds
  · have HE := Lib.hid (Nt.dieOf_no hcc)
    obtain ⟨b1, cap1, rfl, _, _, _⟩ := hs.any
    have S1 := Lib.hid hs
    clear hs
    go_wp2_with fail
    refine (iDie_any xs kinds _ _ _ S1.out).mono ?_
    rintro e w2 ⟨rfl, hk⟩
    rw [HE.out]
    have S2 := Lib.hid (S1.out.stay hk)
    have HK2 := Lib.hid (HK1.out.trans hk (by simp))
    clear hk S1 HK1
    go_wp2_with fail
    refine (sDie_any xs kinds _ _ _ S2.out).mono ?_
    rintro e w3 ⟨rfl, hk⟩
    rw [HE.out]
    have S3 := Lib.hid (S2.out.stay hk)
    have HK3 := Lib.hid (HK2.out.trans hk (by simp))
    clear hk S2 HK2
    go_wp2_with fail
    refine (alive_any _).mono ?_
    rintro e w4 ⟨rfl, hk⟩
    have HKE := Lib.hid (HK3.out.trans hk (by simp))
    clear hk
    go_wp2
    go_ret
    exact ⟨rfl, HKE.out⟩
  · obtain ⟨ns, c, rfl, rfl, ok, h4, h3, h5⟩ := Nt.ccB_ok hcc
    clear hcc
    have HOK := Lib.hid ok
    have hn1 := ok.some
    obtain ⟨n, hn⟩ : ∃ n, n = ns.length := ⟨_, rfl⟩
    have HN := Lib.hid hn
    obtain ⟨gN, capN, rfl, _, _⟩ := hs.row hn.symm (by omega)
    have S1 := Lib.hid hs
    obtain ⟨N, hN⟩ : ∃ N, N = c ^ n := ⟨_, rfl⟩
    have HNN := Lib.hid hN
    have hN6 : N ≤ 625 := by rw [hN]; exact pow_625 h5 (by omega)
    have hn4 : n ≤ 4 := by omega
    have hp : 0 < n := by omega
    have HC := Lib.hid (And.intro h3 h5)
    have HPW := Lib.hid (fun (w' : World) => (powerOf_any n c (by omega) h5 w').mono fun e w2 h => (show e = .returned (.int .i64 (N : Int)) ∧ w' = w2 from by rw [hN]; exact h))
    clear hs hN hn
    have HE : Hid (Nt.dieOf (Nt.nats ns) (c : Int) = ((Nt.dieN ns c : Nat) : Int)) := Lib.hid (Nt.dieOf_ok ok h4 h3 h5)
    have hq1 : 1 ≤ Nt.dieN ns c := Nt.dieN_pos h3
    have hqN : Nt.dieN ns c ≤ N := by rw [HNN.out, HN.out]; exact Nt.dieN_le ns c
    have HFL : Hid (c = 3 → Nt.flOf (Nt.nats ns) = ((Nt.dieN ns c : Nat) : Int)) := Lib.hid (fun e => by subst e; rw [Nt.flOf_ok ok h4, Nt.dieN_flat ok])
    have HPP : Hid (Nt.pathOf (n : Int) = Nt.nats (Nt.pathN n)) := Lib.hid (path_of_nat hp (by omega))
    have HPD : Hid (Nt.dieOf (Nt.nats (Nt.pathN n)) 3 = ((3 ^ n : Nat) : Int)) := Lib.hid (path_dies hp hn4)
    have HP3 := Lib.hid (fun (w' : World) => (powerOf_any n 3 (by omega) (by omega) w'))
    clear ok h3 h5 h4 hn1
    generalize Nt.dieN ns c = q at *
    generalize 3 ^ n = N3 at *
    go_wp2_with fail
    refine (iDie_any _ _ _ _ _ S1.out).mono ?_
    rintro e w2 ⟨rfl, hk⟩
    rw [HE.out]
    have S2 := Lib.hid (S1.out.stay hk)
    have HK2 := Lib.hid (HK1.out.trans hk (by simp))
    clear hk HK1 S1
    go_wp2_with fail
    refine (sDie_any _ _ _ _ _ S2.out).mono ?_
    rintro e w3 ⟨rfl, hk⟩
    rw [HE.out]
    have S3 := Lib.hid (S2.out.stay hk)
    have HK3 := Lib.hid (HK2.out.trans hk (by simp))
    clear hk HK2 S2
    go_wp2_with fail
    refine (HPW.out _).mono ?_
    rintro e w' ⟨rfl, rfl⟩
    by_cases hc3 : c = 3
    · have HFF := Lib.hid (HFL.out hc3)
      subst hc3
      go_wp2_with fail
      refine (iFl_any _ _ _ _ S3.out).mono ?_
      rintro e w4 ⟨rfl, hk⟩
      rw [HFF.out]
      have HKF := Lib.hid (HK3.out.trans hk (by simp))
      clear hk
      go_wp2_with fail
      refine (iPath_any (n : Int) _).mono ?_
      rintro e w9 ⟨u9, rfl, hz, hk9⟩
      rw [HPP.out] at hz
      have Z9 := Lib.hid hz
      have HK9 := Lib.hid (HKF.out.trans hk9 (by simp))
      clear hz hk9
      go_wp2_with fail
      refine (iDie_any _ _ _ _ _ Z9.out).mono ?_
      rintro e w10 ⟨rfl, hk10⟩
      rw [HPD.out]
      have HK10 := Lib.hid (HK9.out.trans hk10 (by simp))
      clear hk10
      go_wp2_with fail
      refine (HP3.out _).mono ?_
      rintro e w' ⟨rfl, rfl⟩
      go_wp2
      go_ret
      exact ⟨rfl, HK10.out⟩
    · have dc3 : ((c : Int) == 3) = false := by simp; omega
      have HKF := HK3
      go_wp2_with fail
      refine (iPath_any (n : Int) _).mono ?_
      rintro e w9 ⟨u9, rfl, hz, hk9⟩
      rw [HPP.out] at hz
      have Z9 := Lib.hid hz
      have HK9 := Lib.hid (HKF.out.trans hk9 (by simp))
      clear hz hk9
      go_wp2_with fail
      refine (iDie_any _ _ _ _ _ Z9.out).mono ?_
      rintro e w10 ⟨rfl, hk10⟩
      rw [HPD.out]
      have HK10 := Lib.hid (HK9.out.trans hk10 (by simp))
      clear hk10
      go_wp2_with fail
      refine (HP3.out _).mono ?_
      rintro e w' ⟨rfl, rfl⟩
      go_wp2
      go_ret
      exact ⟨rfl, HK10.out⟩
end Go.Proofs.Ytlcbpnbehbgbeaa
