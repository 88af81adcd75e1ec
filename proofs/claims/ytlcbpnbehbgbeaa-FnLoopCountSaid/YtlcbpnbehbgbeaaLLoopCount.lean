/-
  The law LoopCount, walked.
-/
import Derived.Test.YtlcbpnbehbgbeaaL11
import Derived.Test.YtlcbpnbehbgbeaaNP3
namespace Go.Proofs.Ytlcbpnbehbgbeaa
open Go.RowKit

set_option maxHeartbeats 4000000 in
set_option maxRecDepth 100000 in
theorem FnLoopCount_calls (w : World) (v : Value) (ha : ArgB w v) :
    Calls Try.prog 6 #[v] w fun e w' => e = .returned (.bool true) ∧ Kept [] w w' := by
  have HA := Lib.hid ha
  obtain ⟨a, len, cap, rfl, hlc, hcm, _⟩ := ha
  by_cases hbig : 1048576 < len
  · have hb : (1048576 : Int) < (len : Int) := by omega
    clear hbig
    go_enter Try.func6, Try.ntmps6
    go_wp2
    go_ret
    exact ⟨rfl, Kept.refl _ _⟩
  have hb : ¬ (1048576 : Int) < (len : Int) := by omega
  clear hbig
  go_enter Try.func6, Try.ntmps6
  go_wp2_with fail
  refine (drawLoopCount_any _ _ HA.out).mono ?_
  rintro e w1 ⟨u, xs, kinds, rfl, hs, hk⟩
  have HK1 := Lib.hid hk
  clear hk hb
  cases hcc : Nt.ccB xs kinds
  · have HE := Lib.hid (Nt.lpOf_no hcc)
    obtain ⟨b1, cap1, rfl, _, _, _⟩ := hs.any
    have S1 := Lib.hid hs
    clear hs
    go_wp2_with fail
    refine (iLp_any xs kinds _ _ _ S1.out).mono ?_
    rintro e w2 ⟨rfl, hk⟩
    rw [HE.out]
    have S2 := Lib.hid (S1.out.stay hk)
    have HK2 := Lib.hid (HK1.out.trans hk (by simp))
    clear hk S1 HK1
    go_wp2_with fail
    refine (sLp_any xs kinds _ _ _ S2.out).mono ?_
    rintro e w3 ⟨rfl, hk⟩
    rw [HE.out]
    have S3 := Lib.hid (S2.out.stay hk)
    have HK3 := Lib.hid (HK2.out.trans hk (by simp))
    clear hk S2 HK2
    go_wp2_with fail
    refine (alive_any _).mono ?_
    rintro e w4 ⟨rfl, hk⟩
    have HKE := Lib.hid (HK3.out.trans hk (by simp))
    clear hk
    go_wp2
    go_ret
    exact ⟨rfl, HKE.out⟩
  · obtain ⟨ns, c, rfl, rfl, ok, h4, h3, h5⟩ := Nt.ccB_ok hcc
    clear hcc
    have HOK := Lib.hid ok
    have hn1 := ok.some
    obtain ⟨n, hn⟩ : ∃ n, n = ns.length := ⟨_, rfl⟩
    have HN := Lib.hid hn
    obtain ⟨gN, capN, rfl, _, _⟩ := hs.row hn.symm (by omega)
    have S1 := Lib.hid hs
    obtain ⟨N, hN⟩ : ∃ N, N = c ^ n := ⟨_, rfl⟩
    have HNN := Lib.hid hN
    have hN6 : N ≤ 625 := by rw [hN]; exact pow_625 h5 (by omega)
    have hn4 : n ≤ 4 := by omega
    have hp : 0 < n := by omega
    have HC := Lib.hid (And.intro h3 h5)
    have HPW := Lib.hid (fun (w' : World) => (powerOf_any n c (by omega) h5 w').mono fun e w2 h => (show e = .returned (.int .i64 (N : Int)) ∧ w' = w2 from by rw [hN]; exact h))
    clear hs hN hn
    have HE : Hid (Nt.lpOf (Nt.nats ns) (c : Int) = ((Nt.lpN ns c : Nat) : Int)) := Lib.hid (Nt.lpOf_ok ok h4 h3 h5)
    have HED : Hid (Nt.edenOf (Nt.nats ns) (c : Int) = ((Nt.edenN ns c : Nat) : Int)) := Lib.hid (Nt.edenOf_ok ok h4 h3 h5)
    have HDI : Hid (Nt.dieOf (Nt.nats ns) (c : Int) = ((Nt.dieN ns c : Nat) : Int)) := Lib.hid (Nt.dieOf_ok ok h4 h3 h5)
    have hq1 : 1 ≤ Nt.lpN ns c := Nt.lpN_pos ok h3 h5
    have hqe : Nt.lpN ns c + Nt.edenN ns c ≤ N := by rw [HNN.out, HN.out]; exact Nt.lpN_eden ok h3 h5
    have hdN : Nt.dieN ns c ≤ N := by rw [HNN.out, HN.out]; exact Nt.dieN_le ns c
    have HON : Hid (Nt.lpN ns c = 1 ↔ Nt.dieN ns c = N) := Lib.hid (by rw [HNN.out, HN.out]; exact Nt.lpN_one ok h3 h5)
    clear ok h3 h5 h4 hn1
    generalize Nt.lpN ns c = q at *
    generalize Nt.edenN ns c = ed at *
    generalize Nt.dieN ns c = di at *
    go_wp2_with fail
    refine (iLp_any _ _ _ _ _ S1.out).mono ?_
    rintro e w2 ⟨rfl, hk⟩
    rw [HE.out]
    have S2 := Lib.hid (S1.out.stay hk)
    have HK2 := Lib.hid (HK1.out.trans hk (by simp))
    clear hk HK1 S1
    go_wp2_with fail
    refine (sLp_any _ _ _ _ _ S2.out).mono ?_
    rintro e w3 ⟨rfl, hk⟩
    rw [HE.out]
    have S3 := Lib.hid (S2.out.stay hk)
    have HK3 := Lib.hid (HK2.out.trans hk (by simp))
    clear hk HK2 S2
    go_wp2_with fail
    refine (HPW.out _).mono ?_
    rintro e w' ⟨rfl, rfl⟩
    go_wp2_with fail
    refine (iEden_any _ _ _ _ _ S3.out).mono ?_
    rintro e w4 ⟨rfl, hk⟩
    rw [HED.out]
    have S4 := Lib.hid (S3.out.stay hk)
    have HK4 := Lib.hid (HK3.out.trans hk (by simp))
    clear hk HK3 S3
    go_wp2_with fail
    refine (iDie_any _ _ _ _ _ S4.out).mono ?_
    rintro e w5 ⟨rfl, hk⟩
    rw [HDI.out]
    have S5 := Lib.hid (S4.out.stay hk)
    have HK5 := Lib.hid (HK4.out.trans hk (by simp))
    clear hk HK4 S4
    by_cases h1 : q = 1
    · have h2 : di = N := HON.out.1 h1
      subst h1
      subst h2
      go_wp2
      go_ret
      exact ⟨rfl, HK5.out⟩
    · have h2 : ¬ di = N := fun e => h1 (HON.out.2 e)
      have d1 : ((q : Int) == 1) = false := by simp; omega
      have d2 : ((di : Int) == (N : Int)) = false := by simp; omega
      go_wp2
      go_ret
      exact ⟨rfl, HK5.out⟩
end Go.Proofs.Ytlcbpnbehbgbeaa
