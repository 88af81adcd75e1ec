/-
  The law of CountsOf, walked.
-/
import Derived.Test.YtjogkppgmomggaaD10
import Derived.Test.YtjogkppgmomggaaL1
import Derived.Test.YtjogkppgmomggaaS4
namespace Go.Proofs.Ytjogkppgmomggaa
open Go.RowKit

theorem counts_le {c : Nat} {ks : List Nat} (h : Nt.St c ks) {j : Nat} (hj : j < c) : (Nt.counts c ks).getD j 0 ≤ 6 := by
  rw [Nt.counts, Nt.countsTo_get _ _ _ _ hj]
  exact Nat.le_trans (Nt.cntTo_le _ _ _) h.few

set_option maxHeartbeats 4000000 in
theorem FnCountsOf_calls (w : World) (v : Value) (ha : ArgB w v) :
    Calls Try.prog 4 #[v] w fun e w' => e = .returned (.bool true) ∧ Kept [] w w' := by
  have HA := Lib.hid ha
  obtain ⟨a, len, cap, rfl, hlc, hcm, _⟩ := ha
  by_cases hbig : 1048576 < len
  · have hb : (1048576 : Int) < (len : Int) := by omega
    clear hbig
    go_enter Try.func4, Try.ntmps4
    go_wp2
    go_ret
    exact ⟨rfl, Kept.refl _ _⟩
  have hb : ¬ (1048576 : Int) < (len : Int) := by omega
  clear hbig
  go_enter Try.func4, Try.ntmps4
  go_wp2_with fail
  refine (drawCountsOf_any _ _ HA.out).mono ?_
  rintro e w1 ⟨u, xs, c0, rfl, hc0, hc1, hs, hl, hk⟩
  have HS := Lib.hid hs
  have HK := Lib.hid hk
  clear hk hb hc0 hc1
  by_cases ho : Nt.stB c0 xs = true
  · obtain ⟨c, ks, rfl, rfl, hst⟩ := Nt.stB_st ho
    obtain ⟨n, hn⟩ : ∃ n, n = ks.length := ⟨_, rfl⟩
    have hp := hst.some
    have h6 := hst.few
    have c3 := hst.c3
    have c5 := hst.c5
    rw [← hn] at hp h6
    obtain ⟨g, cap1, rfl, hg, _⟩ := hs.row hn.symm hp
    have HST := Lib.hid hst
    have HN := Lib.hid hn
    have HYES := Lib.hid ho
    clear hs hst hn ho hg hl
    have HF := Lib.hid (Nt.countsOf_ok HST.out)
    have HFL := Lib.hid (show (Nt.counts c ks).length = c by rw [Nt.counts, Nt.countsTo_length])
    go_wp2_with fail
    refine (iCounts_any (c : Int) (Nt.nats ks) _ _ _ HS.out).mono ?_
    rintro e w2 ⟨u2, rfl, hs2, hk2⟩
    rw [HF.out] at hs2
    obtain ⟨g2, cap2, rfl, hg2, hc2⟩ := hs2.row HFL.out (by omega)
    have HR2 := Lib.hid hs2
    have HS2 := Lib.hid (HS.out.stay hk2)
    have HK2 := Lib.hid (HK.out.trans hk2 (by simp))
    have HC2 := Lib.hid hc2
    clear hs2 hk2 HS HK hc2
    go_wp2_with fail
    refine (sCounts_any (c : Int) (Nt.nats ks) _ _ _ HS2.out).mono ?_
    rintro e w3 ⟨u3, rfl, hs3, hk3⟩
    rw [HF.out] at hs3
    have HT3 := Lib.hid hs3
    have HR3 := Lib.hid (HR2.out.stay hk3)
    have HS3 := Lib.hid (HS2.out.stay hk3)
    have HC3 := Lib.hid (fun j (hj : j < c) => (hk3.cell (p := ⟨g2, j, none⟩) hg2 (by simp)).trans (HC2.out j hj))
    have hg3 := Nat.lt_of_lt_of_le hg2 hk3.size
    have HK3 := Lib.hid (HK2.out.trans hk3 (by simp))
    clear hs3 hk3 HS2 HK2 HR2 HC2 hg2
    go_wp2_with fail
    refine (sameInts_any _ _ _ _ _ _ _ HR3.out HT3.out).mono ?_
    rintro e w4 ⟨rfl, hq⟩
    rw [dec_of rfl]
    have HS4 := Lib.hid (hq.sl HS3.out)
    have HR4 := Lib.hid (hq.sl HR3.out)
    have HC4 := Lib.hid (fun j (hj : j < c) => (hq.cell ⟨g2, j, none⟩).trans (HC3.out j hj))
    have hg4 : g2 < w4.heap.size := by rw [hq.heap]; exact hg3
    have HK4 := Lib.hid (HK3.out.trans hq.kept (by simp))
    have hne0 : ((c : Int) == 0) = false := beq_eq_false_iff_ne.2 (by omega)
    clear hq HS3 HK3 HT3 HR3 HC3 hg3
    have HRO := Lib.hid (Nt.raisedOf_ok HST.out)
    have HCO := Lib.hid (Nt.countsOf_ok (Nt.raised_st HST.out))
    go_wp2_with fail
    refine (iRaised_any (c : Int) (Nt.nats ks) _ _ _ HS4.out).mono ?_
    rintro e w5 ⟨u5, rfl, hs5, hk5⟩
    rw [HRO.out] at hs5
    have HX5 := Lib.hid hs5
    have HC5 := Lib.hid (fun j (hj : j < c) => (hk5.cell (p := ⟨g2, j, none⟩) hg4 (by simp)).trans (HC4.out j hj))
    have hg5 := Nat.lt_of_lt_of_le hg4 hk5.size
    have HK5 := Lib.hid (HK4.out.trans hk5 (by simp))
    clear hs5 hk5 HC4 HK4 HS4 HR4 hg4
    go_wp2_with fail
    refine (iCounts_any (c : Int) (Nt.nats (Nt.raised c ks)) _ _ _ HX5.out).mono ?_
    rintro e w6 ⟨u6, rfl, hs6, hk6⟩
    rw [HCO.out] at hs6
    obtain ⟨g6, cap6, rfl, _, hc6⟩ := hs6.row (n := c) (by rw [Nt.counts, Nt.countsTo_length]) (by omega)
    have HD6 := Lib.hid hc6
    have HC6 := Lib.hid (fun j (hj : j < c) => (hk6.cell (p := ⟨g2, j, none⟩) hg5 (by simp)).trans (HC5.out j hj))
    have HK6 := Lib.hid (HK5.out.trans hk6 (by simp))
    clear hs6 hk6 HC5 HK5 HX5 hg5 hc6
    go_wp2
    go_loopw [7, 8] (fun q i wr => ∃ k : Nat, k ≤ c ∧ i = .int .i64 k ∧ q = .int .i64 ((Nt.sumTo (fun j => (Nt.counts c ks).getD j 0) k : Nat) : Int) ∧ Qt w6 wr) (fun _ i _ => c - (intOf i).toNat)
    case atStart => exact ⟨0, Nat.zero_le _, rfl, rfl, Qt.refl _⟩
    case round =>
      obtain ⟨k, hk, rfl, rfl, hq⟩ := hrel
      have HQ := Lib.hid hq
      by_cases hlt : k < c
      · have c1 := (hq.cell _).trans (HC6.out k hlt)
        have hm0 : (k + 1) % c < c := Nat.mod_lt _ (by omega)
        have c2 := (hq.cell _).trans (HD6.out ((k + 1) % c) hm0)
        rw [Nt.counts_raised HST.out hlt] at c2
        have hle := counts_le HST.out hlt
        have hsl : Nt.sumTo (fun j => (Nt.counts c ks).getD j 0) k ≤ k * 6 := Nt.sumTo_le k (fun i hi => counts_le HST.out (by omega))
        have HSS : Hid (Nt.sumTo (fun j => (Nt.counts c ks).getD j 0) (k + 1) = Nt.sumTo (fun j => (Nt.counts c ks).getD j 0) k + (Nt.counts c ks).getD k 0) := Lib.hid rfl
        have f1 := succ_mod k c
        have hc0 : ¬ c = 0 := by omega
        have f2 : IntKind.i64.wrap ((k : Int) + 1) = (k : Int) + 1 := IntWalk.i64_in _ (by omega)
        clear hq
        generalize Nt.sumTo (fun j => (Nt.counts c ks).getD j 0) k = sm at *
        generalize (Nt.counts c ks).getD k 0 = y at *
        generalize (k + 1) % c = r at *
        have q2 : ((y : Int) != (y : Int)) = false := by simp
        go_wp2_with fail
        go_quiet (fail)
        go_wp2
        go_roundw
        case rel => exact ⟨k + 1, by omega, by go_num, by rw [HSS.out]; go_num, HQ.out.draw _⟩
        case measure => simp [intOf]; omega
      · have hk' : k = c := by omega
        subst hk'
        have HSUM := Lib.hid ((Nt.counts_sum HST.out).trans HN.out.symm)
        clear hq
        rw [HSUM.out]
        go_wp2
        go_ret
        exact ⟨by simp, HK6.out.trans HQ.out.kept (by simp)⟩
  · have ho' : Nt.stB c0 xs = false := by simpa using ho
    have HF := Lib.hid (Nt.countsOf_no ho')
    obtain ⟨b, cap1, rfl, _, _, _⟩ := hs.any
    clear hs ho
    go_wp2_with fail
    refine (iCounts_any c0 xs _ _ _ HS.out).mono ?_
    rintro e w2 ⟨u2, rfl, hs2, hk2⟩
    rw [HF.out] at hs2
    have HR2 := Lib.hid hs2
    have HS2 := Lib.hid (HS.out.stay hk2)
    have HK2 := Lib.hid (HK.out.trans hk2 (by simp))
    obtain ⟨b2, cap2, rfl, _, _, _⟩ := hs2.any
    clear hs2 hk2 HS HK
    go_wp2_with fail
    refine (sCounts_any c0 xs _ _ _ HS2.out).mono ?_
    rintro e w3 ⟨u3, rfl, hs3, hk3⟩
    rw [HF.out] at hs3
    have HT3 := Lib.hid hs3
    have HR3 := Lib.hid (HR2.out.stay hk3)
    have HS3 := Lib.hid (HS2.out.stay hk3)
    have HK3 := Lib.hid (HK2.out.trans hk3 (by simp))
    clear hs3 hk3 HS2 HK2 HR2
    go_wp2_with fail
    refine (sameInts_any _ _ _ _ _ _ _ HR3.out HT3.out).mono ?_
    rintro e w4 ⟨rfl, hq⟩
    rw [dec_of rfl]
    have HS4 := Lib.hid (hq.sl HS3.out)
    have HK4 := Lib.hid (HK3.out.trans hq.kept (by simp))
    clear hq HS3 HK3 HR3 HT3
    go_wp2_with fail
    refine (iStateOk_any c0 xs _ _ _ HS4.out).mono ?_
    rintro e w' ⟨rfl, rfl⟩
    rw [ho']
    clear ho'
    go_wp2_with fail
    refine (alive_any _).mono ?_
    rintro e w5 ⟨rfl, hk⟩
    have HK5 := Lib.hid (HK4.out.trans hk (by simp))
    clear hk
    go_wp2
    go_ret
    exact ⟨rfl, HK5.out⟩
end Go.Proofs.Ytjogkppgmomggaa
