/-
  The law of RaisedState, walked.
-/
import Derived.Test.YtjogkppgmomggaaD10
import Derived.Test.YtjogkppgmomggaaL1
import Derived.Test.YtjogkppgmomggaaS4
import Derived.Test.YtjogkppgmomggaaOpsB
namespace Go.Proofs.Ytjogkppgmomggaa
open Go.RowKit

set_option maxHeartbeats 4000000 in
theorem FnRaisedState_calls (w : World) (v : Value) (ha : ArgB w v) :
    Calls Try.prog 6 #[v] w fun e w' => e = .returned (.bool true) ∧ Kept [] w w' := by
  have HA := Lib.hid ha
  obtain ⟨a, len, cap, rfl, hlc, hcm, _⟩ := ha
  by_cases hbig : 1048576 < len
  · have hb : (1048576 : Int) < (len : Int) := by omega
    clear hbig
    go_enter Try.func6, Try.ntmps6
    go_wp2
    go_ret
    exact ⟨rfl, Kept.refl _ _⟩
  have hb : ¬ (1048576 : Int) < (len : Int) := by omega
  clear hbig
  go_enter Try.func6, Try.ntmps6
  go_wp2_with fail
  refine (drawRaisedState_any _ _ HA.out).mono ?_
  rintro e w1 ⟨u, xs, c0, rfl, hc0, hc1, hs, hl, hk⟩
  have HS := Lib.hid hs
  have HK := Lib.hid hk
  clear hk hb hc0 hc1
  by_cases ho : Nt.stB c0 xs = true
  · obtain ⟨c, ks, rfl, rfl, hst⟩ := Nt.stB_st ho
    obtain ⟨n, hn⟩ : ∃ n, n = ks.length := ⟨_, rfl⟩
    have hp := hst.some
    have h6 := hst.few
    have c3 := hst.c3
    have c5 := hst.c5
    rw [← hn] at hp h6
    obtain ⟨g, cap1, rfl, hg, _⟩ := hs.row hn.symm hp
    have HST := Lib.hid hst
    have HN := Lib.hid hn
    have HYES := Lib.hid ho
    clear hs hst hn ho hg hl
    have HF := Lib.hid (Nt.raisedOf_ok HST.out)
    have HFL := Lib.hid ((Nt.raised_length c ks).trans HN.out.symm)
    go_wp2_with fail
    refine (iRaised_any (c : Int) (Nt.nats ks) _ _ _ HS.out).mono ?_
    rintro e w2 ⟨u2, rfl, hs2, hk2⟩
    rw [HF.out] at hs2
    obtain ⟨g2, cap2, rfl, hg2, hc2⟩ := hs2.row HFL.out (by omega)
    have HR2 := Lib.hid hs2
    have HS2 := Lib.hid (HS.out.stay hk2)
    have HK2 := Lib.hid (HK.out.trans hk2 (by simp))
    have HC2 := Lib.hid hc2
    clear hs2 hk2 HS HK hc2
    go_wp2_with fail
    refine (sRaised_any (c : Int) (Nt.nats ks) _ _ _ HS2.out).mono ?_
    rintro e w3 ⟨u3, rfl, hs3, hk3⟩
    rw [HF.out] at hs3
    have HT3 := Lib.hid hs3
    have HR3 := Lib.hid (HR2.out.stay hk3)
    have HS3 := Lib.hid (HS2.out.stay hk3)
    have HC3 := Lib.hid (fun j (hj : j < n) => (hk3.cell (p := ⟨g2, j, none⟩) hg2 (by simp)).trans (HC2.out j hj))
    have hg3 := Nat.lt_of_lt_of_le hg2 hk3.size
    have HK3 := Lib.hid (HK2.out.trans hk3 (by simp))
    clear hs3 hk3 HS2 HK2 HR2 HC2 hg2
    go_wp2_with fail
    refine (sameInts_any _ _ _ _ _ _ _ HR3.out HT3.out).mono ?_
    rintro e w4 ⟨rfl, hq⟩
    rw [dec_of rfl]
    have HS4 := Lib.hid (hq.sl HS3.out)
    have HR4 := Lib.hid (hq.sl HR3.out)
    have HC4 := Lib.hid (fun j (hj : j < n) => (hq.cell ⟨g2, j, none⟩).trans (HC3.out j hj))
    have hg4 : g2 < w4.heap.size := by rw [hq.heap]; exact hg3
    have HK4 := Lib.hid (HK3.out.trans hq.kept (by simp))
    have hne0 : ((n : Int) == 0) = false := beq_eq_false_iff_ne.2 (by omega)
    clear hq HS3 HK3 HT3 HR3 HC3 hg3
    have HE := Lib.hid (Sl.empty3 w4)
    have HX := Lib.hid (HR4.out.stay ((Kept.refl [] w4).alloc (.cells #[] 3)))
    have HRS := Lib.hid (Nt.raised_length c ks)
    clear HC4 hg4
    go_wp2_with (at_builtin; refine app_sl rfl _ _ rfl w4.heap.size _ [] HE.out rfl _ _ (Nt.nats (Nt.raised c ks)) HX.out (by rw [Nt.nats_length, HRS.out, ← HN.out]; exact hp) rfl (by rw [Nt.nats_length, HFL.out]; simp; omega) (by simp) ?_; intro z1 w5 hs5 hk5; have HS5 := Lib.hid hs5; have HK5 := Lib.hid (((Kept.refl [] w4).alloc (.cells #[] 3)).own hk5 (fun g' hg' => by simp [Value.ownBlock] at hg'; omega)); clear hs5 hk5)
    go_loopw [6, 7] (fun u i wr => ∃ k : Nat, 1 ≤ k ∧ k ≤ c ∧ i = .int .i64 k ∧ Sl wr w4.heap.size u (Nt.nats (Nt.raisedN c ks k)) ∧ Kept [] w4 wr) (fun _ i _ => c - (intOf i).toNat)
    case atStart => exact ⟨1, Nat.le_refl _, by omega, rfl, by have h := HS5.out; rw [List.nil_append] at h; exact h, HK5.out⟩
    case round =>
      clear HS5 HK5 HE HX
      obtain ⟨k, hk1, hk, rfl, hsl, hkept⟩ := hrel
      have HSL := Lib.hid hsl
      have HKR := Lib.hid hkept
      clear hsl hkept
      by_cases hlt : k < c
      · have HRO := Lib.hid (Nt.raisedOf_ok (Nt.raisedN_st HST.out k))
        go_wp2_with fail
        refine (iRaised_any (c : Int) (Nt.nats (Nt.raisedN c ks k)) _ _ _ HSL.out).mono ?_
        rintro e w6 ⟨u6, rfl, hs6, hk6⟩
        rw [HRO.out] at hs6
        have HS6 := Lib.hid (hs6.mono HKR.out.size)
        have HK6 := Lib.hid (HKR.out.trans hk6 (by simp))
        clear hs6 hk6
        go_wp2
        go_roundw
        case rel => exact ⟨k + 1, by omega, by omega, by go_num, HS6.out, HK6.out⟩
        case measure => simp [intOf]; omega
      · have hk' : k = c := by omega
        subst hk'
        have HYR := Lib.hid (Nt.st_stB (Nt.raised_st HST.out))
        have HRD := Lib.hid (Nt.raisedN_round HST.out)
        go_wp2_with fail
        refine (iStateOk_any (k : Int) (Nt.nats (Nt.raised k ks)) _ _ _ (HR4.out.stay HKR.out)).mono ?_
        rintro e w' ⟨rfl, rfl⟩
        rw [HYR.out]
        go_wp2_with fail
        refine (sameInts_any _ _ _ _ _ _ _ HSL.out (HS4.out.stay HKR.out)).mono ?_
        rintro e w7 ⟨rfl, hq⟩
        rw [HRD.out, dec_of rfl]
        have HK7 := Lib.hid (HK4.out.trans (HKR.out.trans hq.kept (by simp)) (by simp))
        clear hq
        go_wp2
        go_ret
        exact ⟨by simp, HK7.out⟩
  · have ho' : Nt.stB c0 xs = false := by simpa using ho
    have HF := Lib.hid (Nt.raisedOf_no ho')
    obtain ⟨b, cap1, rfl, _, _, _⟩ := hs.any
    clear hs ho
    go_wp2_with fail
    refine (iRaised_any c0 xs _ _ _ HS.out).mono ?_
    rintro e w2 ⟨u2, rfl, hs2, hk2⟩
    rw [HF.out] at hs2
    have HR2 := Lib.hid hs2
    have HS2 := Lib.hid (HS.out.stay hk2)
    have HK2 := Lib.hid (HK.out.trans hk2 (by simp))
    obtain ⟨b2, cap2, rfl, _, _, _⟩ := hs2.any
    clear hs2 hk2 HS HK
    go_wp2_with fail
    refine (sRaised_any c0 xs _ _ _ HS2.out).mono ?_
    rintro e w3 ⟨u3, rfl, hs3, hk3⟩
    rw [HF.out] at hs3
    have HT3 := Lib.hid hs3
    have HR3 := Lib.hid (HR2.out.stay hk3)
    have HS3 := Lib.hid (HS2.out.stay hk3)
    have HK3 := Lib.hid (HK2.out.trans hk3 (by simp))
    clear hs3 hk3 HS2 HK2 HR2
    go_wp2_with fail
    refine (sameInts_any _ _ _ _ _ _ _ HR3.out HT3.out).mono ?_
    rintro e w4 ⟨rfl, hq⟩
    rw [dec_of rfl]
    have HS4 := Lib.hid (hq.sl HS3.out)
    have HK4 := Lib.hid (HK3.out.trans hq.kept (by simp))
    clear hq HS3 HK3 HR3 HT3
    go_wp2_with fail
    refine (iStateOk_any c0 xs _ _ _ HS4.out).mono ?_
    rintro e w' ⟨rfl, rfl⟩
    rw [ho']
    clear ho'
    go_wp2_with fail
    refine (alive_any _).mono ?_
    rintro e w5 ⟨rfl, hk⟩
    have HK5 := Lib.hid (HK4.out.trans hk (by simp))
    clear hk
    go_wp2
    go_ret
    exact ⟨rfl, HK5.out⟩
end Go.Proofs.Ytjogkppgmomggaa
