/-
  The law TiredRests, walked.
-/
import Derived.Test.YtahjplaidkibpaaD14
import Derived.Test.YtahjplaidkibpaaL1
import Derived.Test.YtahjplaidkibpaaF12
import Derived.Test.YtahjplaidkibpaaS2
namespace Go.Proofs.Ytahjplaidkibpaa
open Go.RowKit

theorem no_one (ks : List Nat) : ∀ k, Nt.cntTo ks 1 k = 0 → ∀ i, i < k → ks.getD i 0 ≠ 1
  | 0, _, i, hi => by omega
  | k + 1, h, i, hi => by
    unfold Nt.cntTo at h
    rw [Nt.sumTo] at h
    by_cases e : i = k
    · subst e
      intro e2
      rw [if_pos e2] at h
      omega
    · exact no_one ks k (by unfold Nt.cntTo; omega) i (by omega)

set_option maxHeartbeats 4000000 in
set_option maxRecDepth 100000 in
theorem FnTiredRests_calls (w : World) (v : Value) (ha : ArgB w v) :
    Calls Try.prog 9 #[v] w fun e w' => e = .returned (.bool true) ∧ Kept [] w w' := by
  have HA := Lib.hid ha
  obtain ⟨a, len, cap, rfl, hlc, hcm, _⟩ := ha
  by_cases hbig : 1048576 < len
  · have hb : (1048576 : Int) < (len : Int) := by omega
    clear hbig
    go_enter Try.func9, Try.ntmps9
    go_wp2
    go_ret
    exact ⟨rfl, Kept.refl _ _⟩
  have hb : ¬ (1048576 : Int) < (len : Int) := by omega
  clear hbig
  go_enter Try.func9, Try.ntmps9
  go_wp2_with fail
  refine (drawEndsAt_any _ _ HA.out).mono ?_
  rintro e w1 ⟨u, xs, v, ys, c0, rfl, hc3, hc5, hs, ht, hl1, hl2, hk⟩
  have S1 := Lib.hid hs
  have T1 := Lib.hid ht
  have HK := Lib.hid hk
  clear hk hb
  by_cases hst0 : Nt.stB c0 ys = true
  · obtain ⟨c, ks, rfl, rfl, st⟩ := Nt.stB_st hst0
    have HC := Lib.hid (Nt.countsOf_ok st)
    have HCL : Hid ((Nt.counts c ks).length = c) := Lib.hid (Nt.countsTo_length c ks _)
    have HST := Lib.hid st
    have c3 := st.c3
    have c5 := st.c5
    have hp : 0 < c := by omega
    have HONE : Hid ((Nt.counts c ks).getD 1 0 = 0 → ∀ i, i < ks.length → ks.getD i 0 ≠ 1) := Lib.hid (fun h => by
      have e : (Nt.counts c ks).getD 1 0 = Nt.cntTo ks 1 ks.length := Nt.countsTo_get c ks ks.length 1 (by omega)
      rw [e] at h
      exact no_one ks _ h)
    obtain ⟨bS, capS, rfl, _, _, _⟩ := hs.any
    obtain ⟨bT, capT, rfl, _, _, _⟩ := ht.any
    clear hs ht st hst0 hl1 hl2 hc3 hc5
    go_wp2_with fail
    refine (iCounts_any _ _ _ _ _ T1.out).mono ?_
    rintro e w2 ⟨u2, rfl, hs, hk⟩
    rw [HC.out] at hs
    have R2 := Lib.hid hs
    obtain ⟨gR, capR, rfl, hgR, hcR⟩ := hs.row HCL.out hp
    have CR2 := Lib.hid hcR
    have lR2 := Lib.hid hgR
    clear hgR hcR
    have S2 := Lib.hid (S1.out.stay hk)
    have T2 := Lib.hid (T1.out.stay hk)
    have HK2 := Lib.hid (HK.out.trans hk (by simp))
    clear S1 T1 HK
    clear hs hk
    have hcell := CR2.out 1 (by omega)
    generalize hx0 : (Nt.counts c ks).getD 1 0 = x at hcell
    have HX0 := Lib.hid hx0
    clear hx0
    by_cases hx : 0 < x
    · have hx' : decide ((0 : Int) < (x : Int)) = true := dec_of (by omega)
      go_wp2_with fail
      refine (alive_any _).mono ?_
      rintro e w3 ⟨rfl, hk⟩
      have S3 := Lib.hid (S2.out.stay hk)
      have T3 := Lib.hid (T2.out.stay hk)
      have R3 := Lib.hid (R2.out.stay hk)
      have HK3 := Lib.hid (HK2.out.trans hk (by simp))
      clear S2 T2 R2 HK2
      clear hk
      go_wp2
      go_ret
      exact ⟨rfl, HK3.out⟩
    · have HNO := Lib.hid (HONE.out (by rw [HX0.out]; omega))
      have hx' : ¬ (0 : Int) < (x : Int) := by omega
      by_cases ho : Nt.fireB xs (c : Int) (Nt.nats ks) = true
      · obtain ⟨ns, c2, ks2, rfl, e1, e2, ok, st, hl⟩ := Nt.fireB_ok ho
        have e1' : c = c2 := by omega
        subst e1'
        have e2' := Nt.nats_inj e2
        subst e2'
        obtain ⟨n, hn⟩ : ∃ n, n = ks.length := ⟨_, rfl⟩
        have hn0 : 0 < n := by have := st.some; omega
        have hne0 : ((n : Int) == 0) = false := beq_eq_false_iff_ne.2 (by omega)
        have HF := Lib.hid (Nt.stepOf_ok ok st hl)
        have HRL : Hid ((Nt.step ns c ks).length = n) := Lib.hid (by rw [Nt.step_length, hn])
        obtain ⟨m, l, hloop, hb⟩ := Nt.run_loop ns st
        obtain ⟨hl1, hmc⟩ := Nt.rest_loop hloop (Nt.tired_rest st HNO.out)
        subst hl1
        have HLI : Hid (Nt.LoopIs (Nt.nats ns) (c : Int) (Nt.nats ks) (m : Int) ((1 : Nat) : Int)) := Lib.hid (.inl ⟨ns, c, ks, m, 1, rfl, rfl, rfl, ok, st, hl, hloop, hb, rfl, rfl⟩)
        have HE : Hid (Nt.endsOf (m : Int) ((1 : Nat) : Int) = (m : Int)) := Lib.hid rfl
        have hmc2 : (m : Int) ≤ (c : Int) - 2 := by omega
        clear hloop hb ok st hl ho e1 e2 hmc hn
        go_wp2_with fail
        refine (iFireStep_any _ _ _ _ _ _ _ _ S2.out T2.out).mono ?_
        rintro e w3 ⟨u3, rfl, hs, hk⟩
        rw [HF.out] at hs
        have X3 := Lib.hid hs
        have S3 := Lib.hid (S2.out.stay hk)
        have T3 := Lib.hid (T2.out.stay hk)
        have R3 := Lib.hid (R2.out.stay hk)
        have HK3 := Lib.hid (HK2.out.trans hk (by simp))
        clear S2 T2 R2 HK2
        clear hs hk
        obtain ⟨gX, capX, rfl, _, _⟩ := X3.out.row HRL.out hn0
        go_wp2_with fail
        refine (iEnds_any _ _ _ HLI.out _ _ _ _ _ S3.out T3.out).mono ?_
        rintro e w4 ⟨rfl, hk⟩
        rw [HE.out]
        have S4 := Lib.hid (S3.out.stay hk)
        have T4 := Lib.hid (T3.out.stay hk)
        have R4 := Lib.hid (R3.out.stay hk)
        have X4 := Lib.hid (X3.out.stay hk)
        have HK4 := Lib.hid (HK3.out.trans hk (by simp))
        clear S3 T3 R3 X3 HK3
        clear hk
        go_wp2_with fail
        refine (alive_any _).mono ?_
        rintro e w5 ⟨rfl, hk⟩
        have S5 := Lib.hid (S4.out.stay hk)
        have T5 := Lib.hid (T4.out.stay hk)
        have R5 := Lib.hid (R4.out.stay hk)
        have X5 := Lib.hid (X4.out.stay hk)
        have HK5 := Lib.hid (HK4.out.trans hk (by simp))
        clear S4 T4 R4 X4 HK4
        clear hk
        go_wp2
        go_ret
        exact ⟨rfl, HK5.out⟩
      · have ho' : Nt.fireB xs (c : Int) (Nt.nats ks) = false := by simpa using ho
        have HF := Lib.hid (Nt.stepOf_no ho')
        clear ho ho'
        go_wp2_with fail
        refine (iFireStep_any _ _ _ _ _ _ _ _ S2.out T2.out).mono ?_
        rintro e w3 ⟨u3, rfl, hs, hk⟩
        rw [HF.out] at hs
        have X3 := Lib.hid hs
        obtain ⟨bX, capX, rfl, _, _, _⟩ := hs.any
        have S3 := Lib.hid (S2.out.stay hk)
        have T3 := Lib.hid (T2.out.stay hk)
        have R3 := Lib.hid (R2.out.stay hk)
        have HK3 := Lib.hid (HK2.out.trans hk (by simp))
        clear S2 T2 R2 HK2
        clear hs hk
        go_wp2_with fail
        refine (alive_any _).mono ?_
        rintro e w4 ⟨rfl, hk⟩
        have S4 := Lib.hid (S3.out.stay hk)
        have T4 := Lib.hid (T3.out.stay hk)
        have R4 := Lib.hid (R3.out.stay hk)
        have X4 := Lib.hid (X3.out.stay hk)
        have HK4 := Lib.hid (HK3.out.trans hk (by simp))
        clear S3 T3 R3 X3 HK3
        clear hk
        go_wp2
        go_ret
        exact ⟨rfl, HK4.out⟩
  · have hst1 : Nt.stB c0 ys = false := by simpa using hst0
    have HC := Lib.hid (Nt.countsOf_no hst1)
    obtain ⟨bS, capS, rfl, _, _, _⟩ := hs.any
    obtain ⟨bT, capT, rfl, _, _, _⟩ := ht.any
    have hc0 : ((0 : Int) != c0) = true := by simp; omega
    clear hs ht hst0 hst1 hl1 hl2
    go_wp2_with fail
    refine (iCounts_any _ _ _ _ _ T1.out).mono ?_
    rintro e w2 ⟨u2, rfl, hs, hk⟩
    rw [HC.out] at hs
    have R2 := Lib.hid hs
    obtain ⟨bR, capR, rfl, _, _, _⟩ := hs.any
    have S2 := Lib.hid (S1.out.stay hk)
    have T2 := Lib.hid (T1.out.stay hk)
    have HK2 := Lib.hid (HK.out.trans hk (by simp))
    clear S1 T1 HK
    clear hs hk
    go_wp2_with fail
    refine (alive_any _).mono ?_
    rintro e w3 ⟨rfl, hk⟩
    have S3 := Lib.hid (S2.out.stay hk)
    have T3 := Lib.hid (T2.out.stay hk)
    have R3 := Lib.hid (R2.out.stay hk)
    have HK3 := Lib.hid (HK2.out.trans hk (by simp))
    clear S2 T2 R2 HK2
    clear hk
    go_wp2
    go_ret
    exact ⟨rfl, HK3.out⟩
end Go.Proofs.Ytahjplaidkibpaa
