/-
  The law FireStep, walked.
-/
import Derived.Test.YtahjplaidkibpaaDC
import Derived.Test.YtahjplaidkibpaaL1
import Derived.Test.YtahjplaidkibpaaFA
import Derived.Test.YtahjplaidkibpaaNC
namespace Go.Proofs.Ytahjplaidkibpaa
open Go.RowKit

theorem ArgB.stay {w w' : World} {v : Value} (h : ArgB w v) (k : Kept [] w w') : ArgB w' v := by
  obtain ⟨a, n, cap, rfl, h1, h2, hc⟩ := h
  refine ⟨a, n, cap, rfl, h1, h2, fun j hj => ?_⟩
  obtain ⟨b, off, u, rfl, hb, hu, hcell⟩ := hc j hj
  exact ⟨b, off, u, rfl, Nat.lt_of_lt_of_le hb k.size, hu, (k.cell (p := ⟨b, off + j, none⟩) hb (by simp)).trans hcell⟩

set_option maxHeartbeats 4000000 in
set_option maxRecDepth 100000 in
theorem FnFireStep_calls (w : World) (v v' : Value) (ha : ArgB w v) (ha' : ArgB w v') :
    Calls Try.prog 3 #[v, v'] w fun e w' => e = .returned (.bool true) ∧ Kept [] w w' := by
  have HA := Lib.hid ha
  have HA' := Lib.hid ha'
  obtain ⟨a, len, cap, rfl, hlc, hcm, _⟩ := ha
  obtain ⟨a', len', cap', rfl, hlc', hcm', _⟩ := ha'
  by_cases hbig : 1048576 < len
  · have hb : (1048576 : Int) < (len : Int) := by omega
    clear hbig
    go_enter Try.func3, Try.ntmps3
    go_wp2
    go_ret
    exact ⟨rfl, Kept.refl _ _⟩
  have hb : ¬ (1048576 : Int) < (len : Int) := by omega
  clear hbig
  by_cases hbig : 1048576 < len'
  · have hb' : (1048576 : Int) < (len' : Int) := by omega
    clear hbig
    go_enter Try.func3, Try.ntmps3
    go_wp2
    go_ret
    exact ⟨rfl, Kept.refl _ _⟩
  have hb' : ¬ (1048576 : Int) < (len' : Int) := by omega
  clear hbig
  go_enter Try.func3, Try.ntmps3
  go_wp2_with fail
  refine (drawFireStep_any _ _ HA.out).mono ?_
  rintro e w1 ⟨u, xs, v, ys, c0, rfl, hc3, hc5, hs, ht, hl1, hl2, hk⟩
  have S1 := Lib.hid hs
  have T1 := Lib.hid ht
  have HK := Lib.hid hk
  clear hk hb hb'
  by_cases ho : Nt.fireB xs c0 ys = true
  · obtain ⟨ns, c, ks, rfl, rfl, rfl, ok, st, hl⟩ := Nt.fireB_ok ho
    obtain ⟨n, hn⟩ : ∃ n, n = ks.length := ⟨_, rfl⟩
    have hp := st.some
    have h6 := st.few
    have c3 := st.c3
    have c5 := st.c5
    have HOK := Lib.hid ok
    have HST := Lib.hid st
    have HL := Lib.hid hl
    have HN := Lib.hid hn
    have HF := Lib.hid (Nt.stepOf_ok ok st hl)
    have HRL : Hid ((Nt.step ns c ks).length = n) := Lib.hid (by rw [Nt.step_length, hn])
    have HSS := Lib.hid (Nt.step_st ns st)
    have HYES := Lib.hid (Nt.st_stB (Nt.step_st ns st))
    have HR : Hid (Nt.stepOf (Nt.nats ns) (c : Int) (List.replicate n 0) = List.replicate n 0) := Lib.hid (by
      have e : List.replicate n (0 : Int) = Nt.nats (Nt.rest n) := (nats_zeros n).symm
      rw [e, Nt.stepOf_ok ok (Nt.rest_st (n := n) st.c3 st.c5 (by omega) (by omega)) (by rw [Nt.rest_length]; omega), Nt.step_rest])
    have HNL : Hid ((Nt.nats ns).length = n) := Lib.hid (by rw [Nt.nats_length]; omega)
    have HKL : Hid ((Nt.nats ks).length = n) := Lib.hid (by rw [Nt.nats_length]; omega)
    rw [← hn] at hp h6
    have hne0 : ((n : Int) == 0) = false := beq_eq_false_iff_ne.2 (by omega)
    obtain ⟨gS, capS, rfl, _, _⟩ := hs.row (n := n) (by omega) hp
    obtain ⟨gT, capT, rfl, _, _⟩ := ht.row hn.symm hp
    clear hs ht ok st hl hn ho hl1 hl2 hc3 hc5
    go_wp2_with fail
    refine (iFireStep_any _ _ _ _ _ _ _ _ S1.out T1.out).mono ?_
    rintro e w2 ⟨u2, rfl, hs, hk⟩
    rw [HF.out] at hs
    have X2 := Lib.hid hs
    obtain ⟨gX, capX, rfl, hgX, hcX⟩ := hs.row HRL.out hp
    clear hgX hcX
    have S2 := Lib.hid (S1.out.stay hk)
    have T2 := Lib.hid (T1.out.stay hk)
    have HK2 := Lib.hid (HK.out.trans hk (by simp))
    clear S1 T1 HK
    clear hs hk
    go_wp2_with fail
    refine (sFireStep_any _ _ _ _ _ _ _ _ S2.out T2.out).mono ?_
    rintro e w3 ⟨u3, rfl, hs, hk⟩
    rw [HF.out] at hs
    have Y3 := Lib.hid hs
    have S3 := Lib.hid (S2.out.stay hk)
    have T3 := Lib.hid (T2.out.stay hk)
    have X3 := Lib.hid (X2.out.stay hk)
    have HK3 := Lib.hid (HK2.out.trans hk (by simp))
    clear S2 T2 X2 HK2
    clear hs hk
    go_wp2_with fail
    refine (sameInts_any _ _ _ _ _ _ _ X3.out Y3.out).mono ?_
    rintro e w4 ⟨rfl, hq⟩
    rw [dec_of rfl]
    have hk := hq.kept
    have S4 := Lib.hid (S3.out.stay hk)
    have T4 := Lib.hid (T3.out.stay hk)
    have X4 := Lib.hid (X3.out.stay hk)
    have Y4 := Lib.hid (Y3.out.stay hk)
    have HK4 := Lib.hid (HK3.out.trans hk (by simp))
    clear S3 T3 X3 Y3 HK3
    clear hk hq
    clear Y4
    go_wp2_with (at_make; refine make_int _ n rfl _ _ rfl rfl rfl ?_ ?_)
    · omega
    · intro w5 hs hk _
      have R5 := Lib.hid hs
      have S5 := Lib.hid (S4.out.stay hk)
      have T5 := Lib.hid (T4.out.stay hk)
      have X5 := Lib.hid (X4.out.stay hk)
      have HK5 := Lib.hid (HK4.out.trans hk (by simp))
      clear S4 T4 X4 HK4
      clear hs hk
      go_wp2_with fail
      refine (iStateOk_any _ _ _ _ _ X5.out).mono ?_
      rintro e w' ⟨rfl, rfl⟩
      rw [HYES.out]
      go_wp2_with fail
      refine (iFireStep_any _ _ _ _ _ _ _ _ S5.out R5.out).mono ?_
      rintro e w6 ⟨u6, rfl, hs, hk⟩
      rw [HR.out] at hs
      have Z6 := Lib.hid hs
      have S6 := Lib.hid (S5.out.stay hk)
      have T6 := Lib.hid (T5.out.stay hk)
      have X6 := Lib.hid (X5.out.stay hk)
      have R6 := Lib.hid (R5.out.stay hk)
      have HK6 := Lib.hid (HK5.out.trans hk (by simp))
      clear S5 T5 X5 R5 HK5
      clear hs hk
      go_wp2_with fail
      refine (sameInts_any _ _ _ _ _ _ _ Z6.out R6.out).mono ?_
      rintro e w7 ⟨rfl, hq⟩
      rw [dec_of rfl]
      have hk := hq.kept
      have S7 := Lib.hid (S6.out.stay hk)
      have T7 := Lib.hid (T6.out.stay hk)
      have X7 := Lib.hid (X6.out.stay hk)
      have R7 := Lib.hid (R6.out.stay hk)
      have Z7 := Lib.hid (Z6.out.stay hk)
      have HK7 := Lib.hid (HK6.out.trans hk (by simp))
      clear S6 T6 X6 R6 Z6 HK6
      clear hk hq
      clear Z7
      clear R7
      go_wp2_with fail
      refine (drawNamedNet_any _ _ (HA'.out.stay HK7.out)).mono ?_
      rintro e w8 ⟨ud, xd, vd, zs, rfl, _, hs, _, hk⟩
      have O8 := Lib.hid hs
      obtain ⟨bO, capO, rfl, _, _, _⟩ := hs.any
      have S8 := Lib.hid (S7.out.stay hk)
      have T8 := Lib.hid (T7.out.stay hk)
      have X8 := Lib.hid (X7.out.stay hk)
      have HK8 := Lib.hid (HK7.out.trans hk (by simp))
      clear S7 T7 X7 HK7
      clear hs hk
      by_cases hord : Nt.ordB n zs = true
      · obtain ⟨os, rfl, ord⟩ := Nt.ordB_ord hord
        have ord1 : Nt.Ord ns.length os := by have h1 := HN.out; have h2 := HL.out; rw [← h2, ← h1]; exact ord
        have ord2 : Nt.Ord ks.length os := by have h1 := HN.out; rw [← h1]; exact ord
        have ord3 : Nt.Ord (Nt.step ns c ks).length os := by rw [HRL.out]; exact ord
        have HC1 := Lib.hid (Nt.canName_yes HOK.out ord1)
        have HC2 := Lib.hid (Nt.canNameSt_yes HST.out ord2)
        have HC3 := Lib.hid (Nt.canNameSt_yes HSS.out ord3)
        have HL1 := Lib.hid (Nt.namedL_ok HOK.out ord1)
        have HL2 := Lib.hid (Nt.namedStOf_ok HST.out ord2)
        have HL3 := Lib.hid (Nt.namedStOf_ok HSS.out ord3)
        have HSN : Hid (Nt.stepOf (Nt.nats (Nt.named ns os)) (c : Int) (Nt.nats (Nt.namedSt ks os)) = Nt.nats (Nt.namedSt (Nt.step ns c ks) os)) := Lib.hid (by
          rw [Nt.stepOf_ok (Nt.named_ok HOK.out ord1) (Nt.namedSt_st HST.out ord2) (by rw [Nt.namedSt_length, Nt.named_length]; exact HL.out), Nt.step_named ord1 HL.out])
        clear ord ord1 ord2 ord3 hord
        go_wp2_with fail
        refine (iNamed_any _ _ _ _ _ _ _ S8.out O8.out).mono ?_
        rintro e w9 ⟨u9, rfl, hs, hk⟩
        rw [HC1.out]
        rw [HL1.out] at hs
        have P9 := Lib.hid hs
        have S9 := Lib.hid (S8.out.stay hk)
        have T9 := Lib.hid (T8.out.stay hk)
        have X9 := Lib.hid (X8.out.stay hk)
        have O9 := Lib.hid (O8.out.stay hk)
        have HK9 := Lib.hid (HK8.out.trans hk (by simp))
        clear S8 T8 X8 O8 HK8
        clear hs hk
        go_wp2_with fail
        refine (iNamedSt_any _ _ _ _ _ _ _ _ T9.out O9.out).mono ?_
        rintro e w10 ⟨u10, rfl, hs, hk⟩
        rw [HC2.out]
        rw [HL2.out] at hs
        have Q10 := Lib.hid hs
        have S10 := Lib.hid (S9.out.stay hk)
        have T10 := Lib.hid (T9.out.stay hk)
        have X10 := Lib.hid (X9.out.stay hk)
        have O10 := Lib.hid (O9.out.stay hk)
        have P10 := Lib.hid (P9.out.stay hk)
        have HK10 := Lib.hid (HK9.out.trans hk (by simp))
        clear S9 T9 X9 O9 P9 HK9
        clear hs hk
        go_wp2_with fail
        refine (iNamedSt_any _ _ _ _ _ _ _ _ X10.out O10.out).mono ?_
        rintro e w11 ⟨u11, rfl, hs, hk⟩
        rw [HC3.out]
        rw [HL3.out] at hs
        have V11 := Lib.hid hs
        have S11 := Lib.hid (S10.out.stay hk)
        have T11 := Lib.hid (T10.out.stay hk)
        have X11 := Lib.hid (X10.out.stay hk)
        have O11 := Lib.hid (O10.out.stay hk)
        have P11 := Lib.hid (P10.out.stay hk)
        have Q11 := Lib.hid (Q10.out.stay hk)
        have HK11 := Lib.hid (HK10.out.trans hk (by simp))
        clear S10 T10 X10 O10 P10 Q10 HK10
        clear hs hk
        go_wp2_with fail
        refine (iFireStep_any _ _ _ _ _ _ _ _ P11.out Q11.out).mono ?_
        rintro e w12 ⟨u12, rfl, hs, hk⟩
        rw [HSN.out] at hs
        have Z12 := Lib.hid hs
        have S12 := Lib.hid (S11.out.stay hk)
        have T12 := Lib.hid (T11.out.stay hk)
        have X12 := Lib.hid (X11.out.stay hk)
        have O12 := Lib.hid (O11.out.stay hk)
        have P12 := Lib.hid (P11.out.stay hk)
        have Q12 := Lib.hid (Q11.out.stay hk)
        have V12 := Lib.hid (V11.out.stay hk)
        have HK12 := Lib.hid (HK11.out.trans hk (by simp))
        clear S11 T11 X11 O11 P11 Q11 V11 HK11
        clear hs hk
        go_wp2_with fail
        refine (sameInts_any _ _ _ _ _ _ _ Z12.out V12.out).mono ?_
        rintro e w13 ⟨rfl, hq⟩
        rw [dec_of rfl]
        have hk := hq.kept
        have S13 := Lib.hid (S12.out.stay hk)
        have T13 := Lib.hid (T12.out.stay hk)
        have X13 := Lib.hid (X12.out.stay hk)
        have O13 := Lib.hid (O12.out.stay hk)
        have P13 := Lib.hid (P12.out.stay hk)
        have Q13 := Lib.hid (Q12.out.stay hk)
        have V13 := Lib.hid (V12.out.stay hk)
        have Z13 := Lib.hid (Z12.out.stay hk)
        have HK13 := Lib.hid (HK12.out.trans hk (by simp))
        clear S12 T12 X12 O12 P12 Q12 V12 Z12 HK12
        clear hk hq
        go_wp2
        go_ret
        exact ⟨rfl, HK13.out⟩
      · have hno : Nt.ordB n zs = false := by simpa using hord
        have HC1 := Lib.hid (Nt.canName_no2 (xs := Nt.nats ns) (ys := zs) (by rw [HNL.out]; exact hno))
        have HC2 := Lib.hid (Nt.canNameSt_no2 (kinds := (c : Int)) (xs := Nt.nats ks) (ys := zs) (by rw [HKL.out]; exact hno))
        have HC3 := Lib.hid (Nt.canNameSt_no2 (kinds := (c : Int)) (xs := Nt.nats (Nt.step ns c ks)) (ys := zs) (by rw [Nt.nats_length, HRL.out]; exact hno))
        clear hord hno
        go_wp2_with fail
        refine (iNamed_any _ _ _ _ _ _ _ S8.out O8.out).mono ?_
        rintro e w9 ⟨u9, rfl, hs, hk⟩
        rw [HC1.out]
        have P9 := Lib.hid hs
        have S9 := Lib.hid (S8.out.stay hk)
        have T9 := Lib.hid (T8.out.stay hk)
        have X9 := Lib.hid (X8.out.stay hk)
        have O9 := Lib.hid (O8.out.stay hk)
        have HK9 := Lib.hid (HK8.out.trans hk (by simp))
        clear S8 T8 X8 O8 HK8
        clear hs hk
        go_wp2_with fail
        refine (iNamedSt_any _ _ _ _ _ _ _ _ T9.out O9.out).mono ?_
        rintro e w10 ⟨u10, rfl, hs, hk⟩
        rw [HC2.out]
        have Q10 := Lib.hid hs
        have S10 := Lib.hid (S9.out.stay hk)
        have T10 := Lib.hid (T9.out.stay hk)
        have X10 := Lib.hid (X9.out.stay hk)
        have O10 := Lib.hid (O9.out.stay hk)
        have P10 := Lib.hid (P9.out.stay hk)
        have HK10 := Lib.hid (HK9.out.trans hk (by simp))
        clear S9 T9 X9 O9 P9 HK9
        clear hs hk
        go_wp2_with fail
        refine (iNamedSt_any _ _ _ _ _ _ _ _ X10.out O10.out).mono ?_
        rintro e w11 ⟨u11, rfl, hs, hk⟩
        rw [HC3.out]
        have V11 := Lib.hid hs
        have S11 := Lib.hid (S10.out.stay hk)
        have T11 := Lib.hid (T10.out.stay hk)
        have X11 := Lib.hid (X10.out.stay hk)
        have O11 := Lib.hid (O10.out.stay hk)
        have P11 := Lib.hid (P10.out.stay hk)
        have Q11 := Lib.hid (Q10.out.stay hk)
        have HK11 := Lib.hid (HK10.out.trans hk (by simp))
        clear S10 T10 X10 O10 P10 Q10 HK10
        clear hs hk
        go_wp2
        go_ret
        exact ⟨rfl, HK11.out⟩
  · have ho' : Nt.fireB xs c0 ys = false := by simpa using ho
    have HF := Lib.hid (Nt.stepOf_no ho')
    clear ho'
    obtain ⟨bS, capS, rfl, _, _, _⟩ := hs.any
    obtain ⟨bT, capT, rfl, _, _, _⟩ := ht.any
    clear hs ht ho hl1 hl2 hc3 hc5
    go_wp2_with fail
    refine (iFireStep_any _ _ _ _ _ _ _ _ S1.out T1.out).mono ?_
    rintro e w2 ⟨u2, rfl, hs, hk⟩
    rw [HF.out] at hs
    have X2 := Lib.hid hs
    obtain ⟨bX, capX, rfl, _, _, _⟩ := hs.any
    have S2 := Lib.hid (S1.out.stay hk)
    have T2 := Lib.hid (T1.out.stay hk)
    have HK2 := Lib.hid (HK.out.trans hk (by simp))
    clear S1 T1 HK
    clear hs hk
    go_wp2_with fail
    refine (sFireStep_any _ _ _ _ _ _ _ _ S2.out T2.out).mono ?_
    rintro e w3 ⟨u3, rfl, hs, hk⟩
    rw [HF.out] at hs
    have Y3 := Lib.hid hs
    have S3 := Lib.hid (S2.out.stay hk)
    have T3 := Lib.hid (T2.out.stay hk)
    have X3 := Lib.hid (X2.out.stay hk)
    have HK3 := Lib.hid (HK2.out.trans hk (by simp))
    clear S2 T2 X2 HK2
    clear hs hk
    go_wp2_with fail
    refine (sameInts_any _ _ _ _ _ _ _ X3.out Y3.out).mono ?_
    rintro e w4 ⟨rfl, hq⟩
    rw [dec_of rfl]
    have hk := hq.kept
    have S4 := Lib.hid (S3.out.stay hk)
    have T4 := Lib.hid (T3.out.stay hk)
    have X4 := Lib.hid (X3.out.stay hk)
    have Y4 := Lib.hid (Y3.out.stay hk)
    have HK4 := Lib.hid (HK3.out.trans hk (by simp))
    clear S3 T3 X3 Y3 HK3
    clear hk hq
    go_wp2_with fail
    refine (alive_any _).mono ?_
    rintro e w5 ⟨rfl, hk⟩
    have S5 := Lib.hid (S4.out.stay hk)
    have T5 := Lib.hid (T4.out.stay hk)
    have X5 := Lib.hid (X4.out.stay hk)
    have Y5 := Lib.hid (Y4.out.stay hk)
    have HK5 := Lib.hid (HK4.out.trans hk (by simp))
    clear S4 T4 X4 Y4 HK4
    clear hk
    go_wp2
    go_ret
    exact ⟨rfl, HK5.out⟩
end Go.Proofs.Ytahjplaidkibpaa
