/-
  The law EndsAt, walked.
-/
import Derived.Test.YtahjplaidkibpaaD14
import Derived.Test.YtahjplaidkibpaaL1
import Derived.Test.YtahjplaidkibpaaF12
namespace Go.Proofs.Ytahjplaidkibpaa
open Go.RowKit

set_option maxHeartbeats 4000000 in
set_option maxRecDepth 100000 in
theorem FnEndsAt_calls (w : World) (v : Value) (ha : ArgB w v) :
    Calls Try.prog 7 #[v] w fun e w' => e = .returned (.bool true) ∧ Kept [] w w' := by
  have HA := Lib.hid ha
  obtain ⟨a, len, cap, rfl, hlc, hcm, _⟩ := ha
  by_cases hbig : 1048576 < len
  · have hb : (1048576 : Int) < (len : Int) := by omega
    clear hbig
    go_enter Try.func7, Try.ntmps7
    go_wp2
    go_ret
    exact ⟨rfl, Kept.refl _ _⟩
  have hb : ¬ (1048576 : Int) < (len : Int) := by omega
  clear hbig
  go_enter Try.func7, Try.ntmps7
  go_wp2_with fail
  refine (drawEndsAt_any _ _ HA.out).mono ?_
  rintro e w1 ⟨u, xs, v, ys, c0, rfl, hc3, hc5, hs, ht, hl1, hl2, hk⟩
  have S1 := Lib.hid hs
  have T1 := Lib.hid ht
  have HK := Lib.hid hk
  clear hk hb
  by_cases ho : Nt.fireB xs c0 ys = true
  · obtain ⟨ns, c, ks, rfl, rfl, rfl, ok, st, hl⟩ := Nt.fireB_ok ho
    obtain ⟨n, hn⟩ : ∃ n, n = ks.length := ⟨_, rfl⟩
    have hp := st.some
    have h6 := st.few
    have c3 := st.c3
    have c5 := st.c5
    have HOK := Lib.hid ok
    have HST := Lib.hid st
    have HL := Lib.hid hl
    have HN := Lib.hid hn
    obtain ⟨m, l, hloop, hb⟩ := Nt.run_loop ns st
    have hlp := hloop.pos
    have hsm := Nt.loop_small st.c5 st.few hb
    have HLI : Hid (Nt.LoopIs (Nt.nats ns) (c : Int) (Nt.nats ks) (m : Int) (l : Int)) := Lib.hid (.inl ⟨ns, c, ks, m, l, rfl, rfl, rfl, ok, st, hl, hloop, hb, rfl, rfl⟩)
    have HLP := Lib.hid hloop
    have HRUN := Lib.hid (fun t (ht : t ≤ 60) => Nt.runOf_ok (t := t) ok st hl ht)
    have HNO1 : Hid (∀ s : Int, ¬ (0 ≤ s ∧ s ≤ 60) → Nt.runOf (Nt.nats ns) (c : Int) (Nt.nats ks) s = []) := Lib.hid (fun s h => Nt.runOf_no2 (decide_eq_false h))
    clear hloop hb
    rw [← hn] at hp h6
    have hne0 : ((n : Int) == 0) = false := beq_eq_false_iff_ne.2 (by omega)
    obtain ⟨gS, capS, rfl, _, _⟩ := hs.row (n := n) (by omega) hp
    obtain ⟨gT, capT, rfl, _, _⟩ := ht.row hn.symm hp
    clear hs ht ok st hl hn ho hl1 hl2 hc3 hc5
    by_cases h1 : l = 1
    · have HE : Hid (Nt.endsOf (m : Int) (l : Int) = (m : Int)) := Lib.hid (by unfold Nt.endsOf; rw [if_pos (by omega)])
      have HR : Hid (Nt.run ns c ks m = Nt.rest ks.length) := Lib.hid (Nt.loop_rest HST.out (by have h := HLP.out; rw [h1] at h; exact h))
      have HZ : Hid (Nt.nats (Nt.rest ks.length) = List.replicate n 0) := Lib.hid (by rw [← HN.out]; exact nats_zeros n)
      have HYN : Hid (¬ Nt.runOf (Nt.nats ns) (c : Int) (Nt.nats ks) ((m : Int) - 1) = List.replicate n 0) := Lib.hid (by
        intro e
        by_cases hm : 0 ≤ (m : Int) - 1 ∧ (m : Int) - 1 ≤ 60
        · rw [show (m : Int) - 1 = ((m - 1 : Nat) : Int) by omega, HRUN.out (m - 1) (by omega), ← HZ.out] at e
          have := (Nt.rest_loop HLP.out (Nt.nats_inj e)).2
          omega
        · rw [HNO1.out _ hm] at e
          have := congrArg List.length e
          simp at this
          omega)
      have hl1 : (l : Int) = 1 := by omega
      subst h1
      clear hl1
      go_wp2_with fail
      refine (iEnds_any _ _ _ HLI.out _ _ _ _ _ S1.out T1.out).mono ?_
      rintro e w2 ⟨rfl, hk⟩
      rw [HE.out]
      have S2 := Lib.hid (S1.out.stay hk)
      have T2 := Lib.hid (T1.out.stay hk)
      have HK2 := Lib.hid (HK.out.trans hk (by simp))
      clear S1 T1 HK
      clear hk
      go_wp2_with fail
      refine (sEnds_any _ _ _ HLI.out _ _ _ _ _ S2.out T2.out).mono ?_
      rintro e w3 ⟨rfl, hk⟩
      rw [HE.out]
      have S3 := Lib.hid (S2.out.stay hk)
      have T3 := Lib.hid (T2.out.stay hk)
      have HK3 := Lib.hid (HK2.out.trans hk (by simp))
      clear S2 T2 HK2
      clear hk
      go_wp2_with fail
      refine (iLoop_any _ _ _ HLI.out _ _ _ _ _ S3.out T3.out).mono ?_
      rintro e w4 ⟨rfl, hk⟩
      have S4 := Lib.hid (S3.out.stay hk)
      have T4 := Lib.hid (T3.out.stay hk)
      have HK4 := Lib.hid (HK3.out.trans hk (by simp))
      clear S3 T3 HK3
      clear hk
      go_wp2_with (at_make; refine make_int _ n rfl _ _ rfl rfl rfl ?_ ?_)
      · omega
      · intro w5 hs hk _
        have R5 := Lib.hid hs
        have S5 := Lib.hid (S4.out.stay hk)
        have T5 := Lib.hid (T4.out.stay hk)
        have HK5 := Lib.hid (HK4.out.trans hk (by simp))
        clear S4 T4 HK4
        clear hs hk
        by_cases hm : m ≤ 60
        · have HX : Hid (Nt.runOf (Nt.nats ns) (c : Int) (Nt.nats ks) (m : Int) = List.replicate n 0) := Lib.hid (by rw [HRUN.out m hm, HR.out, HZ.out])
          go_wp2_with fail
          refine (iFireRun_any _ _ _ _ _ _ _ _ _ S5.out T5.out).mono ?_
          rintro e w6 ⟨u6, rfl, hs, hk⟩
          rw [HX.out] at hs
          have X6 := Lib.hid hs
          obtain ⟨gX, capX, rfl, _, _⟩ := hs.shape (n := n) (by simp) (by omega)
          have S6 := Lib.hid (S5.out.stay hk)
          have T6 := Lib.hid (T5.out.stay hk)
          have R6 := Lib.hid (R5.out.stay hk)
          have HK6 := Lib.hid (HK5.out.trans hk (by simp))
          clear S5 T5 R5 HK5
          clear hs hk
          go_wp2_with fail
          refine (iFireRun_any _ _ _ _ _ _ _ _ _ S6.out T6.out).mono ?_
          rintro e w7 ⟨u7, rfl, hs, hk⟩
          have Y7 := Lib.hid hs
          have S7 := Lib.hid (S6.out.stay hk)
          have T7 := Lib.hid (T6.out.stay hk)
          have R7 := Lib.hid (R6.out.stay hk)
          have X7 := Lib.hid (X6.out.stay hk)
          have HK7 := Lib.hid (HK6.out.trans hk (by simp))
          clear S6 T6 R6 X6 HK6
          clear hs hk
          go_wp2_with fail
          refine (sameInts_any _ _ _ _ _ _ _ X7.out R7.out).mono ?_
          rintro e w8 ⟨rfl, hq⟩
          rw [dec_of rfl]
          have hk := hq.kept
          have S8 := Lib.hid (S7.out.stay hk)
          have T8 := Lib.hid (T7.out.stay hk)
          have R8 := Lib.hid (R7.out.stay hk)
          have X8 := Lib.hid (X7.out.stay hk)
          have Y8 := Lib.hid (Y7.out.stay hk)
          have HK8 := Lib.hid (HK7.out.trans hk (by simp))
          clear S7 T7 R7 X7 Y7 HK7
          clear hk hq
          go_wp2_with fail
          refine (sameInts_any _ _ _ _ _ _ _ Y8.out R8.out).mono ?_
          rintro e w9 ⟨rfl, hq⟩
          rw [dec_not HYN.out]
          have hk := hq.kept
          have S9 := Lib.hid (S8.out.stay hk)
          have T9 := Lib.hid (T8.out.stay hk)
          have R9 := Lib.hid (R8.out.stay hk)
          have X9 := Lib.hid (X8.out.stay hk)
          have Y9 := Lib.hid (Y8.out.stay hk)
          have HK9 := Lib.hid (HK8.out.trans hk (by simp))
          clear S8 T8 R8 X8 Y8 HK8
          clear hk hq
          go_wp2
          go_ret
          exact ⟨rfl, HK9.out⟩
        · have HX := Lib.hid (HNO1.out (m : Int) (by omega))
          go_wp2_with fail
          refine (iFireRun_any _ _ _ _ _ _ _ _ _ S5.out T5.out).mono ?_
          rintro e w6 ⟨u6, rfl, hs, hk⟩
          rw [HX.out] at hs
          have X6 := Lib.hid hs
          obtain ⟨bX, capX, rfl, _, _, _⟩ := hs.any
          have S6 := Lib.hid (S5.out.stay hk)
          have T6 := Lib.hid (T5.out.stay hk)
          have R6 := Lib.hid (R5.out.stay hk)
          have HK6 := Lib.hid (HK5.out.trans hk (by simp))
          clear S5 T5 R5 HK5
          clear hs hk
          go_wp2_with fail
          refine (iFireRun_any _ _ _ _ _ _ _ _ _ S6.out T6.out).mono ?_
          rintro e w7 ⟨u7, rfl, hs, hk⟩
          have Y7 := Lib.hid hs
          have S7 := Lib.hid (S6.out.stay hk)
          have T7 := Lib.hid (T6.out.stay hk)
          have R7 := Lib.hid (R6.out.stay hk)
          have X7 := Lib.hid (X6.out.stay hk)
          have HK7 := Lib.hid (HK6.out.trans hk (by simp))
          clear S6 T6 R6 X6 HK6
          clear hs hk
          go_wp2_with fail
          refine (sameInts_any _ _ _ _ _ _ _ Y7.out R7.out).mono ?_
          rintro e w8 ⟨rfl, hq⟩
          rw [dec_not HYN.out]
          have hk := hq.kept
          have S8 := Lib.hid (S7.out.stay hk)
          have T8 := Lib.hid (T7.out.stay hk)
          have R8 := Lib.hid (R7.out.stay hk)
          have X8 := Lib.hid (X7.out.stay hk)
          have Y8 := Lib.hid (Y7.out.stay hk)
          have HK8 := Lib.hid (HK7.out.trans hk (by simp))
          clear S7 T7 R7 X7 Y7 HK7
          clear hk hq
          go_wp2
          go_ret
          exact ⟨rfl, HK8.out⟩
    · have HE : Hid (Nt.endsOf (m : Int) (l : Int) = -1) := Lib.hid (by unfold Nt.endsOf; rw [if_neg (by omega)])
      have hl1 : (1 : Int) < (l : Int) := by omega
      go_wp2_with fail
      refine (iEnds_any _ _ _ HLI.out _ _ _ _ _ S1.out T1.out).mono ?_
      rintro e w2 ⟨rfl, hk⟩
      rw [HE.out]
      have S2 := Lib.hid (S1.out.stay hk)
      have T2 := Lib.hid (T1.out.stay hk)
      have HK2 := Lib.hid (HK.out.trans hk (by simp))
      clear S1 T1 HK
      clear hk
      go_wp2_with fail
      refine (sEnds_any _ _ _ HLI.out _ _ _ _ _ S2.out T2.out).mono ?_
      rintro e w3 ⟨rfl, hk⟩
      rw [HE.out]
      have S3 := Lib.hid (S2.out.stay hk)
      have T3 := Lib.hid (T2.out.stay hk)
      have HK3 := Lib.hid (HK2.out.trans hk (by simp))
      clear S2 T2 HK2
      clear hk
      go_wp2_with fail
      refine (iLoop_any _ _ _ HLI.out _ _ _ _ _ S3.out T3.out).mono ?_
      rintro e w4 ⟨rfl, hk⟩
      have S4 := Lib.hid (S3.out.stay hk)
      have T4 := Lib.hid (T3.out.stay hk)
      have HK4 := Lib.hid (HK3.out.trans hk (by simp))
      clear S3 T3 HK3
      clear hk
      go_wp2_with fail
      refine (alive_any _).mono ?_
      rintro e w5 ⟨rfl, hk⟩
      have S5 := Lib.hid (S4.out.stay hk)
      have T5 := Lib.hid (T4.out.stay hk)
      have HK5 := Lib.hid (HK4.out.trans hk (by simp))
      clear S4 T4 HK4
      clear hk
      go_wp2
      go_ret
      exact ⟨rfl, HK5.out⟩
  · have ho' : Nt.fireB xs c0 ys = false := by simpa using ho
    have HLI : Hid (Nt.LoopIs xs c0 ys (-1) (-1)) := Lib.hid (.inr ⟨ho', rfl, rfl⟩)
    have HE : Hid (Nt.endsOf (-1) (-1) = -1) := Lib.hid rfl
    obtain ⟨bS, capS, rfl, _, _, _⟩ := hs.any
    obtain ⟨bT, capT, rfl, _, _, _⟩ := ht.any
    clear hs ht ho ho' hl1 hl2 hc3 hc5
    go_wp2_with fail
    refine (iEnds_any _ _ _ HLI.out _ _ _ _ _ S1.out T1.out).mono ?_
    rintro e w2 ⟨rfl, hk⟩
    rw [HE.out]
    have S2 := Lib.hid (S1.out.stay hk)
    have T2 := Lib.hid (T1.out.stay hk)
    have HK2 := Lib.hid (HK.out.trans hk (by simp))
    clear S1 T1 HK
    clear hk
    go_wp2_with fail
    refine (sEnds_any _ _ _ HLI.out _ _ _ _ _ S2.out T2.out).mono ?_
    rintro e w3 ⟨rfl, hk⟩
    rw [HE.out]
    have S3 := Lib.hid (S2.out.stay hk)
    have T3 := Lib.hid (T2.out.stay hk)
    have HK3 := Lib.hid (HK2.out.trans hk (by simp))
    clear S2 T2 HK2
    clear hk
    go_wp2_with fail
    refine (iLoop_any _ _ _ HLI.out _ _ _ _ _ S3.out T3.out).mono ?_
    rintro e w4 ⟨rfl, hk⟩
    have S4 := Lib.hid (S3.out.stay hk)
    have T4 := Lib.hid (T3.out.stay hk)
    have HK4 := Lib.hid (HK3.out.trans hk (by simp))
    clear S3 T3 HK3
    clear hk
    go_wp2_with fail
    refine (alive_any _).mono ?_
    rintro e w5 ⟨rfl, hk⟩
    have S5 := Lib.hid (S4.out.stay hk)
    have T5 := Lib.hid (T4.out.stay hk)
    have HK5 := Lib.hid (HK4.out.trans hk (by simp))
    clear S4 T4 HK4
    clear hk
    go_wp2
    go_ret
    exact ⟨rfl, HK5.out⟩
end Go.Proofs.Ytahjplaidkibpaa
