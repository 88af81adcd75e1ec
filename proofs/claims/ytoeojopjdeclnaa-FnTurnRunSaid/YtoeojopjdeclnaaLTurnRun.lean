/-
  The law TurnRun, walked.
-/
import Derived.Test.YtoeojopjdeclnaaD15
import Derived.Test.YtoeojopjdeclnaaL1
import Derived.Test.YtoeojopjdeclnaaTB
import Derived.Test.YtoeojopjdeclnaaTI
namespace Go.Proofs.Ytoeojopjdeclnaa
open Go.RowKit

set_option maxHeartbeats 4000000 in
set_option maxRecDepth 100000 in
theorem FnTurnRun_calls (w : World) (v : Value) (ha : ArgB w v) :
    Calls Try.prog 4 #[v] w fun e w' => e = .returned (.bool true) ∧ Kept [] w w' := by
  have HA := Lib.hid ha
  obtain ⟨a, len, cap, rfl, hlc, hcm, _⟩ := ha
  by_cases hbig : 1048576 < len
  · have hb : (1048576 : Int) < (len : Int) := by omega
    clear hbig
    go_enter Try.func4, Try.ntmps4
    go_wp2
    go_ret
    exact ⟨rfl, Kept.refl _ _⟩
  have hb : ¬ (1048576 : Int) < (len : Int) := by omega
  clear hbig
  go_enter Try.func4, Try.ntmps4
  go_wp2_with fail
  refine (drawTurnRun_any _ _ HA.out).mono ?_
  rintro e w1 ⟨u, xs, v, ys, s0, rfl, hs, ht, hl1, hl2, hs1, hs2, hk⟩
  have S1 := Lib.hid hs
  have T1 := Lib.hid ht
  have HK := Lib.hid hk
  clear hk hb
  by_cases ho : (Nt.fireB xs 3 ys && Nt.stepsB s0) = true
  · obtain ⟨h1, h2⟩ := (Bool.and_eq_true _ _).mp ho
    obtain ⟨ns, ks, rfl, rfl, ok, st, hl⟩ := Nt.fireB3_ok h1
    obtain ⟨t, rfl, ht60⟩ := Nt.stepsB_ok h2
    clear h1 h2 hs1 hs2
    obtain ⟨n, hn⟩ : ∃ n, n = ks.length := ⟨_, rfl⟩
    have hp := st.some
    have h6 := st.few
    have HOK := Lib.hid ok
    have HST := Lib.hid st
    have HL := Lib.hid hl
    have HN := Lib.hid hn
    have HF := Lib.hid (Nt.trunOf_ok ok st hl ht60)
    obtain ⟨h, hh⟩ : ∃ h, h = t / 2 := ⟨_, rfl⟩
    have f1 : (t : Int).tdiv 2 = (h : Int) := by rw [hh]; exact tdiv_nat t 2
    have hht : h ≤ t := by omega
    clear hh
    have HFH := Lib.hid (Nt.trunOf_ok (t := h) ok st hl (by omega))
    have HFR : Hid (Nt.trunOf (Nt.nats ns) (Nt.nats (Nt.turns ns ks h)) ((t : Int) - (h : Int)) = Nt.nats (Nt.turns ns ks t)) := Lib.hid (by
      rw [show (t : Int) - (h : Int) = ((t - h : Nat) : Int) by omega, Nt.trunOf_ok ok (Nt.turns_st ns st h) (by rw [Nt.turns_length]; exact hl) (by omega), ← Nt.turns_add, show h + (t - h) = t by omega])
    have HF0 : Hid (Nt.trunOf (Nt.nats ns) (Nt.nats ks) 0 = Nt.nats ks) := Lib.hid (Nt.trunOf_ok (t := 0) ok st hl (by omega))
    have HRL : Hid ((Nt.turns ns ks t).length = n) := Lib.hid (by rw [Nt.turns_length, hn])
    rw [← hn] at hp h6
    have hne0 : ((n : Int) == 0) = false := beq_eq_false_iff_ne.2 (by omega)
    obtain ⟨gS, capS, rfl, _, _⟩ := hs.row (n := n) (by omega) hp
    obtain ⟨gT, capT, rfl, _, _⟩ := ht.row hn.symm hp
    clear hs ht ok st hl hn ho hl1 hl2
    go_wp2_with fail
    refine (iTurnRun_any _ _ _ _ _ _ _ _ S1.out T1.out).mono ?_
    rintro e w2 ⟨u2, rfl, hs, hk⟩
    rw [HF.out] at hs
    have X2 := Lib.hid hs
    obtain ⟨gX, capX, rfl, hgX, hcX⟩ := hs.row HRL.out hp
    clear hgX hcX
    have S2 := Lib.hid (S1.out.stay hk)
    have T2 := Lib.hid (T1.out.stay hk)
    have HK2 := Lib.hid (HK.out.trans hk (by simp))
    clear S1 T1 HK
    clear hs hk
    go_wp2_with fail
    refine (sTurnRun_any _ _ _ _ _ _ _ _ S2.out T2.out).mono ?_
    rintro e w3 ⟨u3, rfl, hs, hk⟩
    rw [HF.out] at hs
    have Y3 := Lib.hid hs
    have S3 := Lib.hid (S2.out.stay hk)
    have T3 := Lib.hid (T2.out.stay hk)
    have X3 := Lib.hid (X2.out.stay hk)
    have HK3 := Lib.hid (HK2.out.trans hk (by simp))
    clear S2 T2 X2 HK2
    clear hs hk
    go_wp2_with fail
    refine (sameInts_any _ _ _ _ _ _ _ X3.out Y3.out).mono ?_
    rintro e w4 ⟨rfl, hq⟩
    rw [dec_of rfl]
    have hk := hq.kept
    have S4 := Lib.hid (S3.out.stay hk)
    have T4 := Lib.hid (T3.out.stay hk)
    have X4 := Lib.hid (X3.out.stay hk)
    have Y4 := Lib.hid (Y3.out.stay hk)
    have HK4 := Lib.hid (HK3.out.trans hk (by simp))
    clear S3 T3 X3 Y3 HK3
    clear hk hq
    clear Y4
    go_wp2_with fail
    refine (iTurnRun_any _ _ _ _ _ _ _ _ S4.out T4.out).mono ?_
    rintro e w5 ⟨u5, rfl, hs, hk⟩
    rw [HFH.out] at hs
    have H5 := Lib.hid hs
    have S5 := Lib.hid (S4.out.stay hk)
    have T5 := Lib.hid (T4.out.stay hk)
    have X5 := Lib.hid (X4.out.stay hk)
    have HK5 := Lib.hid (HK4.out.trans hk (by simp))
    clear S4 T4 X4 HK4
    clear hs hk
    go_wp2_with fail
    refine (iTurnRun_any _ _ _ _ _ _ _ _ S5.out H5.out).mono ?_
    rintro e w6 ⟨u6, rfl, hs, hk⟩
    rw [HFR.out] at hs
    have Z6 := Lib.hid hs
    have S6 := Lib.hid (S5.out.stay hk)
    have T6 := Lib.hid (T5.out.stay hk)
    have X6 := Lib.hid (X5.out.stay hk)
    have H6 := Lib.hid (H5.out.stay hk)
    have HK6 := Lib.hid (HK5.out.trans hk (by simp))
    clear S5 T5 X5 H5 HK5
    clear hs hk
    go_wp2_with fail
    refine (sameInts_any _ _ _ _ _ _ _ Z6.out X6.out).mono ?_
    rintro e w7 ⟨rfl, hq⟩
    rw [dec_of rfl]
    have hk := hq.kept
    have S7 := Lib.hid (S6.out.stay hk)
    have T7 := Lib.hid (T6.out.stay hk)
    have X7 := Lib.hid (X6.out.stay hk)
    have H7 := Lib.hid (H6.out.stay hk)
    have Z7 := Lib.hid (Z6.out.stay hk)
    have HK7 := Lib.hid (HK6.out.trans hk (by simp))
    clear S6 T6 X6 H6 Z6 HK6
    clear hk hq
    clear Z7
    clear H7
    clear X7
    go_wp2_with fail
    refine (iTurnRun_any _ _ _ _ _ _ _ _ S7.out T7.out).mono ?_
    rintro e w8 ⟨u8, rfl, hs, hk⟩
    rw [HF0.out] at hs
    have V8 := Lib.hid hs
    have S8 := Lib.hid (S7.out.stay hk)
    have T8 := Lib.hid (T7.out.stay hk)
    have HK8 := Lib.hid (HK7.out.trans hk (by simp))
    clear S7 T7 HK7
    clear hs hk
    go_wp2_with fail
    refine (sameInts_any _ _ _ _ _ _ _ V8.out T8.out).mono ?_
    rintro e w9 ⟨rfl, hq⟩
    rw [dec_of rfl]
    have hk := hq.kept
    have S9 := Lib.hid (S8.out.stay hk)
    have T9 := Lib.hid (T8.out.stay hk)
    have V9 := Lib.hid (V8.out.stay hk)
    have HK9 := Lib.hid (HK8.out.trans hk (by simp))
    clear S8 T8 V8 HK8
    clear hk hq
    go_wp2
    go_ret
    exact ⟨rfl, HK9.out⟩
  · have HF : Hid (Nt.trunOf xs ys s0 = []) := Lib.hid (by
      cases h1 : Nt.fireB xs 3 ys
      · exact Nt.trunOf_no1 h1
      · exact Nt.trunOf_no2 (by rw [h1] at ho; simpa using ho))
    obtain ⟨bS, capS, rfl, _, _, _⟩ := hs.any
    obtain ⟨bT, capT, rfl, _, _, _⟩ := ht.any
    clear hs ht ho hl1 hl2
    go_wp2_with fail
    refine (iTurnRun_any _ _ _ _ _ _ _ _ S1.out T1.out).mono ?_
    rintro e w2 ⟨u2, rfl, hs, hk⟩
    rw [HF.out] at hs
    have X2 := Lib.hid hs
    obtain ⟨bX, capX, rfl, _, _, _⟩ := hs.any
    have S2 := Lib.hid (S1.out.stay hk)
    have T2 := Lib.hid (T1.out.stay hk)
    have HK2 := Lib.hid (HK.out.trans hk (by simp))
    clear S1 T1 HK
    clear hs hk
    go_wp2_with fail
    refine (sTurnRun_any _ _ _ _ _ _ _ _ S2.out T2.out).mono ?_
    rintro e w3 ⟨u3, rfl, hs, hk⟩
    rw [HF.out] at hs
    have Y3 := Lib.hid hs
    have S3 := Lib.hid (S2.out.stay hk)
    have T3 := Lib.hid (T2.out.stay hk)
    have X3 := Lib.hid (X2.out.stay hk)
    have HK3 := Lib.hid (HK2.out.trans hk (by simp))
    clear S2 T2 X2 HK2
    clear hs hk
    go_wp2_with fail
    refine (sameInts_any _ _ _ _ _ _ _ X3.out Y3.out).mono ?_
    rintro e w4 ⟨rfl, hq⟩
    rw [dec_of rfl]
    have hk := hq.kept
    have S4 := Lib.hid (S3.out.stay hk)
    have T4 := Lib.hid (T3.out.stay hk)
    have X4 := Lib.hid (X3.out.stay hk)
    have Y4 := Lib.hid (Y3.out.stay hk)
    have HK4 := Lib.hid (HK3.out.trans hk (by simp))
    clear S3 T3 X3 Y3 HK3
    clear hk hq
    go_wp2_with fail
    refine (alive_any _).mono ?_
    rintro e w5 ⟨rfl, hk⟩
    have S5 := Lib.hid (S4.out.stay hk)
    have T5 := Lib.hid (T4.out.stay hk)
    have X5 := Lib.hid (X4.out.stay hk)
    have Y5 := Lib.hid (Y4.out.stay hk)
    have HK5 := Lib.hid (HK4.out.trans hk (by simp))
    clear S4 T4 X4 Y4 HK4
    clear hk
    go_wp2
    go_ret
    exact ⟨rfl, HK5.out⟩
end Go.Proofs.Ytoeojopjdeclnaa
