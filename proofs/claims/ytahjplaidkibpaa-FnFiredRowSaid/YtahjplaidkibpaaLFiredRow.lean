/-
  The law FiredRow, walked.
-/
import Derived.Test.YtahjplaidkibpaaD14
import Derived.Test.YtahjplaidkibpaaL1
import Derived.Test.YtahjplaidkibpaaF8
namespace Go.Proofs.Ytahjplaidkibpaa
open Go.RowKit

set_option maxHeartbeats 4000000 in
set_option maxRecDepth 100000 in
theorem FnFiredRow_calls (w : World) (v : Value) (ha : ArgB w v) :
    Calls Try.prog 5 #[v] w fun e w' => e = .returned (.bool true) ∧ Kept [] w w' := by
  have HA := Lib.hid ha
  obtain ⟨a, len, cap, rfl, hlc, hcm, _⟩ := ha
  by_cases hbig : 1048576 < len
  · have hb : (1048576 : Int) < (len : Int) := by omega
    clear hbig
    go_enter Try.func5, Try.ntmps5
    go_wp2
    go_ret
    exact ⟨rfl, Kept.refl _ _⟩
  have hb : ¬ (1048576 : Int) < (len : Int) := by omega
  clear hbig
  go_enter Try.func5, Try.ntmps5
  go_wp2_with fail
  refine (drawFiredRow_any _ _ HA.out).mono ?_
  rintro e w1 ⟨u, xs, v, ys, c0, s0, rfl, hc3, hc5, hs, ht, hl1, hl2, hs1, hs2, hk⟩
  have S1 := Lib.hid hs
  have T1 := Lib.hid ht
  have HK := Lib.hid hk
  clear hk hb
  by_cases ho : (Nt.fireB xs c0 ys && Nt.stepsB s0) = true
  · obtain ⟨h1, h2⟩ := (Bool.and_eq_true _ _).mp ho
    obtain ⟨ns, c, ks, rfl, rfl, rfl, ok, st, hl⟩ := Nt.fireB_ok h1
    obtain ⟨t, rfl, ht60⟩ := Nt.stepsB_ok h2
    clear h1 h2 hs1 hs2
    obtain ⟨n, hn⟩ : ∃ n, n = ks.length := ⟨_, rfl⟩
    have hp := st.some
    have h6 := st.few
    have c3 := st.c3
    have c5 := st.c5
    have HOK := Lib.hid ok
    have HST := Lib.hid st
    have HL := Lib.hid hl
    have HN := Lib.hid hn
    have HF := Lib.hid (Nt.firedOf_ok ok st hl ht60)
    obtain ⟨h, hh⟩ : ∃ h, h = t / 2 := ⟨_, rfl⟩
    have f1 : (t : Int).tdiv 2 = (h : Int) := by rw [hh]; exact tdiv_nat t 2
    have hht : h ≤ t := by omega
    clear hh
    have HFH := Lib.hid (Nt.firedOf_ok (t := h) ok st hl (by omega))
    have HRH := Lib.hid (Nt.runOf_ok (t := h) ok st hl (by omega))
    have HFR : Hid (Nt.firedOf (Nt.nats ns) (c : Int) (Nt.nats (Nt.run ns c ks h)) ((t : Int) - (h : Int)) = Nt.nats (Nt.firedL ns c (Nt.run ns c ks h) (t - h))) := Lib.hid (by
      rw [show (t : Int) - (h : Int) = ((t - h : Nat) : Int) by omega]
      exact Nt.firedOf_ok (t := t - h) ok (Nt.run_st ns st h) (by rw [Nt.run_length]; exact hl) (by omega))
    have HRL : Hid ((Nt.firedL ns c ks t).length = n) := Lib.hid (by rw [Nt.firedL_length, hn])
    have HFL : Hid ((Nt.firedL ns c ks h).length = n) := Lib.hid (by rw [Nt.firedL_length, hn])
    have HGL : Hid ((Nt.firedL ns c (Nt.run ns c ks h) (t - h)).length = n) := Lib.hid (by rw [Nt.firedL_length, Nt.run_length, hn])
    have HADD : Hid (∀ k, k < n → (Nt.firedL ns c ks t).getD k 0 = (Nt.firedL ns c ks h).getD k 0 + (Nt.firedL ns c (Nt.run ns c ks h) (t - h)).getD k 0) := Lib.hid (fun k hk => by
      rw [Nt.firedL_get _ _ _ _ (by omega), Nt.firedL_get _ _ _ _ (by omega), Nt.firedL_get _ _ _ _ (by rw [Nt.run_length]; omega), ← Nt.fired_add, show h + (t - h) = t by omega])
    have HMAX : Hid (∀ k, k < n → (Nt.firedL ns c ks t).getD k 0 ≤ (t + 1) / c + 1) := Lib.hid (fun k hk => by
      rw [Nt.firedL_get _ _ _ _ (by omega)]; exact Nt.fired_bound st (by omega) t)
    have HZERO : Hid (∀ k, k < n → ns.getD k 0 = 0 → (Nt.firedL ns c ks t).getD k 0 = 0) := Lib.hid (fun k hk h0 => by
      rw [Nt.firedL_get _ _ _ _ (by omega)]; exact Nt.fired_alone st (by omega) h0 t)
    have HSM : Hid (∀ k, k < n → (Nt.firedL ns c ks t).getD k 0 ≤ 1000) := Lib.hid (fun k hk => firedL_small ns c ks t ht60 k (by omega))
    have HQD : Hid (((t : Int) + 1).tdiv (c : Int) = (((t + 1) / c : Nat) : Int)) := Lib.hid (by
      rw [show (t : Int) + 1 = ((t + 1 : Nat) : Int) by omega]; exact tdiv_nat (t + 1) c)
    have HQS : Hid ((t + 1) / c ≤ t + 1) := Lib.hid (Nat.div_le_self _ _)
    rw [← hn] at hp h6
    have hne0 : ((n : Int) == 0) = false := beq_eq_false_iff_ne.2 (by omega)
    obtain ⟨gS, capS, rfl, hgS, hcS⟩ := hs.row (n := n) (by omega) hp
    obtain ⟨gT, capT, rfl, hgT, hcT⟩ := ht.row hn.symm hp
    have CS1 := Lib.hid hcS
    have lS1 := Lib.hid hgS
    have CT1 := Lib.hid hcT
    have lT1 := Lib.hid hgT
    clear hcS hgS hcT hgT
    clear hs ht ok st hl hn ho hl1 hl2 hc3 hc5
    clear CT1 lT1
    go_wp2_with fail
    refine (iFiredRow_any _ _ _ _ _ _ _ _ _ S1.out T1.out).mono ?_
    rintro e w2 ⟨u2, rfl, hs, hk⟩
    rw [HF.out] at hs
    have R2 := Lib.hid hs
    obtain ⟨gR, capR, rfl, hgR, hcR⟩ := hs.row HRL.out hp
    have CR2 := Lib.hid hcR
    have lR2 := Lib.hid hgR
    clear hgR hcR
    have S2 := Lib.hid (S1.out.stay hk)
    have T2 := Lib.hid (T1.out.stay hk)
    have CS2 := Lib.hid (fun j (hj : j < n) => (hk.cell (p := ⟨gS, j, none⟩) lS1.out (by simp)).trans (CS1.out j hj))
    have lS2 := Lib.hid (Nat.lt_of_lt_of_le lS1.out hk.size)
    have HK2 := Lib.hid (HK.out.trans hk (by simp))
    clear S1 T1 CS1 lS1 HK
    clear hs hk
    go_wp2_with fail
    refine (sFiredRow_any _ _ _ _ _ _ _ _ _ S2.out T2.out).mono ?_
    rintro e w3 ⟨u3, rfl, hs, hk⟩
    rw [HF.out] at hs
    have Y3 := Lib.hid hs
    have S3 := Lib.hid (S2.out.stay hk)
    have T3 := Lib.hid (T2.out.stay hk)
    have R3 := Lib.hid (R2.out.stay hk)
    have CS3 := Lib.hid (fun j (hj : j < n) => (hk.cell (p := ⟨gS, j, none⟩) lS2.out (by simp)).trans (CS2.out j hj))
    have lS3 := Lib.hid (Nat.lt_of_lt_of_le lS2.out hk.size)
    have CR3 := Lib.hid (fun j (hj : j < n) => (hk.cell (p := ⟨gR, j, none⟩) lR2.out (by simp)).trans (CR2.out j hj))
    have lR3 := Lib.hid (Nat.lt_of_lt_of_le lR2.out hk.size)
    have HK3 := Lib.hid (HK2.out.trans hk (by simp))
    clear S2 T2 R2 CS2 lS2 CR2 lR2 HK2
    clear hs hk
    go_wp2_with fail
    refine (sameInts_any _ _ _ _ _ _ _ R3.out Y3.out).mono ?_
    rintro e w4 ⟨rfl, hq⟩
    rw [dec_of rfl]
    have hk := hq.kept
    have S4 := Lib.hid (S3.out.stay hk)
    have T4 := Lib.hid (T3.out.stay hk)
    have R4 := Lib.hid (R3.out.stay hk)
    have Y4 := Lib.hid (Y3.out.stay hk)
    have CS4 := Lib.hid (fun j (hj : j < n) => (hk.cell (p := ⟨gS, j, none⟩) lS3.out (by simp)).trans (CS3.out j hj))
    have lS4 := Lib.hid (Nat.lt_of_lt_of_le lS3.out hk.size)
    have CR4 := Lib.hid (fun j (hj : j < n) => (hk.cell (p := ⟨gR, j, none⟩) lR3.out (by simp)).trans (CR3.out j hj))
    have lR4 := Lib.hid (Nat.lt_of_lt_of_le lR3.out hk.size)
    have HK4 := Lib.hid (HK3.out.trans hk (by simp))
    clear S3 T3 R3 Y3 CS3 lS3 CR3 lR3 HK3
    clear hk hq
    clear Y4
    go_wp2_with fail
    refine (iFiredRow_any _ _ _ _ _ _ _ _ _ S4.out T4.out).mono ?_
    rintro e w5 ⟨u5, rfl, hs, hk⟩
    rw [HFH.out] at hs
    have F5 := Lib.hid hs
    obtain ⟨gF, capF, rfl, hgF, hcF⟩ := hs.row HFL.out hp
    have CF5 := Lib.hid hcF
    have lF5 := Lib.hid hgF
    clear hgF hcF
    have S5 := Lib.hid (S4.out.stay hk)
    have T5 := Lib.hid (T4.out.stay hk)
    have R5 := Lib.hid (R4.out.stay hk)
    have CS5 := Lib.hid (fun j (hj : j < n) => (hk.cell (p := ⟨gS, j, none⟩) lS4.out (by simp)).trans (CS4.out j hj))
    have lS5 := Lib.hid (Nat.lt_of_lt_of_le lS4.out hk.size)
    have CR5 := Lib.hid (fun j (hj : j < n) => (hk.cell (p := ⟨gR, j, none⟩) lR4.out (by simp)).trans (CR4.out j hj))
    have lR5 := Lib.hid (Nat.lt_of_lt_of_le lR4.out hk.size)
    have HK5 := Lib.hid (HK4.out.trans hk (by simp))
    clear S4 T4 R4 CS4 lS4 CR4 lR4 HK4
    clear hs hk
    go_wp2_with fail
    refine (iFireRun_any _ _ _ _ _ _ _ _ _ S5.out T5.out).mono ?_
    rintro e w6 ⟨u6, rfl, hs, hk⟩
    rw [HRH.out] at hs
    have U6 := Lib.hid hs
    have S6 := Lib.hid (S5.out.stay hk)
    have T6 := Lib.hid (T5.out.stay hk)
    have R6 := Lib.hid (R5.out.stay hk)
    have F6 := Lib.hid (F5.out.stay hk)
    have CS6 := Lib.hid (fun j (hj : j < n) => (hk.cell (p := ⟨gS, j, none⟩) lS5.out (by simp)).trans (CS5.out j hj))
    have lS6 := Lib.hid (Nat.lt_of_lt_of_le lS5.out hk.size)
    have CR6 := Lib.hid (fun j (hj : j < n) => (hk.cell (p := ⟨gR, j, none⟩) lR5.out (by simp)).trans (CR5.out j hj))
    have lR6 := Lib.hid (Nat.lt_of_lt_of_le lR5.out hk.size)
    have CF6 := Lib.hid (fun j (hj : j < n) => (hk.cell (p := ⟨gF, j, none⟩) lF5.out (by simp)).trans (CF5.out j hj))
    have lF6 := Lib.hid (Nat.lt_of_lt_of_le lF5.out hk.size)
    have HK6 := Lib.hid (HK5.out.trans hk (by simp))
    clear S5 T5 R5 F5 CS5 lS5 CR5 lR5 CF5 lF5 HK5
    clear hs hk
    go_wp2_with fail
    refine (iFiredRow_any _ _ _ _ _ _ _ _ _ S6.out U6.out).mono ?_
    rintro e w7 ⟨u7, rfl, hs, hk⟩
    rw [HFR.out] at hs
    have G7 := Lib.hid hs
    obtain ⟨gG, capG, rfl, hgG, hcG⟩ := hs.row HGL.out hp
    have CG7 := Lib.hid hcG
    have lG7 := Lib.hid hgG
    clear hgG hcG
    have S7 := Lib.hid (S6.out.stay hk)
    have T7 := Lib.hid (T6.out.stay hk)
    have R7 := Lib.hid (R6.out.stay hk)
    have F7 := Lib.hid (F6.out.stay hk)
    have U7 := Lib.hid (U6.out.stay hk)
    have CS7 := Lib.hid (fun j (hj : j < n) => (hk.cell (p := ⟨gS, j, none⟩) lS6.out (by simp)).trans (CS6.out j hj))
    have lS7 := Lib.hid (Nat.lt_of_lt_of_le lS6.out hk.size)
    have CR7 := Lib.hid (fun j (hj : j < n) => (hk.cell (p := ⟨gR, j, none⟩) lR6.out (by simp)).trans (CR6.out j hj))
    have lR7 := Lib.hid (Nat.lt_of_lt_of_le lR6.out hk.size)
    have CF7 := Lib.hid (fun j (hj : j < n) => (hk.cell (p := ⟨gF, j, none⟩) lF6.out (by simp)).trans (CF6.out j hj))
    have lF7 := Lib.hid (Nat.lt_of_lt_of_le lF6.out hk.size)
    have HK7 := Lib.hid (HK6.out.trans hk (by simp))
    clear S6 T6 R6 F6 U6 CS6 lS6 CR6 lR6 CF6 lF6 HK6
    clear hs hk
    have hqd := HQD.out
    have hqs := HQS.out
    generalize hqq : (t + 1) / c = q at *
    have HQQ := Lib.hid hqq
    clear hqq
    go_wp2_with fail
    go_loopw [10] (fun i wr => ∃ k : Nat, k ≤ n ∧ i = .int .i64 k ∧ Qt w7 wr) (fun i _ => n - (intOf i).toNat)
    case atStart => exact ⟨0, Nat.zero_le _, rfl, Qt.refl _⟩
    case round =>
      obtain ⟨k, hk, rfl, hq⟩ := hrel
      have HQ := Lib.hid hq
      by_cases hlt : k < n
      · have kR := (hq.cell _).trans (CR7.out k hlt)
        have kF := (hq.cell _).trans (CF7.out k hlt)
        have kG := (hq.cell _).trans (CG7.out k hlt)
        have kS := (hq.cell _).trans (CS7.out k hlt)
        have hadd := HADD.out k hlt
        have hmax := HMAX.out k hlt
        have hzero := HZERO.out k hlt
        have hsm := HSM.out k hlt
        clear hq
        generalize (Nt.firedL ns c (Nt.run ns c ks h) (t - h)).getD k 0 = b at *
        generalize (Nt.firedL ns c ks h).getD k 0 = a at *
        generalize (Nt.firedL ns c ks t).getD k 0 = r at *
        generalize ns.getD k 0 = x at *
        have s1 : IntKind.i64.wrap ((a : Int) + (b : Int)) = (a : Int) + (b : Int) := IntWalk.i64_in _ (by omega)
        have s2 : IntKind.i64.wrap ((t : Int) + 1) = (t : Int) + 1 := IntWalk.i64_in _ (by omega)
        have s3 : IntKind.i64.wrap ((q : Int) + 1) = (q : Int) + 1 := IntWalk.i64_in _ (by omega)
        have s4 : IntKind.i64.wrap (q : Int) = (q : Int) := IntWalk.i64_in _ (by omega)
        have d1 : ((a : Int) + (b : Int) != (r : Int)) = false := by simp; omega
        have d2 : decide ((q : Int) + 1 < (r : Int)) = false := dec_not (by omega)
        have hc0 : ¬ c = 0 := by omega
        have HADDH := Lib.hid hadd
        clear hadd hmax
        by_cases h0 : x = 0
        · have hr := hzero h0
          subst h0
          have d3 : ((r : Int) != 0) = false := by simp; omega
          clear hzero hr
          go_wp2_with fail
          go_quiet (fail)
          go_wp2
          go_roundw
          case rel => exact ⟨k + 1, by omega, by go_num, HQ.out.draw _⟩
          case measure => simp [intOf]; omega
        · have d3 : ((x : Int) == 0) = false := by simp; omega
          clear hzero h0
          go_wp2_with fail
          go_quiet (fail)
          go_wp2
          go_roundw
          case rel => exact ⟨k + 1, by omega, by go_num, HQ.out.draw _⟩
          case measure => simp [intOf]; omega
      · have hk' : k = n := by omega
        subst hk'
        clear hq hlt
        go_wp2
        go_ret
        exact ⟨by simp, HK7.out.trans HQ.out.kept (by simp)⟩
  · have HF : Hid (Nt.firedOf xs c0 ys s0 = []) := Lib.hid (by
      cases h1 : Nt.fireB xs c0 ys
      · exact Nt.firedOf_no1 h1
      · exact Nt.firedOf_no2 (by rw [h1] at ho; simpa using ho))
    obtain ⟨bS, capS, rfl, _, _, _⟩ := hs.any
    obtain ⟨bT, capT, rfl, _, _, _⟩ := ht.any
    clear hs ht ho hl1 hl2 hc3 hc5
    go_wp2_with fail
    refine (iFiredRow_any _ _ _ _ _ _ _ _ _ S1.out T1.out).mono ?_
    rintro e w2 ⟨u2, rfl, hs, hk⟩
    rw [HF.out] at hs
    have X2 := Lib.hid hs
    obtain ⟨bX, capX, rfl, _, _, _⟩ := hs.any
    have S2 := Lib.hid (S1.out.stay hk)
    have T2 := Lib.hid (T1.out.stay hk)
    have HK2 := Lib.hid (HK.out.trans hk (by simp))
    clear S1 T1 HK
    clear hs hk
    go_wp2_with fail
    refine (sFiredRow_any _ _ _ _ _ _ _ _ _ S2.out T2.out).mono ?_
    rintro e w3 ⟨u3, rfl, hs, hk⟩
    rw [HF.out] at hs
    have Y3 := Lib.hid hs
    have S3 := Lib.hid (S2.out.stay hk)
    have T3 := Lib.hid (T2.out.stay hk)
    have X3 := Lib.hid (X2.out.stay hk)
    have HK3 := Lib.hid (HK2.out.trans hk (by simp))
    clear S2 T2 X2 HK2
    clear hs hk
    go_wp2_with fail
    refine (sameInts_any _ _ _ _ _ _ _ X3.out Y3.out).mono ?_
    rintro e w4 ⟨rfl, hq⟩
    rw [dec_of rfl]
    have hk := hq.kept
    have S4 := Lib.hid (S3.out.stay hk)
    have T4 := Lib.hid (T3.out.stay hk)
    have X4 := Lib.hid (X3.out.stay hk)
    have Y4 := Lib.hid (Y3.out.stay hk)
    have HK4 := Lib.hid (HK3.out.trans hk (by simp))
    clear S3 T3 X3 Y3 HK3
    clear hk hq
    go_wp2_with fail
    refine (alive_any _).mono ?_
    rintro e w5 ⟨rfl, hk⟩
    have S5 := Lib.hid (S4.out.stay hk)
    have T5 := Lib.hid (T4.out.stay hk)
    have X5 := Lib.hid (X4.out.stay hk)
    have Y5 := Lib.hid (Y4.out.stay hk)
    have HK5 := Lib.hid (HK4.out.trans hk (by simp))
    clear S4 T4 X4 Y4 HK4
    clear hk
    go_wp2
    go_ret
    exact ⟨rfl, HK5.out⟩
end Go.Proofs.Ytahjplaidkibpaa
