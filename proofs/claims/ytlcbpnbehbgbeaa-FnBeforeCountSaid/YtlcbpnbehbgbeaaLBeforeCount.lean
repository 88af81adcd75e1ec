/-
  The law BeforeCount, walked.
-/
import Derived.Test.YtlcbpnbehbgbeaaL11
namespace Go.Proofs.Ytlcbpnbehbgbeaa
open Go.RowKit

set_option maxHeartbeats 4000000 in
set_option maxRecDepth 100000 in
theorem FnBeforeCount_calls (w : World) (v : Value) (ha : ArgB w v) :
    Calls Try.prog 3 #[v] w fun e w' => e = .returned (.bool true) ∧ Kept [] w w' := by
  have HA := Lib.hid ha
  obtain ⟨a, len, cap, rfl, hlc, hcm, _⟩ := ha
  by_cases hbig : 1048576 < len
  · have hb : (1048576 : Int) < (len : Int) := by omega
    clear hbig
    go_enter Try.func3, Try.ntmps3
    go_wp2
    go_ret
    exact ⟨rfl, Kept.refl _ _⟩
  have hb : ¬ (1048576 : Int) < (len : Int) := by omega
  clear hbig
  go_enter Try.func3, Try.ntmps3
  go_wp2_with fail
  refine (drawBeforeCount_any _ _ HA.out).mono ?_
  rintro e w1 ⟨u, xs, v, ys, kinds, rfl, hs, ht, hk⟩
  have HK1 := Lib.hid hk
  clear hk hb
  by_cases hneg : Nt.befOf xs kinds ys < 0
  · have HE := Lib.hid (Nt.befOf_neg.1 hneg)
    obtain ⟨b1, cap1, rfl, _, _, _⟩ := hs.any
    have S1 := Lib.hid hs
    obtain ⟨b2, cap2, rfl, _, _, _⟩ := ht.any
    have T1 := Lib.hid ht
    clear hs ht
    go_wp2_with fail
    refine (iBef_any xs kinds ys _ _ _ _ _ S1.out T1.out).mono ?_
    rintro e w2 ⟨rfl, hk⟩
    rw [HE.out]
    have S2 := Lib.hid (S1.out.stay hk)
    have T2 := Lib.hid (T1.out.stay hk)
    have HK2 := Lib.hid (HK1.out.trans hk (by simp))
    clear hk S1 T1 HK1
    go_wp2_with fail
    refine (sBef_any xs kinds ys _ _ _ _ _ S2.out T2.out).mono ?_
    rintro e w3 ⟨rfl, hk⟩
    rw [HE.out]
    have S3 := Lib.hid (S2.out.stay hk)
    have T3 := Lib.hid (T2.out.stay hk)
    have HK3 := Lib.hid (HK2.out.trans hk (by simp))
    clear hk S2 T2 HK2
    go_wp2_with fail
    refine (alive_any _).mono ?_
    rintro e w4 ⟨rfl, hk⟩
    have HKE := Lib.hid (HK3.out.trans hk (by simp))
    clear hk
    go_wp2
    go_ret
    exact ⟨rfl, HKE.out⟩
  · obtain ⟨ns, c, ks, rfl, rfl, rfl, ok, h4, st, hl⟩ := Nt.befOf_neg.2 hneg
    have h3 := st.c3
    have h5 := st.c5
    clear hneg
    have HOK := Lib.hid ok
    have hn1 := ok.some
    obtain ⟨n, hn⟩ : ∃ n, n = ns.length := ⟨_, rfl⟩
    have HN := Lib.hid hn
    obtain ⟨gN, capN, rfl, _, _⟩ := hs.row hn.symm (by omega)
    have S1 := Lib.hid hs
    obtain ⟨N, hN⟩ : ∃ N, N = c ^ n := ⟨_, rfl⟩
    have HNN := Lib.hid hN
    have hN6 : N ≤ 625 := by rw [hN]; exact pow_625 h5 (by omega)
    have hn4 : n ≤ 4 := by omega
    have hp : 0 < n := by omega
    have HC := Lib.hid (And.intro h3 h5)
    have HPW := Lib.hid (fun (w' : World) => (powerOf_any n c (by omega) h5 w').mono fun e w2 h => (show e = .returned (.int .i64 (N : Int)) ∧ w' = w2 from by rw [hN]; exact h))
    clear hs hN hn
    obtain ⟨gS, capS, rfl, _, _⟩ := ht.row (hl.trans HN.out.symm) hp
    have T1 := Lib.hid ht
    have HSK := Lib.hid (And.intro st hl)
    have HIB := Lib.hid (fun (js : List Nat) (st : Nt.St c js) (hl : js.length = ns.length) (w' : World) (v : Value) (base : Nat) (u : Value) (base' : Nat) (hs : Sl w' base v (Nt.nats ns)) (ht : Sl w' base' u (Nt.nats js)) =>
      (iBef_any (Nt.nats ns) (c : Int) (Nt.nats js) w' v base u base' hs ht).mono fun e w2 h => (show e = .returned (.int .i64 ((Nt.befN ns c js : Nat) : Int)) ∧ Kept [] w' w2 from by rw [Nt.befOf_ok ok h4 st hl] at h; exact h))
    have HSB : Hid (Nt.befOf (Nt.nats ns) (c : Int) (Nt.nats ks) = ((Nt.befN ns c ks : Nat) : Int)) := Lib.hid (Nt.befOf_ok ok h4 st hl)
    have HLE : Hid (∀ js, Nt.befN ns c js ≤ N) := Lib.hid (fun js => by rw [HNN.out, HN.out]; exact Nt.befN_le ns c js)
    have hqN := HLE.out ks
    have HST1 : Hid (1 ≤ Nt.befN ns c (Nt.step ns c ks)) := Lib.hid (Nt.befN_step st hl)
    have HRE1 : Hid (1 ≤ Nt.befN ns c (Nt.rest ns.length)) := Lib.hid (Nt.befN_rest ok h3 h5)
    have HSUM : Hid (Nt.sumTo (fun s => Nt.befN ns c (Nt.stN ns c s)) N = N) := Lib.hid (by rw [HNN.out, HN.out]; exact Nt.befN_sum ok h3 h5)
    have HSUB : Hid (∀ k, Nt.sumTo (fun s => Nt.befN ns c (Nt.stN ns c s)) k ≤ 625 * k) := Lib.hid (sumTo_bound (fun s => Nat.le_trans (HLE.out _) hN6))
    have HSUS : Hid (∀ k, Nt.sumTo (fun s => Nt.befN ns c (Nt.stN ns c s)) (k + 1) = Nt.sumTo (fun s => Nt.befN ns c (Nt.stN ns c s)) k + Nt.befN ns c (Nt.stN ns c k)) := Lib.hid (fun k => rfl)
    have HSN := Lib.hid (fun (m : Nat) => And.intro (Nt.stN_st (c := c) ok h3 h5 m) (Nt.stN_length ns c m))
    have HSO : Hid (∀ m, m < N → Nt.stateOf (n : Int) (c : Int) (m : Int) = Nt.nats (Nt.stN ns c m)) := Lib.hid (fun m hm => by rw [Nt.stateOf_ok ⟨by omega, by omega⟩ ⟨h3, h5⟩ (by rw [← HNN.out]; exact hm), HN.out]; rfl)
    have HFS : Hid (Nt.stepOf (Nt.nats ns) (c : Int) (Nt.nats ks) = Nt.nats (Nt.step ns c ks)) := Lib.hid (Nt.stepOf_ok ok st hl)
    have HFT : Hid (Nt.St c (Nt.step ns c ks) ∧ (Nt.step ns c ks).length = ns.length) := Lib.hid ⟨Nt.step_st ns st, by rw [Nt.step_length, hl]⟩
    have HRT : Hid (Nt.St c (Nt.rest ns.length) ∧ (Nt.rest ns.length).length = ns.length) := Lib.hid ⟨Nt.rest_st h3 h5 ok.some ok.few, Nt.rest_length _⟩
    have HRZ : Hid (Nt.nats (Nt.rest ns.length) = List.replicate n 0) := Lib.hid (by rw [← HN.out]; simp [Nt.nats, Nt.rest])
    clear ok h3 h5 h4 st hl ht hn1
    obtain ⟨q, hqq⟩ : ∃ q, Nt.befN ns c ks = q := ⟨_, rfl⟩
    rw [hqq] at hqN HSB
    have HQQ := Lib.hid hqq
    clear hqq
    go_wp2_with fail
    refine (HIB.out ks HSK.out.1 HSK.out.2 _ _ _ _ _ S1.out T1.out).mono ?_
    rintro e w2 ⟨rfl, hk⟩
    rw [HQQ.out]
    have S2 := Lib.hid (S1.out.stay hk)
    have T2 := Lib.hid (T1.out.stay hk)
    have HK2 := Lib.hid (HK1.out.trans hk (by simp))
    clear hk HK1 S1 T1
    go_wp2_with fail
    refine (sBef_any _ _ _ _ _ _ _ _ S2.out T2.out).mono ?_
    rintro e w3 ⟨rfl, hk⟩
    rw [HSB.out]
    have S3 := Lib.hid (S2.out.stay hk)
    have T3 := Lib.hid (T2.out.stay hk)
    have HK3 := Lib.hid (HK2.out.trans hk (by simp))
    clear hk HK2 S2 T2
    go_wp2_with fail
    refine (HPW.out _).mono ?_
    rintro e w' ⟨rfl, rfl⟩
    go_wp2_with fail
    refine (iFireStep_any _ _ _ _ _ _ _ _ S3.out T3.out).mono ?_
    rintro e w4 ⟨u4, rfl, hz, hk⟩
    rw [HFS.out] at hz
    have F4 := Lib.hid hz
    have S4 := Lib.hid (S3.out.stay hk)
    have T4 := Lib.hid (T3.out.stay hk)
    have HK4 := Lib.hid (HK3.out.trans hk (by simp))
    clear hk hz HK3 S3 T3
    go_wp2_with fail
    refine (HIB.out _ HFT.out.1 HFT.out.2 _ _ _ _ _ S4.out F4.out).mono ?_
    rintro e w5 ⟨rfl, hk⟩
    have S5 := Lib.hid (S4.out.stay hk)
    have HK5 := Lib.hid (HK4.out.trans hk (by simp))
    clear hk S4 F4 T4 HK4
    obtain ⟨q1, hq1⟩ : ∃ q1, Nt.befN ns c (Nt.step ns c ks) = q1 := ⟨_, rfl⟩
    have hq1p : 1 ≤ q1 := by rw [← hq1]; exact HST1.out
    rw [hq1]
    have dq1 : decide ((q1 : Int) < 1) = false := dec_not (by omega)
    have eq1 : ¬ (q1 : Int) < 1 := by omega
    clear hq1
    go_wp2_with (at_make; go_loud (refine make_int_g _ n (by rfl) _ _ rfl rfl rfl ?_ ?_))
    · omega
    intro w6 hs6 hk6 _
    have S6 := Lib.hid (S5.out.stay hk6)
    have Z6 := Lib.hid hs6
    have HK6 := Lib.hid (HK5.out.trans hk6 (by simp))
    clear hs6 hk6
    rw [← HRZ.out] at Z6
    go_wp2_with fail
    refine (HIB.out _ HRT.out.1 HRT.out.2 _ _ _ _ _ S6.out Z6.out).mono ?_
    rintro e w7 ⟨rfl, hk⟩
    have S7 := Lib.hid (S6.out.stay hk)
    have HK7 := Lib.hid (HK6.out.trans hk (by simp))
    clear hk S5 S6 Z6 HK5 HK6
    obtain ⟨q2, hq2⟩ : ∃ q2, Nt.befN ns c (Nt.rest ns.length) = q2 := ⟨_, rfl⟩
    have hq2p : 1 ≤ q2 := by rw [← hq2]; exact HRE1.out
    rw [hq2]
    have dq2 : decide ((q2 : Int) < 1) = false := dec_not (by omega)
    have eq2 : ¬ (q2 : Int) < 1 := by omega
    clear hq2
    go_wp2
    go_loopw [8, 9] (fun sm num wr => ∃ k : Nat, k ≤ N ∧ (¬ N ≤ 81 → k = 0) ∧ num = .int .i64 k ∧ sm = .int .i64 ((Nt.sumTo (fun s => Nt.befN ns c (Nt.stN ns c s)) k : Nat) : Int) ∧ Sl wr 0 (.slice (some ⟨gN, 0, none⟩) n capN) (Nt.nats ns) ∧ Kept [] w wr) (fun _ num _ => N - (intOf num).toNat)
    case atStart => exact ⟨0, Nat.zero_le _, fun _ => rfl, rfl, rfl, S7.out.zero, HK7.out⟩
    case round =>
      clear S7 HK7
      obtain ⟨k, hk, h81, rfl, rfl, hsl, hkept⟩ := hrel
      have S8 := Lib.hid hsl
      have HK8 := Lib.hid hkept
      have hsb := HSUB.out k
      clear hsl hkept
      by_cases hlt : k < N
      · by_cases h81' : N ≤ 81
        · clear h81
          have HS1 := HSUS.out k
          go_wp2_with fail
          refine (iStateOf_any (n : Int) (c : Int) (k : Int) (by omega) _).mono ?_
          rintro e w9 ⟨u9, rfl, hz, hk9⟩
          rw [HSO.out k hlt] at hz
          have Z9 := Lib.hid hz
          have S9 := Lib.hid (S8.out.stay hk9)
          have HK9 := Lib.hid (HK8.out.trans hk9 (by simp))
          clear hz hk9 S8 HK8
          go_wp2_with fail
          refine (HIB.out _ (HSN.out k).1 (HSN.out k).2 _ _ _ _ _ S9.out Z9.out).mono ?_
          rintro e w10 ⟨rfl, hk10⟩
          have S10 := Lib.hid (S9.out.stay hk10)
          have HK10 := Lib.hid (HK9.out.trans hk10 (by simp))
          have hbn := HLE.out (Nt.stN ns c k)
          clear hk10 S9 Z9 HK9
          have HS1' := Lib.hid HS1
          clear HS1
          generalize hss : Nt.sumTo (fun s => Nt.befN ns c (Nt.stN ns c s)) k = s0 at *
          generalize hbb : Nt.befN ns c (Nt.stN ns c k) = b0 at *
          clear hss hbb
          go_wp2
          go_roundw
          case rel => exact ⟨k + 1, by omega, fun h => absurd h81' h, by go_num, by rw [HS1'.out]; go_num, S10.out, HK10.out⟩
          case measure => simp [intOf]; omega
        · go_wp2
          go_ret
          exact ⟨rfl, HK8.out⟩
      · have hkN : k = N := by omega
        subst hkN
        have h81' : k ≤ 81 := by
          by_cases e : k ≤ 81
          · exact e
          · have := h81 e; omega
        rw [HSUM.out]
        clear hsb
        go_wp2
        go_ret
        exact ⟨rfl, HK8.out⟩
end Go.Proofs.Ytlcbpnbehbgbeaa
