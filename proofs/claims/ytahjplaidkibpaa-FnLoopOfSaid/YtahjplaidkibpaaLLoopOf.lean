/-
  The law LoopOf, walked.
-/
import Derived.Test.YtahjplaidkibpaaD14
import Derived.Test.YtahjplaidkibpaaL1
import Derived.Test.YtahjplaidkibpaaF12
namespace Go.Proofs.Ytahjplaidkibpaa
open Go.RowKit

set_option maxHeartbeats 4000000 in
set_option maxRecDepth 100000 in
theorem FnLoopOf_calls (w : World) (v : Value) (ha : ArgB w v) :
    Calls Try.prog 6 #[v] w fun e w' => e = .returned (.bool true) ∧ Kept [] w w' := by
  have HA := Lib.hid ha
  obtain ⟨a, len, cap, rfl, hlc, hcm, _⟩ := ha
  by_cases hbig : 1048576 < len
  · have hb : (1048576 : Int) < (len : Int) := by omega
    clear hbig
    go_enter Try.func6, Try.ntmps6
    go_wp2
    go_ret
    exact ⟨rfl, Kept.refl _ _⟩
  have hb : ¬ (1048576 : Int) < (len : Int) := by omega
  clear hbig
  go_enter Try.func6, Try.ntmps6
  go_wp2_with fail
  refine (drawLoopOf_any _ _ HA.out).mono ?_
  rintro e w1 ⟨u, xs, v, ys, c0, rfl, hc3, hc5, hs, ht, hl1, hl2, hk⟩
  have S1 := Lib.hid hs
  have T1 := Lib.hid ht
  have HK := Lib.hid hk
  clear hk hb
  by_cases ho : Nt.fireB xs c0 ys = true
  · obtain ⟨ns, c, ks, rfl, rfl, rfl, ok, st, hl⟩ := Nt.fireB_ok ho
    obtain ⟨n, hn⟩ : ∃ n, n = ks.length := ⟨_, rfl⟩
    have hp := st.some
    have h6 := st.few
    have c3 := st.c3
    have c5 := st.c5
    have HOK := Lib.hid ok
    have HST := Lib.hid st
    have HL := Lib.hid hl
    have HN := Lib.hid hn
    obtain ⟨m, l, hloop, hb⟩ := Nt.run_loop ns st
    have hlp := hloop.pos
    have hsm := Nt.loop_small st.c5 st.few hb
    have HLP := Lib.hid hloop
    have HB := Lib.hid hb
    have HBn : Hid (m + l ≤ c ^ n) := Lib.hid (by rw [hn]; exact hb)
    have HLN : Hid (Nt.IsLoop (Nt.run ns c (Nt.step ns c ks)) (m - 1) l) := Lib.hid (by rw [Nt.run_next]; exact hloop.next (Nt.run_tells ns c ks))
    have HBN : Hid ((m - 1) + l ≤ c ^ (Nt.step ns c ks).length) := Lib.hid (by rw [Nt.step_length]; omega)
    have HSS := Lib.hid (Nt.step_st ns st)
    have HSL : Hid ((Nt.step ns c ks).length = ns.length) := Lib.hid (by rw [Nt.step_length]; exact hl)
    have HF := Lib.hid (Nt.stepOf_ok ok st hl)
    have HRUN := Lib.hid (fun t (ht : t ≤ 60) => Nt.runOf_ok (t := t) ok st hl ht)
    have HRUN2 : Hid (∀ a b : Nat, b ≤ 60 → Nt.runOf (Nt.nats ns) (c : Int) (Nt.nats (Nt.run ns c ks a)) (b : Int) = Nt.nats (Nt.run ns c ks (a + b))) := Lib.hid (fun a b h => by
      rw [Nt.runOf_ok ok (Nt.run_st ns st a) (by rw [Nt.run_length]; exact hl) h, ← Nt.run_add])
    have HBACK : Hid (Nt.run ns c ks (m + l) = Nt.run ns c ks m) := Lib.hid hloop.back
    have HRL : Hid (∀ t, (Nt.run ns c ks t).length = n) := Lib.hid (fun t => by rw [Nt.run_length, hn])
    have HNIL : Hid (∀ s, Nt.runOf (Nt.nats ns) (c : Int) [] s = []) := Lib.hid (fun s => Nt.runOf_no1 (Nt.fireB_no3 (by rw [Nt.nats_length]; simp; omega)))
    clear hloop hb
    rw [← hn] at hp h6
    have hne0 : ((n : Int) == 0) = false := beq_eq_false_iff_ne.2 (by omega)
    obtain ⟨gS, capS, rfl, _, _⟩ := hs.row (n := n) (by omega) hp
    obtain ⟨gT, capT, rfl, _, _⟩ := ht.row hn.symm hp
    clear hs ht ok st hl hn ho hl1 hl2 hc3 hc5
    go_wp2_with fail
    refine (iLoopOk_any ns c ks HOK.out HST.out HL.out m l HLP.out HB.out _ _ _ _ _ S1.out T1.out).mono ?_
    rintro e w2 ⟨rfl, hk⟩
    have S2 := Lib.hid (S1.out.stay hk)
    have T2 := Lib.hid (T1.out.stay hk)
    have HK2 := Lib.hid (HK.out.trans hk (by simp))
    clear S1 T1 HK
    clear hk
    go_wp2_with fail
    refine (sLoopOk_any ns c ks HOK.out HST.out HL.out m l HLP.out HB.out _ _ _ _ _ S2.out T2.out).mono ?_
    rintro e w3 ⟨rfl, hk⟩
    have S3 := Lib.hid (S2.out.stay hk)
    have T3 := Lib.hid (T2.out.stay hk)
    have HK3 := Lib.hid (HK2.out.trans hk (by simp))
    clear S2 T2 HK2
    clear hk
    go_wp2_with fail
    go_loop [10, 11] (fun p i => ∃ k : Nat, k ≤ n ∧ i = .int .i64 k ∧ p = .int .i64 ((c ^ k : Nat) : Int)) (fun _ i => n - (intOf i).toNat)
    case atStart => exact ⟨0, Nat.zero_le _, rfl, by simp⟩
    case round =>
      obtain ⟨k, hk, rfl, rfl⟩ := hrel
      by_cases hlt : k < n
      · have hpw := Nt.pow5_le (c := c) (n := k + 1) c5 (by omega)
        have HP := Lib.hid (Nat.pow_succ c k)
        rw [Nat.pow_succ] at hpw
        have e1 : ((c ^ k : Nat) : Int) * (c : Int) = ((c ^ k * c : Nat) : Int) := by simp
        generalize c ^ k = q at *
        generalize q * c = p at *
        have e2 : wrap64 ((q : Int) * (c : Int)) = (p : Int) := by rw [e1]; exact IntWalk.wrap64_in _ (by omega)
        clear e1 hpw hsm hlp
        go_wp2
        go_round
        case rel => exact ⟨k + 1, by omega, by go_num, by rw [HP.out, e2]⟩
        case measure => simp [intOf]; omega
      · have hk' : k = n := by omega
        subst hk'
        have hpm := HBn.out
        have hpw := Nt.pow5_le (c := c) (n := k) c5 h6
        generalize c ^ k = p at hpm hpw ⊢
        clear hlt hk
        by_cases hm : m ≤ 60
        · by_cases hl6 : l ≤ 60
          · have HA := Lib.hid (HRUN.out m hm)
            have HB2 : Hid (Nt.runOf (Nt.nats ns) (c : Int) (Nt.nats (Nt.run ns c ks m)) (l : Int) = Nt.nats (Nt.run ns c ks m)) := Lib.hid (by rw [HRUN2.out m l hl6, HBACK.out])
            go_wp2_with fail
            refine (iFireRun_any _ _ _ _ _ _ _ _ _ S3.out T3.out).mono ?_
            rintro e w4 ⟨u4, rfl, hs, hk⟩
            rw [HA.out] at hs
            have A4 := Lib.hid hs
            obtain ⟨gA, capA, rfl, hgA, hcA⟩ := hs.row (HRL.out m) hp
            clear hgA hcA
            have S4 := Lib.hid (S3.out.stay hk)
            have T4 := Lib.hid (T3.out.stay hk)
            have HK4 := Lib.hid (HK3.out.trans hk (by simp))
            clear S3 T3 HK3
            clear hs hk
            go_wp2_with fail
            refine (iFireRun_any _ _ _ _ _ _ _ _ _ S4.out A4.out).mono ?_
            rintro e w5 ⟨u5, rfl, hs, hk⟩
            rw [HB2.out] at hs
            have B5 := Lib.hid hs
            obtain ⟨gB, capB, rfl, hgB, hcB⟩ := hs.row (HRL.out m) hp
            clear hgB hcB
            have S5 := Lib.hid (S4.out.stay hk)
            have T5 := Lib.hid (T4.out.stay hk)
            have A5 := Lib.hid (A4.out.stay hk)
            have HK5 := Lib.hid (HK4.out.trans hk (by simp))
            clear S4 T4 A4 HK4
            clear hs hk
            go_wp2_with fail
            refine (iFireStep_any _ _ _ _ _ _ _ _ S5.out T5.out).mono ?_
            rintro e w6 ⟨u6, rfl, hs, hk⟩
            rw [HF.out] at hs
            have X6 := Lib.hid hs
            have S6 := Lib.hid (S5.out.stay hk)
            have T6 := Lib.hid (T5.out.stay hk)
            have A6 := Lib.hid (A5.out.stay hk)
            have B6 := Lib.hid (B5.out.stay hk)
            have HK6 := Lib.hid (HK5.out.trans hk (by simp))
            clear S5 T5 A5 B5 HK5
            clear hs hk
            go_wp2_with fail
            refine (iLoopOk_any ns c (Nt.step ns c ks) HOK.out HSS.out HSL.out (m - 1) l HLN.out HBN.out _ _ _ _ _ S6.out X6.out).mono ?_
            rintro e w7 ⟨rfl, hk⟩
            have S7 := Lib.hid (S6.out.stay hk)
            have T7 := Lib.hid (T6.out.stay hk)
            have A7 := Lib.hid (A6.out.stay hk)
            have B7 := Lib.hid (B6.out.stay hk)
            have X7 := Lib.hid (X6.out.stay hk)
            have HK7 := Lib.hid (HK6.out.trans hk (by simp))
            clear S6 T6 A6 B6 X6 HK6
            clear hk
            by_cases m0 : m = 0
            · have e0 : ((m - 1 : Nat) : Int) = 0 := by omega
              have e1 : (m : Int) = 0 := by omega
              rw [e0]
              go_wp2_with fail
              refine (sameInts_any _ _ _ _ _ _ _ A7.out B7.out).mono ?_
              rintro e w8 ⟨rfl, hq⟩
              rw [dec_of rfl]
              have hk := hq.kept
              have S8 := Lib.hid (S7.out.stay hk)
              have T8 := Lib.hid (T7.out.stay hk)
              have A8 := Lib.hid (A7.out.stay hk)
              have B8 := Lib.hid (B7.out.stay hk)
              have X8 := Lib.hid (X7.out.stay hk)
              have HK8 := Lib.hid (HK7.out.trans hk (by simp))
              clear S7 T7 A7 B7 X7 HK7
              clear hk hq
              go_wp2
              go_ret
              exact ⟨rfl, HK8.out⟩
            · have e0 : ((m - 1 : Nat) : Int) = (m : Int) - 1 := by omega
              rw [e0]
              have hmx : max ((m : Int) - 1) 0 = (m : Int) - 1 := by omega
              go_wp2_with fail
              refine (sameInts_any _ _ _ _ _ _ _ A7.out B7.out).mono ?_
              rintro e w8 ⟨rfl, hq⟩
              rw [dec_of rfl]
              have hk := hq.kept
              have S8 := Lib.hid (S7.out.stay hk)
              have T8 := Lib.hid (T7.out.stay hk)
              have A8 := Lib.hid (A7.out.stay hk)
              have B8 := Lib.hid (B7.out.stay hk)
              have X8 := Lib.hid (X7.out.stay hk)
              have HK8 := Lib.hid (HK7.out.trans hk (by simp))
              clear S7 T7 A7 B7 X7 HK7
              clear hk hq
              go_wp2
              go_ret
              exact ⟨rfl, HK8.out⟩
          · have HA := Lib.hid (HRUN.out m hm)
            have HB2 : Hid (Nt.runOf (Nt.nats ns) (c : Int) (Nt.nats (Nt.run ns c ks m)) (l : Int) = []) := Lib.hid (Nt.runOf_no2 (decide_eq_false (by omega)))
            go_wp2_with fail
            refine (iFireRun_any _ _ _ _ _ _ _ _ _ S3.out T3.out).mono ?_
            rintro e w4 ⟨u4, rfl, hs, hk⟩
            rw [HA.out] at hs
            have A4 := Lib.hid hs
            obtain ⟨gA, capA, rfl, hgA, hcA⟩ := hs.row (HRL.out m) hp
            clear hgA hcA
            have S4 := Lib.hid (S3.out.stay hk)
            have T4 := Lib.hid (T3.out.stay hk)
            have HK4 := Lib.hid (HK3.out.trans hk (by simp))
            clear S3 T3 HK3
            clear hs hk
            go_wp2_with fail
            refine (iFireRun_any _ _ _ _ _ _ _ _ _ S4.out A4.out).mono ?_
            rintro e w5 ⟨u5, rfl, hs, hk⟩
            rw [HB2.out] at hs
            have B5 := Lib.hid hs
            obtain ⟨bB, capB, rfl, _, _, _⟩ := hs.any
            have S5 := Lib.hid (S4.out.stay hk)
            have T5 := Lib.hid (T4.out.stay hk)
            have A5 := Lib.hid (A4.out.stay hk)
            have HK5 := Lib.hid (HK4.out.trans hk (by simp))
            clear S4 T4 A4 HK4
            clear hs hk
            go_wp2_with fail
            refine (iFireStep_any _ _ _ _ _ _ _ _ S5.out T5.out).mono ?_
            rintro e w6 ⟨u6, rfl, hs, hk⟩
            rw [HF.out] at hs
            have X6 := Lib.hid hs
            have S6 := Lib.hid (S5.out.stay hk)
            have T6 := Lib.hid (T5.out.stay hk)
            have A6 := Lib.hid (A5.out.stay hk)
            have B6 := Lib.hid (B5.out.stay hk)
            have HK6 := Lib.hid (HK5.out.trans hk (by simp))
            clear S5 T5 A5 B5 HK5
            clear hs hk
            go_wp2_with fail
            refine (iLoopOk_any ns c (Nt.step ns c ks) HOK.out HSS.out HSL.out (m - 1) l HLN.out HBN.out _ _ _ _ _ S6.out X6.out).mono ?_
            rintro e w7 ⟨rfl, hk⟩
            have S7 := Lib.hid (S6.out.stay hk)
            have T7 := Lib.hid (T6.out.stay hk)
            have A7 := Lib.hid (A6.out.stay hk)
            have B7 := Lib.hid (B6.out.stay hk)
            have X7 := Lib.hid (X6.out.stay hk)
            have HK7 := Lib.hid (HK6.out.trans hk (by simp))
            clear S6 T6 A6 B6 X6 HK6
            clear hk
            by_cases m0 : m = 0
            · have e0 : ((m - 1 : Nat) : Int) = 0 := by omega
              have e1 : (m : Int) = 0 := by omega
              rw [e0]
              go_wp2
              go_ret
              exact ⟨rfl, HK7.out⟩
            · have e0 : ((m - 1 : Nat) : Int) = (m : Int) - 1 := by omega
              rw [e0]
              have hmx : max ((m : Int) - 1) 0 = (m : Int) - 1 := by omega
              go_wp2
              go_ret
              exact ⟨rfl, HK7.out⟩
        · have HA : Hid (Nt.runOf (Nt.nats ns) (c : Int) (Nt.nats ks) (m : Int) = []) := Lib.hid (Nt.runOf_no2 (decide_eq_false (by omega)))
          have HB2 := Lib.hid (HNIL.out (l : Int))
          go_wp2_with fail
          refine (iFireRun_any _ _ _ _ _ _ _ _ _ S3.out T3.out).mono ?_
          rintro e w4 ⟨u4, rfl, hs, hk⟩
          rw [HA.out] at hs
          have A4 := Lib.hid hs
          obtain ⟨bA, capA, rfl, _, _, _⟩ := hs.any
          have S4 := Lib.hid (S3.out.stay hk)
          have T4 := Lib.hid (T3.out.stay hk)
          have HK4 := Lib.hid (HK3.out.trans hk (by simp))
          clear S3 T3 HK3
          clear hs hk
          go_wp2_with fail
          refine (iFireRun_any _ _ _ _ _ _ _ _ _ S4.out A4.out).mono ?_
          rintro e w5 ⟨u5, rfl, hs, hk⟩
          rw [HB2.out] at hs
          have B5 := Lib.hid hs
          obtain ⟨bB, capB, rfl, _, _, _⟩ := hs.any
          have S5 := Lib.hid (S4.out.stay hk)
          have T5 := Lib.hid (T4.out.stay hk)
          have A5 := Lib.hid (A4.out.stay hk)
          have HK5 := Lib.hid (HK4.out.trans hk (by simp))
          clear S4 T4 A4 HK4
          clear hs hk
          go_wp2_with fail
          refine (iFireStep_any _ _ _ _ _ _ _ _ S5.out T5.out).mono ?_
          rintro e w6 ⟨u6, rfl, hs, hk⟩
          rw [HF.out] at hs
          have X6 := Lib.hid hs
          have S6 := Lib.hid (S5.out.stay hk)
          have T6 := Lib.hid (T5.out.stay hk)
          have A6 := Lib.hid (A5.out.stay hk)
          have B6 := Lib.hid (B5.out.stay hk)
          have HK6 := Lib.hid (HK5.out.trans hk (by simp))
          clear S5 T5 A5 B5 HK5
          clear hs hk
          go_wp2_with fail
          refine (iLoopOk_any ns c (Nt.step ns c ks) HOK.out HSS.out HSL.out (m - 1) l HLN.out HBN.out _ _ _ _ _ S6.out X6.out).mono ?_
          rintro e w7 ⟨rfl, hk⟩
          have S7 := Lib.hid (S6.out.stay hk)
          have T7 := Lib.hid (T6.out.stay hk)
          have A7 := Lib.hid (A6.out.stay hk)
          have B7 := Lib.hid (B6.out.stay hk)
          have X7 := Lib.hid (X6.out.stay hk)
          have HK7 := Lib.hid (HK6.out.trans hk (by simp))
          clear S6 T6 A6 B6 X6 HK6
          clear hk
          have e0 : ((m - 1 : Nat) : Int) = (m : Int) - 1 := by omega
          rw [e0]
          have hmx : max ((m : Int) - 1) 0 = (m : Int) - 1 := by omega
          go_wp2
          go_ret
          exact ⟨rfl, HK7.out⟩
  · have ho' : Nt.fireB xs c0 ys = false := by simpa using ho
    have HO := Lib.hid ho'
    obtain ⟨bS, capS, rfl, _, _, _⟩ := hs.any
    obtain ⟨bT, capT, rfl, _, _, _⟩ := ht.any
    clear hs ht ho ho' hl1 hl2 hc3 hc5
    go_wp2_with fail
    refine (iLoopNo_any _ _ _ HO.out _ _ _ _ _ S1.out T1.out).mono ?_
    rintro e w2 ⟨rfl, hk⟩
    have S2 := Lib.hid (S1.out.stay hk)
    have T2 := Lib.hid (T1.out.stay hk)
    have HK2 := Lib.hid (HK.out.trans hk (by simp))
    clear S1 T1 HK
    clear hk
    go_wp2_with fail
    refine (sLoopNo_any _ _ _ HO.out _ _ _ _ _ S2.out T2.out).mono ?_
    rintro e w3 ⟨rfl, hk⟩
    have S3 := Lib.hid (S2.out.stay hk)
    have T3 := Lib.hid (T2.out.stay hk)
    have HK3 := Lib.hid (HK2.out.trans hk (by simp))
    clear S2 T2 HK2
    clear hk
    go_wp2_with fail
    refine (alive_any _).mono ?_
    rintro e w4 ⟨rfl, hk⟩
    have S4 := Lib.hid (S3.out.stay hk)
    have T4 := Lib.hid (T3.out.stay hk)
    have HK4 := Lib.hid (HK3.out.trans hk (by simp))
    clear S3 T3 HK3
    clear hk
    go_wp2
    go_ret
    exact ⟨rfl, HK4.out⟩
end Go.Proofs.Ytahjplaidkibpaa
