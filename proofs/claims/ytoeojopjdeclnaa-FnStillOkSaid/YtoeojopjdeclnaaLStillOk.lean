/-
  The law StillOk, walked.
-/
import Derived.Test.YtoeojopjdeclnaaD15
import Derived.Test.YtoeojopjdeclnaaD18
import Derived.Test.YtoeojopjdeclnaaL1
import Derived.Test.YtoeojopjdeclnaaTB
import Derived.Test.YtoeojopjdeclnaaTI
namespace Go.Proofs.Ytoeojopjdeclnaa
open Go.RowKit

/-- Whether the first numbers are all 0. -/
def zeroK (rs : List Nat) (n : Nat) : Bool := (List.range n).all fun k => decide (rs.getD k 0 = 0)
theorem zeroK_succ (rs : List Nat) (k : Nat) : zeroK rs (k + 1) = (zeroK rs k && decide (rs.getD k 0 = 0)) := by
  unfold zeroK
  rw [List.range_succ, List.all_append]
  simp

set_option maxHeartbeats 4000000 in
set_option maxRecDepth 100000 in
theorem FnStillOk_calls (w : World) (v : Value) (ha : ArgB w v) :
    Calls Try.prog 6 #[v] w fun e w' => e = .returned (.bool true) ∧ Kept [] w w' := by
  have HA := Lib.hid ha
  obtain ⟨a, len, cap, rfl, hlc, hcm, _⟩ := ha
  by_cases hbig : 1048576 < len
  · have hb : (1048576 : Int) < (len : Int) := by omega
    clear hbig
    go_enter Try.func6, Try.ntmps6
    go_wp2
    go_ret
    exact ⟨rfl, Kept.refl _ _⟩
  have hb : ¬ (1048576 : Int) < (len : Int) := by omega
  clear hbig
  go_enter Try.func6, Try.ntmps6
  go_wp2_with fail
  refine (drawStillOk_any _ _ HA.out).mono ?_
  rintro e w1 ⟨u, xs, v, ys, rfl, hs, ht, hl1, hl2, hk⟩
  have S1 := Lib.hid hs
  have T1 := Lib.hid ht
  have HK := Lib.hid hk
  clear hk hb
  by_cases ho : Nt.fireB xs 3 ys = true
  · obtain ⟨ns, ks, rfl, rfl, ok, st, hl⟩ := Nt.fireB3_ok ho
    obtain ⟨n, hn⟩ : ∃ n, n = ks.length := ⟨_, rfl⟩
    have hp := st.some
    have h6 := st.few
    have HOK := Lib.hid ok
    have HST := Lib.hid st
    have HL := Lib.hid hl
    have HN := Lib.hid hn
    have HF := Lib.hid (Nt.stillOf_ok ok st hl)
    have HRW : Hid (Nt.tturnedOf (Nt.nats ns) (Nt.nats ks) 1 = Nt.nats (Nt.turnedL ns ks 1)) := Lib.hid (Nt.tturnedOf_ok (t := 1) ok st hl (by omega))
    have HRL : Hid ((Nt.turnedL ns ks 1).length = n) := Lib.hid (by rw [Nt.turnedL_length, hn])
    have HR20 : Hid (Nt.turn ns ks = ks → Nt.trunOf (Nt.nats ns) (Nt.nats ks) 20 = Nt.nats ks) := Lib.hid (fun e => by
      rw [show (20 : Int) = ((20 : Nat) : Int) from rfl, Nt.trunOf_ok (t := 20) ok st hl (by omega), Nt.turns_still e])
    have HZN : Hid (zeroK (Nt.turnedL ns ks 1) n = decide (Nt.turn ns ks = ks)) := Lib.hid (by
      rw [Bool.eq_iff_iff, decide_eq_true_eq, Nt.still_iff st]
      unfold zeroK
      rw [List.all_eq_true]
      constructor
      · intro h k hk
        have h2 := h k (List.mem_range.2 (by omega))
        rw [Nt.turnedL_get _ _ _ hk] at h2
        simpa using h2
      · intro h k hk
        have hk2 := List.mem_range.1 hk
        rw [Nt.turnedL_get _ _ _ (by omega), h k (by omega)]
        rfl)
    have HZS := Lib.hid (fun k => zeroK_succ (Nt.turnedL ns ks 1) k)
    have HZ0 : Hid (zeroK (Nt.turnedL ns ks 1) 0 = true) := Lib.hid rfl
    rw [← hn] at hp h6
    have hne0 : ((n : Int) == 0) = false := beq_eq_false_iff_ne.2 (by omega)
    obtain ⟨gS, capS, rfl, _, _⟩ := hs.row (n := n) (by omega) hp
    obtain ⟨gT, capT, rfl, _, _⟩ := ht.row hn.symm hp
    clear hs ht ok st hl hn ho hl1 hl2
    go_wp2_with fail
    refine (iStill_any _ _ _ _ _ _ _ S1.out T1.out).mono ?_
    rintro e w2 ⟨rfl, hk⟩
    rw [HF.out]
    have S2 := Lib.hid (S1.out.stay hk)
    have T2 := Lib.hid (T1.out.stay hk)
    have HK2 := Lib.hid (HK.out.trans hk (by simp))
    clear S1 T1 HK
    clear hk
    go_wp2_with fail
    refine (sStill_any _ _ _ _ _ _ _ S2.out T2.out).mono ?_
    rintro e w3 ⟨rfl, hk⟩
    rw [HF.out]
    have S3 := Lib.hid (S2.out.stay hk)
    have T3 := Lib.hid (T2.out.stay hk)
    have HK3 := Lib.hid (HK2.out.trans hk (by simp))
    clear S2 T2 HK2
    clear hk
    obtain ⟨q, hqq⟩ : ∃ q, q = decide (Nt.turn ns ks = ks) := ⟨_, rfl⟩
    rw [← hqq]
    have HQQ := Lib.hid hqq
    clear hqq
    have hqe : (q != q) = false := by simp
    go_wp2_with fail
    refine (iTurnedRow_any _ _ _ _ _ _ _ _ S3.out T3.out).mono ?_
    rintro e w4 ⟨u4, rfl, hs, hk⟩
    rw [HRW.out] at hs
    have R4 := Lib.hid hs
    obtain ⟨gR, capR, rfl, hgR, hcR⟩ := hs.row HRL.out hp
    have CR4 := Lib.hid hcR
    have lR4 := Lib.hid hgR
    clear hgR hcR
    have S4 := Lib.hid (S3.out.stay hk)
    have T4 := Lib.hid (T3.out.stay hk)
    have HK4 := Lib.hid (HK3.out.trans hk (by simp))
    clear S3 T3 HK3
    clear hs hk
    have hpos : decide ((0 : Int) < (n : Int)) = true := dec_of (by omega)
    go_wp2_with fail
    go_loopw [7, 8] (fun b i wr => ∃ k : Nat, k ≤ n ∧ i = .int .i64 k ∧ b = .bool (zeroK (Nt.turnedL ns ks 1) k) ∧ Qt w4 wr) (fun _ i _ => n - (intOf i).toNat)
    case atStart => exact ⟨0, Nat.zero_le _, rfl, by rw [HZ0.out]; exact congrArg Value.bool (decide_eq_true (by omega)), Qt.refl _⟩
    case round =>
      obtain ⟨k, hk, rfl, rfl, hq⟩ := hrel
      have HQ := Lib.hid hq
      by_cases hlt : k < n
      · have kR := (hq.cell _).trans (CR4.out k hlt)
        have HB1 := Lib.hid (HZS.out k)
        clear hq
        generalize zeroK (Nt.turnedL ns ks 1) k = b at *
        generalize (Nt.turnedL ns ks 1).getD k 0 = r at *
        cases b
        · have HV : Hid (zeroK (Nt.turnedL ns ks 1) (k + 1) = false) := Lib.hid (by rw [HB1.out]; rfl)
          go_wp2
          go_roundw
          case rel => exact ⟨k + 1, by omega, by go_num, by rw [HV.out] <;> rfl, HQ.out⟩
          case measure => simp [intOf]; omega
        · by_cases h0 : r = 0
          · have HV : Hid (zeroK (Nt.turnedL ns ks 1) (k + 1) = true) := Lib.hid (by rw [HB1.out, h0]; rfl)
            subst h0
            go_wp2
            go_roundw
            case rel => exact ⟨k + 1, by omega, by go_num, by rw [HV.out] <;> rfl, HQ.out⟩
            case measure => simp [intOf]; omega
          · have HV : Hid (zeroK (Nt.turnedL ns ks 1) (k + 1) = false) := Lib.hid (by rw [HB1.out]; simp [h0])
            have d1 : ((r : Int) == 0) = false := by simp; omega
            clear h0
            go_wp2
            go_roundw
            case rel => exact ⟨k + 1, by omega, by go_num, by rw [HV.out] <;> rfl, HQ.out⟩
            case measure => simp [intOf]; omega
      · have hk' : k = n := by omega
        subst hk'
        rw [HZN.out, ← HQQ.out]
        have KQ := Lib.hid (HK4.out.trans hq.kept (by simp))
        have SQ := Lib.hid (hq.sl S4.out)
        have TQ := Lib.hid (hq.sl T4.out)
        clear hq hlt hk
        cases hq2 : q
        · go_wp2_with fail
          refine (alive_any _).mono ?_
          rintro e w21 ⟨rfl, hk⟩
          have S21 := Lib.hid (SQ.out.stay hk)
          have T21 := Lib.hid (TQ.out.stay hk)
          have HK21 := Lib.hid (KQ.out.trans hk (by simp))
          clear SQ TQ KQ
          clear hk
          go_wp2
          go_ret
          exact ⟨rfl, HK21.out⟩
        · have HE : Hid (Nt.turn ns ks = ks) := Lib.hid (of_decide_eq_true (by rw [← HQQ.out]; exact hq2))
          have HRR := Lib.hid (HR20.out HE.out)
          go_wp2_with fail
          refine (iTurnRun_any _ _ _ _ _ _ _ _ SQ.out TQ.out).mono ?_
          rintro e w21 ⟨u21, rfl, hs, hk⟩
          rw [HRR.out] at hs
          have X21 := Lib.hid hs
          have S21 := Lib.hid (SQ.out.stay hk)
          have T21 := Lib.hid (TQ.out.stay hk)
          have HK21 := Lib.hid (KQ.out.trans hk (by simp))
          clear SQ TQ KQ
          clear hs hk
          go_wp2_with fail
          refine (sameInts_any _ _ _ _ _ _ _ X21.out T21.out).mono ?_
          rintro e w22 ⟨rfl, hq⟩
          rw [dec_of rfl]
          have hk := hq.kept
          have S22 := Lib.hid (S21.out.stay hk)
          have T22 := Lib.hid (T21.out.stay hk)
          have X22 := Lib.hid (X21.out.stay hk)
          have HK22 := Lib.hid (HK21.out.trans hk (by simp))
          clear S21 T21 X21 HK21
          clear hk hq
          go_wp2_with fail
          refine (alive_any _).mono ?_
          rintro e w23 ⟨rfl, hk⟩
          have S23 := Lib.hid (S22.out.stay hk)
          have T23 := Lib.hid (T22.out.stay hk)
          have X23 := Lib.hid (X22.out.stay hk)
          have HK23 := Lib.hid (HK22.out.trans hk (by simp))
          clear S22 T22 X22 HK22
          clear hk
          go_wp2
          go_ret
          exact ⟨rfl, HK23.out⟩
  · have ho' : Nt.fireB xs 3 ys = false := by simpa using ho
    have HF := Lib.hid (Nt.stillOf_no ho')
    clear ho'
    have ho' : Nt.fireB xs 3 ys = false := by simpa using ho
    have HFT : Hid (Nt.tturnedOf xs ys 1 = []) := Lib.hid (Nt.tturnedOf_no1 ho')
    clear ho'
    obtain ⟨bS, capS, rfl, _, _, _⟩ := hs.any
    obtain ⟨bT, capT, rfl, _, _, _⟩ := ht.any
    clear hs ht ho hl1 hl2
    go_wp2_with fail
    refine (iStill_any _ _ _ _ _ _ _ S1.out T1.out).mono ?_
    rintro e w2 ⟨rfl, hk⟩
    rw [HF.out]
    have S2 := Lib.hid (S1.out.stay hk)
    have T2 := Lib.hid (T1.out.stay hk)
    have HK2 := Lib.hid (HK.out.trans hk (by simp))
    clear S1 T1 HK
    clear hk
    go_wp2_with fail
    refine (sStill_any _ _ _ _ _ _ _ S2.out T2.out).mono ?_
    rintro e w3 ⟨rfl, hk⟩
    rw [HF.out]
    have S3 := Lib.hid (S2.out.stay hk)
    have T3 := Lib.hid (T2.out.stay hk)
    have HK3 := Lib.hid (HK2.out.trans hk (by simp))
    clear S2 T2 HK2
    clear hk
    go_wp2_with fail
    refine (iTurnedRow_any _ _ _ _ _ _ _ _ S3.out T3.out).mono ?_
    rintro e w4 ⟨u4, rfl, hs, hk⟩
    rw [HFT.out] at hs
    have R4 := Lib.hid hs
    obtain ⟨bR, capR, rfl, _, _, _⟩ := hs.any
    have S4 := Lib.hid (S3.out.stay hk)
    have T4 := Lib.hid (T3.out.stay hk)
    have HK4 := Lib.hid (HK3.out.trans hk (by simp))
    clear S3 T3 HK3
    clear hs hk
    go_wp2_with fail
    refine wp_loop_rounds 1 ?_
    rw [rounds_succ]
    go_wp2_with fail
    refine (alive_any _).mono ?_
    rintro e w5 ⟨rfl, hk⟩
    have S5 := Lib.hid (S4.out.stay hk)
    have T5 := Lib.hid (T4.out.stay hk)
    have R5 := Lib.hid (R4.out.stay hk)
    have HK5 := Lib.hid (HK4.out.trans hk (by simp))
    clear S4 T4 R4 HK4
    clear hk
    go_wp2
    go_ret
    exact ⟨rfl, HK5.out⟩
end Go.Proofs.Ytoeojopjdeclnaa
