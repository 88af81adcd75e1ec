/-
  The law of LitState, walked.
-/
import Derived.Test.YtjogkppgmomggaaD11
import Derived.Test.YtjogkppgmomggaaL1
import Derived.Test.YtjogkppgmomggaaS3
namespace Go.Proofs.Ytjogkppgmomggaa
open Go.RowKit

theorem popTo_add (x j : Nat) : ((Nt.popTo x (j + 1) : Nat) : Int) = (Nt.popTo x j : Nat) + (if x.testBit j then 1 else 0 : Int) := by
  rw [Nt.popTo]
  cases x.testBit j <;> simp

set_option maxHeartbeats 4000000 in
theorem FnLitState_calls (w : World) (v : Value) (ha : ArgB w v) :
    Calls Try.prog 5 #[v] w fun e w' => e = .returned (.bool true) ∧ Kept [] w w' := by
  have HA := Lib.hid ha
  obtain ⟨a, len, cap, rfl, hlc, hcm, _⟩ := ha
  by_cases hbig : 1048576 < len
  · have hb : (1048576 : Int) < (len : Int) := by omega
    clear hbig
    go_enter Try.func5, Try.ntmps5
    go_wp2
    go_ret
    exact ⟨rfl, Kept.refl _ _⟩
  have hb : ¬ (1048576 : Int) < (len : Int) := by omega
  clear hbig
  go_enter Try.func5, Try.ntmps5
  go_wp2_with fail
  refine (drawLitState_any _ _ HA.out).mono ?_
  rintro e w1 ⟨nodes, set, rfl, hk⟩
  have HK := Lib.hid hk
  clear hk hb
  by_cases hin : (1 ≤ nodes ∧ nodes ≤ 6) ∧ 0 ≤ set ∧ set < 2 ^ nodes.toNat
  · obtain ⟨n, rfl⟩ := Int.eq_ofNat_of_zero_le (show 0 ≤ nodes by omega)
    obtain ⟨s, rfl⟩ := Int.eq_ofNat_of_zero_le (show 0 ≤ set from hin.2.1)
    have hs : s < 2 ^ n := by have := hin.2.2; rw [Int.toNat_natCast] at this; exact_mod_cast this
    have n1 : 1 ≤ n := by omega
    have n6 : n ≤ 6 := by omega
    have HF := Lib.hid (Nt.litOf_ok n1 n6 hs)
    have HST := Lib.hid (Nt.lit_st (s := s) n1 n6)
    have HL := Lib.hid (Nt.lit_length n s)
    clear hin hs
    go_wp2_with fail
    refine (iLit_any (n : Int) (s : Int) _).mono ?_
    rintro e w2 ⟨u2, rfl, hs2, hk2⟩
    rw [HF.out] at hs2
    obtain ⟨g2, cap2, rfl, _, _⟩ := hs2.row HL.out n1
    have HS2 := Lib.hid hs2
    have HK2 := Lib.hid (HK.out.trans hk2 (by simp))
    clear hs2 hk2 HK
    go_wp2_with fail
    refine (sLit_any (n : Int) (s : Int) _).mono ?_
    rintro e w3 ⟨u3, rfl, hs3, hk3⟩
    rw [HF.out] at hs3
    have HT3 := Lib.hid hs3
    have HS3 := Lib.hid (HS2.out.stay hk3)
    have HK3 := Lib.hid (HK2.out.trans hk3 (by simp))
    clear hs3 hk3 HS2 HK2
    go_wp2_with fail
    refine (sameInts_any _ _ _ _ _ _ _ HS3.out HT3.out).mono ?_
    rintro e w4 ⟨rfl, hq⟩
    rw [dec_of rfl]
    have HS4 := Lib.hid (hq.sl HS3.out)
    have HK4 := Lib.hid (HK3.out.trans hq.kept (by simp))
    have hne0 : ((n : Int) == 0) = false := beq_eq_false_iff_ne.2 (by omega)
    have HCN := Lib.hid (Nt.countsOf_ok HST.out)
    clear hq HS3 HK3 HT3
    go_wp2_with fail
    refine (iCounts_any ((3 : Nat) : Int) (Nt.nats (Nt.lit n s)) _ _ _ HS4.out).mono ?_
    rintro e w5 ⟨u5, rfl, hs5, hk5⟩
    rw [HCN.out] at hs5
    obtain ⟨g5, cap5, rfl, _, hc5⟩ := hs5.row (n := 3) (by rw [Nt.counts, Nt.countsTo_length]) (by omega)
    have c1 := hc5 1 (by omega)
    have c2 := hc5 2 (by omega)
    rw [Nt.lit_fire] at c1
    rw [Nt.lit_tired] at c2
    have HS5 := Lib.hid (HS4.out.stay hk5)
    have HK5 := Lib.hid (HK4.out.trans hk5 (by simp))
    have C1 := Lib.hid c1
    have C2 := Lib.hid c2
    have HYES := Lib.hid (Nt.st_stB HST.out)
    clear hs5 hk5 HS4 HK4 hc5 c1 c2
    go_wp2
    go_loopw [7, 8] (fun q i wr => ∃ k : Nat, k ≤ n ∧ i = .int .i64 k ∧ q = .int .i64 ((Nt.popTo s k : Nat) : Int) ∧ w5 = wr) (fun _ i _ => n - (intOf i).toNat)
    case atStart => exact ⟨0, Nat.zero_le _, rfl, rfl, rfl⟩
    case round =>
      obtain ⟨k, hk, rfl, rfl, rfl⟩ := hrel
      by_cases hlt : k < n
      · have hpl := Nt.popTo_le s k
        have p1 := shr_nonneg s k
        have e1 := shr_bit s k
        have HNX := Lib.hid (popTo_add s k)
        generalize Nt.popTo s k = y at *
        generalize hbt : (if s.testBit k = true then (1 : Int) else 0) = bt at *
        have hbt1 : 0 ≤ bt ∧ bt ≤ 1 := by rw [← hbt]; split <;> omega
        obtain ⟨hbt2, hbt3⟩ := hbt1
        clear hbt
        go_wp2
        go_roundw
        case rel => exact ⟨k + 1, by omega, by go_num, by rw [HNX.out], by first | rfl | trivial⟩
        case measure => simp [intOf]; omega
      · have hk' : k = n := by omega
        subst hk'
        have c1 := C1.out
        have c2 := C2.out
        generalize Nt.popTo s k = y at *
        go_wp2_with fail
        refine (iStateOk_any ((3 : Nat) : Int) (Nt.nats (Nt.lit k s)) _ _ _ HS5.out).mono ?_
        rintro e w' ⟨rfl, rfl⟩
        rw [HYES.out]
        go_wp2
        go_ret
        exact ⟨by simp, HK5.out⟩
  · have HF := Lib.hid (Nt.litOf_no hin)
    clear hin
    go_wp2_with fail
    refine (iLit_any nodes set _).mono ?_
    rintro e w2 ⟨u2, rfl, hs2, hk2⟩
    rw [HF.out] at hs2
    obtain ⟨b2, cap2, rfl, _, _, _⟩ := hs2.any
    have HS2 := Lib.hid hs2
    have HK2 := Lib.hid (HK.out.trans hk2 (by simp))
    clear hs2 hk2 HK
    go_wp2_with fail
    refine (sLit_any nodes set _).mono ?_
    rintro e w3 ⟨u3, rfl, hs3, hk3⟩
    rw [HF.out] at hs3
    have HT3 := Lib.hid hs3
    have HS3 := Lib.hid (HS2.out.stay hk3)
    have HK3 := Lib.hid (HK2.out.trans hk3 (by simp))
    clear hs3 hk3 HS2 HK2
    go_wp2_with fail
    refine (sameInts_any _ _ _ _ _ _ _ HS3.out HT3.out).mono ?_
    rintro e w4 ⟨rfl, hq⟩
    rw [dec_of rfl]
    have HK4 := Lib.hid (HK3.out.trans hq.kept (by simp))
    clear hq HS3 HK3 HT3
    go_wp2_with fail
    refine (alive_any _).mono ?_
    rintro e w5 ⟨rfl, hk⟩
    have HK5 := Lib.hid (HK4.out.trans hk (by simp))
    clear hk
    go_wp2
    go_ret
    exact ⟨rfl, HK5.out⟩
end Go.Proofs.Ytjogkppgmomggaa
