/-
  The law of StateOf, walked.
-/
import Derived.Test.YtjogkppgmomggaaD12
import Derived.Test.YtjogkppgmomggaaL1
import Derived.Test.YtjogkppgmomggaaS6
import Derived.Test.YtjogkppgmomggaaS7
namespace Go.Proofs.Ytjogkppgmomggaa
open Go.RowKit

set_option maxHeartbeats 4000000 in
theorem FnStateOf_calls (w : World) (v : Value) (ha : ArgB w v) :
    Calls Try.prog 9 #[v] w fun e w' => e = .returned (.bool true) ∧ Kept [] w w' := by
  have HA := Lib.hid ha
  obtain ⟨a, len, cap, rfl, hlc, hcm, _⟩ := ha
  by_cases hbig : 1048576 < len
  · have hb : (1048576 : Int) < (len : Int) := by omega
    clear hbig
    go_enter Try.func9, Try.ntmps9
    go_wp2
    go_ret
    exact ⟨rfl, Kept.refl _ _⟩
  have hb : ¬ (1048576 : Int) < (len : Int) := by omega
  clear hbig
  go_enter Try.func9, Try.ntmps9
  go_wp2_with fail
  refine (drawStateOf_any _ _ HA.out).mono ?_
  rintro e w1 ⟨nodes, kinds, number, rfl, hN, hk⟩
  have HK := Lib.hid hk
  clear hk hb
  by_cases hin : (1 ≤ nodes ∧ nodes ≤ 6) ∧ (3 ≤ kinds ∧ kinds ≤ 5) ∧ 0 ≤ number ∧ number < kinds ^ nodes.toNat
  · obtain ⟨n, rfl⟩ := Int.eq_ofNat_of_zero_le (show 0 ≤ nodes by omega)
    obtain ⟨c, rfl⟩ := Int.eq_ofNat_of_zero_le (show 0 ≤ kinds by omega)
    obtain ⟨m, rfl⟩ := Int.eq_ofNat_of_zero_le hin.2.2.1
    have hm : m < c ^ n := by have := hin.2.2.2; rw [Int.toNat_natCast] at this; exact_mod_cast this
    have n1 : 1 ≤ n := by omega
    have n6 : n ≤ 6 := by omega
    have c3 : 3 ≤ c := by omega
    have c5 : c ≤ 5 := by omega
    have HF := Lib.hid (Nt.stateOf_ok ⟨n1, n6⟩ ⟨c3, c5⟩ hm)
    have HST := Lib.hid (Nt.digits_st c3 c5 n1 n6 m)
    have HL := Lib.hid (Nt.digits_length c m n)
    have HNU := Lib.hid (Nt.num_digits (c := c) (by omega) n m hm)
    clear hin hm
    go_wp2_with fail
    refine (iStateOf_any (n : Int) (c : Int) (m : Int) hN _).mono ?_
    rintro e w2 ⟨u2, rfl, hs2, hk2⟩
    rw [HF.out] at hs2
    obtain ⟨g2, cap2, rfl, _, _⟩ := hs2.row HL.out n1
    have HS2 := Lib.hid hs2
    have HK2 := Lib.hid (HK.out.trans hk2 (by simp))
    clear hs2 hk2 HK
    go_wp2_with fail
    refine (sStateOf_any (n : Int) (c : Int) (m : Int) hN _).mono ?_
    rintro e w3 ⟨u3, rfl, hs3, hk3⟩
    rw [HF.out] at hs3
    have HT3 := Lib.hid hs3
    have HS3 := Lib.hid (HS2.out.stay hk3)
    have HK3 := Lib.hid (HK2.out.trans hk3 (by simp))
    clear hs3 hk3 HS2 HK2
    go_wp2_with fail
    refine (sameInts_any _ _ _ _ _ _ _ HS3.out HT3.out).mono ?_
    rintro e w4 ⟨rfl, hq⟩
    rw [dec_of rfl]
    have HS4 := Lib.hid (hq.sl HS3.out)
    have HK4 := Lib.hid (HK3.out.trans hq.kept (by simp))
    have hne0 : ((n : Int) == 0) = false := beq_eq_false_iff_ne.2 (by omega)
    have HYES := Lib.hid (Nt.st_stB HST.out)
    have HV : Hid (Nt.numberOf (c : Int) (Nt.nats (Nt.digits c m n)) = (m : Int)) := Lib.hid (by rw [Nt.numberOf_ok HST.out, HNU.out])
    clear hq HS3 HK3 HT3
    go_wp2_with fail
    refine (iStateOk_any (c : Int) (Nt.nats (Nt.digits c m n)) _ _ _ HS4.out).mono ?_
    rintro e w' ⟨rfl, rfl⟩
    rw [HYES.out]
    go_wp2_with fail
    refine (iNumber_any (c : Int) (Nt.nats (Nt.digits c m n)) _ _ _ HS4.out).mono ?_
    rintro e w5 ⟨rfl, hk5⟩
    rw [HV.out]
    have HK5 := Lib.hid (HK4.out.trans hk5 (by simp))
    clear hk5
    go_wp2
    go_ret
    exact ⟨by simp, HK5.out⟩
  · have HF := Lib.hid (Nt.stateOf_no hin)
    clear hin
    go_wp2_with fail
    refine (iStateOf_any nodes kinds number hN _).mono ?_
    rintro e w2 ⟨u2, rfl, hs2, hk2⟩
    rw [HF.out] at hs2
    obtain ⟨b2, cap2, rfl, _, _, _⟩ := hs2.any
    have HS2 := Lib.hid hs2
    have HK2 := Lib.hid (HK.out.trans hk2 (by simp))
    clear hs2 hk2 HK
    go_wp2_with fail
    refine (sStateOf_any nodes kinds number hN _).mono ?_
    rintro e w3 ⟨u3, rfl, hs3, hk3⟩
    rw [HF.out] at hs3
    have HT3 := Lib.hid hs3
    have HS3 := Lib.hid (HS2.out.stay hk3)
    have HK3 := Lib.hid (HK2.out.trans hk3 (by simp))
    clear hs3 hk3 HS2 HK2
    go_wp2_with fail
    refine (sameInts_any _ _ _ _ _ _ _ HS3.out HT3.out).mono ?_
    rintro e w4 ⟨rfl, hq⟩
    rw [dec_of rfl]
    have HK4 := Lib.hid (HK3.out.trans hq.kept (by simp))
    clear hq HS3 HK3 HT3
    go_wp2_with fail
    refine (alive_any _).mono ?_
    rintro e w5 ⟨rfl, hk⟩
    have HK5 := Lib.hid (HK4.out.trans hk (by simp))
    clear hk
    go_wp2
    go_ret
    exact ⟨rfl, HK5.out⟩
end Go.Proofs.Ytjogkppgmomggaa
