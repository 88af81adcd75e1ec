/-
  The law WindingOf, walked.
-/
import Derived.Test.YtjpnepjpkgffpaaDD
import Derived.Test.YtjpnepjpkgffpaaL1
import Derived.Test.YtjpnepjpkgffpaaXP
import Derived.Test.YtjpnepjpkgffpaaPureXV
import Derived.Test.YtjpnepjpkgffpaaTI
import Derived.Test.YtjpnepjpkgffpaaFA
namespace Go.Proofs.Ytjpnepjpkgffpaa
open Go.RowKit

set_option maxHeartbeats 4000000 in
set_option maxRecDepth 100000 in
theorem FnWindingOf_calls (w : World) (v : Value) (ha : ArgB w v) :
    Calls Try.prog 3 #[v] w fun e w' => e = .returned (.bool true) ∧ Kept [] w w' := by
  have HA := Lib.hid ha
  obtain ⟨a, len, cap, rfl, hlc, hcm, _⟩ := ha
  by_cases hbig : 1048576 < len
  · have hb : (1048576 : Int) < (len : Int) := by omega
    clear hbig
    go_enter Try.func3, Try.ntmps3
    go_wp2
    go_ret
    exact ⟨rfl, Kept.refl _ _⟩
  have hb : ¬ (1048576 : Int) < (len : Int) := by omega
  clear hbig
  go_enter Try.func3, Try.ntmps3
  go_wp2_with fail
  refine (drawWindingOf_any _ _ HA.out).mono ?_
  rintro e w1 ⟨u, xs, v, ys, z, zs, rfl, hs, ht, hz, hl1, hl2, hz1, hz2, hk⟩
  have S1 := Lib.hid hs
  have T1 := Lib.hid ht
  have Z1 := Lib.hid hz
  have HK := Lib.hid hk
  clear hk hb
  obtain ⟨bS, capS, rfl, _, _, _⟩ := hs.any
  obtain ⟨bT, capT, rfl, _, _, _⟩ := ht.any
  obtain ⟨L, hL⟩ : ∃ L, zs.length = L := ⟨_, rfl⟩
  rw [hL] at hz1 hz2
  obtain ⟨gZ, capZ, rfl, _, hgZ⟩ := hz.shape hL (by omega)
  have HCA := Lib.hid hz.caps
  have CZ1 := Lib.hid (fun j (hj : j < L) => (hz.at j (by omega)).1)
  have lZ1 := Lib.hid hgZ
  have HLZ := Lib.hid hL
  clear hs ht hz hL hgZ
  cases hB : Nt.windB xs ys zs
  · have HF := Lib.hid (Nt.windOf_no hB)
    clear hl1 hl2
    go_wp2_with fail
    refine (iWind_any _ _ _ _ _ _ _ _ _ _ S1.out T1.out Z1.out).mono ?_
    rintro e w2 ⟨rfl, hq⟩
    rw [hB, HF.out]
    have hk := hq.kept
    have S2 := Lib.hid (S1.out.stay hk)
    have T2 := Lib.hid (T1.out.stay hk)
    have Z2 := Lib.hid (Z1.out.stay hk)
    have HK2 := Lib.hid (HK.out.trans hk (by simp))
    clear S1 T1 Z1 HK
    clear hk hq
    go_wp2_with fail
    refine (sWind_any _ _ _ _ _ _ _ _ _ _ S2.out T2.out Z2.out).mono ?_
    rintro e w3 ⟨rfl, hq⟩
    rw [hB, HF.out]
    have hk := hq.kept
    have S3 := Lib.hid (S2.out.stay hk)
    have T3 := Lib.hid (T2.out.stay hk)
    have Z3 := Lib.hid (Z2.out.stay hk)
    have HK3 := Lib.hid (HK2.out.trans hk (by simp))
    clear S2 T2 Z2 HK2
    clear hk hq
    go_wp2_with fail
    refine (alive_any _).mono ?_
    rintro e w4 ⟨rfl, hk⟩
    have S4 := Lib.hid (S3.out.stay hk)
    have T4 := Lib.hid (T3.out.stay hk)
    have Z4 := Lib.hid (Z3.out.stay hk)
    have HK4 := Lib.hid (HK3.out.trans hk (by simp))
    clear S3 T3 Z3 HK3
    clear hk
    go_wp2
    go_ret
    exact ⟨rfl, HK4.out⟩
  · obtain ⟨ns, ks, tr, rfl, rfl, rfl, ok, st, hl, htr, hrd⟩ := Nt.windB_ok hB
    obtain ⟨q1, q2, q3⟩ := Nt.wind_small st htr hrd
    have HW1 := Lib.hid (Nt.windOf_ok ok st hl htr hrd)
    have hw2 := Nt.wind_step ok st hl htr hrd
    have hw3 := Nt.wind_turn ok st hl htr hrd
    rw [HW1.out] at hw2 hw3
    have HW2 := Lib.hid hw2
    have HW3 := Lib.hid hw3
    have HCO : Hid (Nt.climbOf (Nt.nats ns) (Nt.nats ks) (Nt.nats tr) = 3 * (Nt.climb ks tr / 3)) := Lib.hid (by rw [Nt.climbOf_ok ok st hl htr]; exact q3)
    have HCB := Lib.hid (Nt.climbB_yes ok st hl htr)
    have HFI := Lib.hid (Nt.stepOf3 ok st hl)
    have HTU := Lib.hid (Nt.turnOf_ok ok st hl)
    generalize Nt.climb ks tr / 3 = N at *
    clear ok st hl htr hrd q3 hw2 hw3 hl1 hl2
    have s1 : IntKind.i64.wrap (3 * N) = 3 * N := IntWalk.i64_in _ (by omega)
    have d1 : (N != N) = false := by simp
    have d2 : (N == N) = true := by simp
    have d3 : (3 * N == 3 * N) = true := by simp
    go_wp2_with fail
    refine (iWind_any _ _ _ _ _ _ _ _ _ _ S1.out T1.out Z1.out).mono ?_
    rintro e w2 ⟨rfl, hq⟩
    rw [hB, HW1.out]
    have hk := hq.kept
    have S2 := Lib.hid (S1.out.stay hk)
    have T2 := Lib.hid (T1.out.stay hk)
    have Z2 := Lib.hid (Z1.out.stay hk)
    have HK2 := Lib.hid (HK.out.trans hk (by simp))
    clear S1 T1 Z1 HK
    clear hk hq
    go_wp2_with fail
    refine (sWind_any _ _ _ _ _ _ _ _ _ _ S2.out T2.out Z2.out).mono ?_
    rintro e w3 ⟨rfl, hq⟩
    rw [hB, HW1.out]
    have hk := hq.kept
    have S3 := Lib.hid (S2.out.stay hk)
    have T3 := Lib.hid (T2.out.stay hk)
    have Z3 := Lib.hid (Z2.out.stay hk)
    have HK3 := Lib.hid (HK2.out.trans hk (by simp))
    clear S2 T2 Z2 HK2
    clear hk hq
    go_wp2_with fail
    refine (iClimbOf_any _ _ _ _ _ _ _ _ _ _ S3.out T3.out Z3.out).mono ?_
    rintro e w4 ⟨rfl, hq⟩
    rw [HCB.out, HCO.out]
    have hk := hq.kept
    have S4 := Lib.hid (S3.out.stay hk)
    have T4 := Lib.hid (T3.out.stay hk)
    have Z4 := Lib.hid (Z3.out.stay hk)
    have HK4 := Lib.hid (HK3.out.trans hk (by simp))
    clear S3 T3 Z3 HK3
    clear hk hq
    go_wp2_with fail
    refine (iFireStep_any _ _ _ _ _ _ _ _ S4.out T4.out).mono ?_
    rintro e w5 ⟨u5, rfl, hs, hk⟩
    rw [HFI.out] at hs
    have F5 := Lib.hid hs
    obtain ⟨bF, capF, rfl, _, _, _⟩ := hs.any
    have S5 := Lib.hid (S4.out.stay hk)
    have T5 := Lib.hid (T4.out.stay hk)
    have Z5 := Lib.hid (Z4.out.stay hk)
    have HK5 := Lib.hid (HK4.out.trans hk (by simp))
    clear S4 T4 Z4 HK4
    clear hs hk
    go_wp2_with fail
    refine (iWind_any _ _ _ _ _ _ _ _ _ _ S5.out F5.out Z5.out).mono ?_
    rintro e w6 ⟨rfl, hq⟩
    rw [HW2.out.1, HW2.out.2]
    have hk := hq.kept
    have S6 := Lib.hid (S5.out.stay hk)
    have T6 := Lib.hid (T5.out.stay hk)
    have Z6 := Lib.hid (Z5.out.stay hk)
    have F6 := Lib.hid (F5.out.stay hk)
    have HK6 := Lib.hid (HK5.out.trans hk (by simp))
    clear S5 T5 Z5 F5 HK5
    clear hk hq
    go_wp2_with fail
    refine (iTurnStep_any _ _ _ _ _ _ _ S6.out T6.out).mono ?_
    rintro e w7 ⟨u7, rfl, hs, hk⟩
    rw [HTU.out] at hs
    have U7 := Lib.hid hs
    obtain ⟨bU, capU, rfl, _, _, _⟩ := hs.any
    have S7 := Lib.hid (S6.out.stay hk)
    have T7 := Lib.hid (T6.out.stay hk)
    have Z7 := Lib.hid (Z6.out.stay hk)
    have F7 := Lib.hid (F6.out.stay hk)
    have HK7 := Lib.hid (HK6.out.trans hk (by simp))
    clear S6 T6 Z6 F6 HK6
    clear hs hk
    go_wp2_with fail
    refine (iWind_any _ _ _ _ _ _ _ _ _ _ S7.out U7.out Z7.out).mono ?_
    rintro e w8 ⟨rfl, hq⟩
    rw [HW3.out.1, HW3.out.2]
    have hk := hq.kept
    have S8 := Lib.hid (S7.out.stay hk)
    have T8 := Lib.hid (T7.out.stay hk)
    have Z8 := Lib.hid (Z7.out.stay hk)
    have F8 := Lib.hid (F7.out.stay hk)
    have U8 := Lib.hid (U7.out.stay hk)
    have HK8 := Lib.hid (HK7.out.trans hk (by simp))
    clear S7 T7 Z7 F7 U7 HK7
    clear hk hq
    go_wp2
    go_ret
    exact ⟨rfl, HK8.out⟩
end Go.Proofs.Ytjpnepjpkgffpaa
