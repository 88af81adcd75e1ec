/-
  The law OneByOne, walked.
-/
import Derived.Test.YtgibncpgdbldnaaDE
import Derived.Test.YtgibncpgdbldnaaL1
import Derived.Test.YtgibncpgdbldnaaZP
import Derived.Test.YtgibncpgdbldnaaZM
import Derived.Test.YtgibncpgdbldnaaPureQV
namespace Go.Proofs.Ytgibncpgdbldnaa
open Go.RowKit

set_option maxHeartbeats 4000000 in
set_option maxRecDepth 100000 in
theorem FnOneByOne_calls (w : World) (v : Value) (ha : ArgB w v) :
    Calls Try.prog 7 #[v] w fun e w' => e = .returned (.bool true) ∧ Kept [] w w' := by
  have HA := Lib.hid ha
  obtain ⟨a, len, cap, rfl, hlc, hcm, _⟩ := ha
  by_cases hbig : 1048576 < len
  · have hb : (1048576 : Int) < (len : Int) := by omega
    clear hbig
    go_enter Try.func7, Try.ntmps7
    go_wp2
    go_ret
    exact ⟨rfl, Kept.refl _ _⟩
  have hb : ¬ (1048576 : Int) < (len : Int) := by omega
  clear hbig
  go_enter Try.func7, Try.ntmps7
  go_wp2_with fail
  refine (drawOneByOne_any _ _ HA.out).mono ?_
  rintro e w1 ⟨u, xs, v2, nds, x, v3, os, rfl, hs, hd, ht, _, _, _, hk⟩
  have S1 := Lib.hid hs
  have D1 := Lib.hid hd
  have T1 := Lib.hid ht
  have HK := Lib.hid hk
  clear hk
  cases h1 : Nt.onebB xs nds x os
  · have HV : Hid (Nt.onebOf xs nds x os = -1) := Lib.hid (by unfold Nt.onebOf; rw [h1]; rfl)
    clear h1 hb
    obtain ⟨bS, capS, rfl, _, _, _⟩ := hs.any
    obtain ⟨bD, capD, rfl, _, _, _⟩ := hd.any
    obtain ⟨bT, capT, rfl, _, _, _⟩ := ht.any
    clear hs hd ht
    go_wp2_with fail
    refine (iOneByOne_any _ _ _ _ _ _ _ _ _ _ _ S1.out D1.out T1.out).mono ?_
    rintro e w2 ⟨rfl, hk⟩
    rw [HV.out]
    have S2 := Lib.hid (S1.out.stay hk)
    have D2 := Lib.hid (D1.out.stay hk)
    have T2 := Lib.hid (T1.out.stay hk)
    have HK2 := Lib.hid (HK.out.trans hk (by simp))
    clear S1 D1 T1 HK
    clear hk
    go_wp2_with fail
    refine (sOneByOne_any _ _ _ _ _ _ _ _ _ _ _ S2.out D2.out T2.out).mono ?_
    rintro e w3 ⟨rfl, hq⟩
    rw [HV.out]
    have hk := hq.kept
    have S3 := Lib.hid (S2.out.stay hk)
    have D3 := Lib.hid (D2.out.stay hk)
    have T3 := Lib.hid (T2.out.stay hk)
    have HK3 := Lib.hid (HK2.out.trans hk (by simp))
    clear S2 D2 T2 HK2
    clear hk hq
    go_wp2_with fail
    refine (alive_any _).mono ?_
    rintro e w4 ⟨rfl, hk⟩
    have S4 := Lib.hid (S3.out.stay hk)
    have D4 := Lib.hid (D3.out.stay hk)
    have T4 := Lib.hid (T3.out.stay hk)
    have HK4 := Lib.hid (HK3.out.trans hk (by simp))
    clear S3 D3 T3 HK3
    clear hk
    go_wp2
    go_ret
    exact ⟨rfl, HK4.out⟩
  · obtain ⟨h2, h3⟩ := Nt.onebB_split h1
    have HV0 := Lib.hid (Nt.onebOf_yes h2 h3)
    obtain ⟨ns, nd, s, rfl, rfl, rfl, ok, hn, hs2⟩ := Nt.sprB_ok h2
    have HVS := Lib.hid (Nt.sprOf_ok ok hn hs2)
    have HV : Hid (Nt.onebOf (Nt.nats ns) (Nt.nats nd) (s : Int) os = ((Nt.spread ns nd s : Nat) : Int)) := Lib.hid (by rw [HV0.out, HVS.out])
    obtain ⟨bS, capS, rfl, _, _, _⟩ := hs.any
    obtain ⟨bD, capD, rfl, _, _, _⟩ := hd.any
    obtain ⟨bT, capT, rfl, _, _, _⟩ := ht.any
    clear hs hd ht h1 h2 h3 ok hn hs2 hb HV0
    generalize Nt.spread ns nd s = z at *
    generalize Nt.sprN (Nt.nats ns) (Nt.nats nd) (s : Int) = y at *
    have d1 : ((z : Int) != (z : Int)) = false := by simp
    have d2 : ((z : Int) == (z : Int)) = true := by simp
    go_wp2_with fail
    refine (iOneByOne_any _ _ _ _ _ _ _ _ _ _ _ S1.out D1.out T1.out).mono ?_
    rintro e w2 ⟨rfl, hk⟩
    rw [HV.out]
    have S2 := Lib.hid (S1.out.stay hk)
    have D2 := Lib.hid (D1.out.stay hk)
    have T2 := Lib.hid (T1.out.stay hk)
    have HK2 := Lib.hid (HK.out.trans hk (by simp))
    clear S1 D1 T1 HK
    clear hk
    go_wp2_with fail
    refine (sOneByOne_any _ _ _ _ _ _ _ _ _ _ _ S2.out D2.out T2.out).mono ?_
    rintro e w3 ⟨rfl, hq⟩
    rw [HV.out]
    have hk := hq.kept
    have S3 := Lib.hid (S2.out.stay hk)
    have D3 := Lib.hid (D2.out.stay hk)
    have T3 := Lib.hid (T2.out.stay hk)
    have HK3 := Lib.hid (HK2.out.trans hk (by simp))
    clear S2 D2 T2 HK2
    clear hk hq
    go_wp2_with fail
    refine (iSpread_any _ _ _ _ _ _ _ _ S3.out D3.out).mono ?_
    rintro e w4 ⟨rfl, hk⟩
    rw [HVS.out]
    have S4 := Lib.hid (S3.out.stay hk)
    have D4 := Lib.hid (D3.out.stay hk)
    have T4 := Lib.hid (T3.out.stay hk)
    have HK4 := Lib.hid (HK3.out.trans hk (by simp))
    clear S3 D3 T3 HK3
    clear hk
    go_wp2
    go_ret
    exact ⟨rfl, HK4.out⟩
end Go.Proofs.Ytgibncpgdbldnaa
