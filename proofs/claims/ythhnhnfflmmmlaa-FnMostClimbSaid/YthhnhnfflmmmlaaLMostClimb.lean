/-
  The law MostClimb, walked.
-/
import Derived.Test.YthhnhnfflmmmlaaDD
import Derived.Test.YthhnhnfflmmmlaaL1
import Derived.Test.YthhnhnfflmmmlaaUM
import Derived.Test.YthhnhnfflmmmlaaUI
import Derived.Test.YthhnhnfflmmmlaaTI
namespace Go.Proofs.Ythhnhnfflmmmlaa
open Go.RowKit

set_option maxHeartbeats 4000000 in
set_option maxRecDepth 100000 in
theorem FnMostClimb_calls (w : World) (v : Value) (ha : ArgB w v) :
    Calls Try.prog 6 #[v] w fun e w' => e = .returned (.bool true) ∧ Kept [] w w' := by
  have HA := Lib.hid ha
  obtain ⟨a, len, cap, rfl, hlc, hcm, _⟩ := ha
  by_cases hbig : 1048576 < len
  · have hb : (1048576 : Int) < (len : Int) := by omega
    clear hbig
    go_enter Try.func6, Try.ntmps6
    go_wp2
    go_ret
    exact ⟨rfl, Kept.refl _ _⟩
  have hb : ¬ (1048576 : Int) < (len : Int) := by omega
  clear hbig
  go_enter Try.func6, Try.ntmps6
  go_wp2_with fail
  refine (drawMostClimb_any _ _ HA.out).mono ?_
  rintro e w1 ⟨u, xs, v, ys, s0, rfl, hs, ht, hl1, hl2, hs1, hs2, hk⟩
  have S1 := Lib.hid hs
  have T1 := Lib.hid ht
  have HK := Lib.hid hk
  obtain ⟨bS, capS, rfl, _, _, _⟩ := hs.any
  obtain ⟨bT, capT, rfl, _, _, _⟩ := ht.any
  have hsm := Nt.tturnedOf_small xs ys s0
  clear hk hb hs ht
  go_wp2_with fail
  refine (iMostClimb_any _ _ _ _ _ _ _ _ S1.out T1.out).mono ?_
  rintro e w2 ⟨u2, rfl, hs, hk⟩
  have X2 := Lib.hid hs
  obtain ⟨bX, capX, rfl, _, _, _⟩ := hs.any
  have S2 := Lib.hid (S1.out.stay hk)
  have T2 := Lib.hid (T1.out.stay hk)
  have HK2 := Lib.hid (HK.out.trans hk (by simp))
  clear S1 T1 HK
  clear hs hk
  go_wp2_with fail
  refine (sMostClimb_any _ _ _ _ _ _ _ _ S2.out T2.out).mono ?_
  rintro e w3 ⟨u3, rfl, hs, hk⟩
  have Y3 := Lib.hid hs
  have S3 := Lib.hid (S2.out.stay hk)
  have T3 := Lib.hid (T2.out.stay hk)
  have X3 := Lib.hid (X2.out.stay hk)
  have HK3 := Lib.hid (HK2.out.trans hk (by simp))
  clear S2 T2 X2 HK2
  clear hs hk
  go_wp2_with fail
  refine (sameInts_any _ _ _ _ _ _ _ X3.out Y3.out).mono ?_
  rintro e w4 ⟨rfl, hq⟩
  rw [dec_of rfl]
  have hk := hq.kept
  have S4 := Lib.hid (S3.out.stay hk)
  have T4 := Lib.hid (T3.out.stay hk)
  have X4 := Lib.hid (X3.out.stay hk)
  have Y4 := Lib.hid (Y3.out.stay hk)
  have HK4 := Lib.hid (HK3.out.trans hk (by simp))
  clear S3 T3 X3 Y3 HK3
  clear hk hq
  clear Y4
  by_cases h0 : (Nt.tturnedOf xs ys s0).length = 0
  · have d1 : (((Nt.tturnedOf xs ys s0).length : Int) == 0) = true := by simp [h0]
    clear h0 hsm
    go_wp2_with fail
    refine (alive_any _).mono ?_
    rintro e w21 ⟨rfl, hk⟩
    have S21 := Lib.hid (S4.out.stay hk)
    have T21 := Lib.hid (T4.out.stay hk)
    have X21 := Lib.hid (X4.out.stay hk)
    have HK21 := Lib.hid (HK4.out.trans hk (by simp))
    clear S4 T4 X4 HK4
    clear hk
    go_wp2
    go_ret
    exact ⟨rfl, HK21.out⟩
  · have d1 : (((Nt.tturnedOf xs ys s0).length : Int) == 0) = false := beq_eq_false_iff_ne.2 (by omega)
    clear h0
    go_wp2_with fail
    refine (iTurnedRow_any _ _ _ _ _ _ _ _ S4.out T4.out).mono ?_
    rintro e w31 ⟨u31, rfl, hs, hk⟩
    have Z31 := Lib.hid hs
    have S31 := Lib.hid (S4.out.stay hk)
    have T31 := Lib.hid (T4.out.stay hk)
    have X31 := Lib.hid (X4.out.stay hk)
    have HK31 := Lib.hid (HK4.out.trans hk (by simp))
    clear S4 T4 X4 HK4
    clear hs hk
    go_wp2_with fail
    refine (sameInts_any _ _ _ _ _ _ _ Z31.out X31.out).mono ?_
    rintro e w32 ⟨rfl, hq⟩
    rw [dec_of rfl]
    have hk := hq.kept
    have S32 := Lib.hid (S31.out.stay hk)
    have T32 := Lib.hid (T31.out.stay hk)
    have X32 := Lib.hid (X31.out.stay hk)
    have Z32 := Lib.hid (Z31.out.stay hk)
    have HK32 := Lib.hid (HK31.out.trans hk (by simp))
    clear S31 T31 X31 Z31 HK31
    clear hk hq
    go_wp2
    go_ret
    exact ⟨rfl, HK32.out⟩
end Go.Proofs.Ythhnhnfflmmmlaa
