/-
  The law RiseOf, walked.
-/
import Derived.Test.YthhnhnfflmmmlaaDD
import Derived.Test.YthhnhnfflmmmlaaL1
import Derived.Test.YthhnhnfflmmmlaaUM
import Derived.Test.YthhnhnfflmmmlaaUI
import Derived.Test.YthhnhnfflmmmlaaNA
namespace Go.Proofs.Ythhnhnfflmmmlaa
open Go.RowKit

set_option maxHeartbeats 4000000 in
set_option maxRecDepth 100000 in
theorem FnRiseOf_calls (w : World) (v : Value) (ha : ArgB w v) :
    Calls Try.prog 3 #[v] w fun e w' => e = .returned (.bool true) ∧ Kept [] w w' := by
  have HA := Lib.hid ha
  obtain ⟨a, len, cap, rfl, hlc, hcm, _⟩ := ha
  by_cases hbig : 1048576 < len
  · have hb : (1048576 : Int) < (len : Int) := by omega
    clear hbig
    go_enter Try.func3, Try.ntmps3
    go_wp2
    go_ret
    exact ⟨rfl, Kept.refl _ _⟩
  have hb : ¬ (1048576 : Int) < (len : Int) := by omega
  clear hbig
  go_enter Try.func3, Try.ntmps3
  go_wp2_with fail
  refine (drawRiseOf_any _ _ HA.out).mono ?_
  rintro e w1 ⟨u, xs, a0, b0, rfl, hs, hl, hk⟩
  have S1 := Lib.hid hs
  have HK := Lib.hid hk
  obtain ⟨bS, capS, rfl, _, _, _⟩ := hs.any
  have HB := Lib.hid (Nt.riseOf_back xs a0 b0)
  obtain ⟨r1, r2⟩ := Nt.riseOf_in xs a0 b0
  have HZ := Lib.hid (fun h => Nt.riseOf_no1 (ys := xs) (a := a0) (b := b0) h)
  have HR : Hid (Nt.stB 3 xs = true → Nt.riseOf (Nt.raisedOf 3 xs) a0 b0 = Nt.riseOf xs a0 b0) := Lib.hid (fun h => by
    obtain ⟨ks, rfl, st⟩ := Nt.stB3_st h
    rw [show Nt.raisedOf 3 (Nt.nats ks) = Nt.nats (Nt.raised 3 ks) from Nt.raisedOf_ok st]
    exact Nt.riseOf_raised st a0 b0)
  generalize hr : Nt.riseOf xs a0 b0 = r at *
  have HE := Lib.hid hr
  have d1 : (r != r) = false := by simp
  clear hs hk hb hr
  go_wp2_with fail
  refine (iRiseOf_any _ _ _ _ _ _ S1.out).mono ?_
  rintro e w2 ⟨rfl, hq⟩
  rw [HE.out]
  have hk := hq.kept
  have S2 := Lib.hid (S1.out.stay hk)
  have HK2 := Lib.hid (HK.out.trans hk (by simp))
  clear S1 HK
  clear hk hq
  go_wp2_with fail
  refine (sRiseOf_any _ _ _ _ _ _ S2.out).mono ?_
  rintro e w3 ⟨rfl, hq⟩
  rw [HE.out]
  have hk := hq.kept
  have S3 := Lib.hid (S2.out.stay hk)
  have HK3 := Lib.hid (HK2.out.trans hk (by simp))
  clear S2 HK2
  clear hk hq
  go_wp2_with fail
  refine (sStateOk_any 3 xs _ _ _ S3.out).mono ?_
  rintro e w' ⟨rfl, rfl⟩
  cases ho : Nt.stB 3 xs
  · have hr0 : r = 0 := HZ.out ho
    have d2 : (r == 0) = true := by rw [hr0]; rfl
    clear ho hr0
    go_wp2_with fail
    refine (alive_any _).mono ?_
    rintro e w21 ⟨rfl, hk⟩
    have S21 := Lib.hid (S3.out.stay hk)
    have HK21 := Lib.hid (HK3.out.trans hk (by simp))
    clear S3 HK3
    clear hk
    go_wp2
    go_ret
    exact ⟨rfl, HK21.out⟩
  · have hR := Lib.hid (HR.out ho)
    have s1 : IntKind.i64.wrap (-r) = -r := IntWalk.i64_in _ (by omega)
    have d2 : (-r == -r) = true := by simp
    have d3 : (r == r) = true := by simp
    have d4 : decide (-1 ≤ r) = true := decide_eq_true (by omega)
    have d5 : decide (r ≤ 1) = true := decide_eq_true (by omega)
    clear ho
    go_wp2_with fail
    refine (iRiseOf_any _ _ _ _ _ _ S3.out).mono ?_
    rintro e w31 ⟨rfl, hq⟩
    rw [HB.out]
    have hk := hq.kept
    have S31 := Lib.hid (S3.out.stay hk)
    have HK31 := Lib.hid (HK3.out.trans hk (by simp))
    clear S3 HK3
    clear hk hq
    go_wp2_with fail
    refine (iRaised_any 3 xs _ _ _ S31.out).mono ?_
    rintro e w32 ⟨u32, rfl, hs, hk⟩
    have X32 := Lib.hid hs
    obtain ⟨bX, capX, rfl, _, _, _⟩ := hs.any
    have S32 := Lib.hid (S31.out.stay hk)
    have HK32 := Lib.hid (HK31.out.trans hk (by simp))
    clear S31 HK31
    clear hs hk
    go_wp2_with fail
    refine (iRiseOf_any _ _ _ _ _ _ X32.out).mono ?_
    rintro e w33 ⟨rfl, hq⟩
    rw [hR.out]
    have hk := hq.kept
    have S33 := Lib.hid (S32.out.stay hk)
    have X33 := Lib.hid (X32.out.stay hk)
    have HK33 := Lib.hid (HK32.out.trans hk (by simp))
    clear S32 X32 HK32
    clear hk hq
    go_wp2_with fail
    refine (alive_any _).mono ?_
    rintro e w34 ⟨rfl, hk⟩
    have S34 := Lib.hid (S33.out.stay hk)
    have X34 := Lib.hid (X33.out.stay hk)
    have HK34 := Lib.hid (HK33.out.trans hk (by simp))
    clear S33 X33 HK33
    clear hk
    go_wp2
    go_ret
    exact ⟨rfl, HK34.out⟩
end Go.Proofs.Ythhnhnfflmmmlaa
