/-
  The law of NamedState, walked.
-/
import Derived.Test.YtjogkppgmomggaaD10
import Derived.Test.YtjogkppgmomggaaL1
import Derived.Test.YtjogkppgmomggaaS4
import Derived.Test.YtjogkppgmomggaaS5
namespace Go.Proofs.Ytjogkppgmomggaa
open Go.RowKit

theorem canNameSt_cases {c0 : Int} {xs ys : List Int} (h : Nt.canNameSt c0 xs ys = true) : ∃ c ks os, c0 = ((c : Nat) : Int) ∧ xs = Nt.nats ks ∧ ys = Nt.nats os ∧ Nt.St c ks ∧ Nt.Ord ks.length os := by
  unfold Nt.canNameSt at h
  rw [Bool.and_eq_true] at h
  obtain ⟨c, ks, rfl, rfl, h1⟩ := Nt.stB_st h.1
  obtain ⟨os, rfl, h2⟩ := Nt.ordB_ord h.2
  rw [Nt.nats_length] at h2
  exact ⟨c, ks, os, rfl, rfl, rfl, h1, h2⟩

set_option maxHeartbeats 4000000 in
theorem FnNamedState_calls (w : World) (v : Value) (ha : ArgB w v) :
    Calls Try.prog 7 #[v] w fun e w' => e = .returned (.bool true) ∧ Kept [] w w' := by
  have HA := Lib.hid ha
  obtain ⟨a, len, cap, rfl, hlc, hcm, _⟩ := ha
  by_cases hbig : 1048576 < len
  · have hb : (1048576 : Int) < (len : Int) := by omega
    clear hbig
    go_enter Try.func7, Try.ntmps7
    go_wp2
    go_ret
    exact ⟨rfl, Kept.refl _ _⟩
  have hb : ¬ (1048576 : Int) < (len : Int) := by omega
  clear hbig
  go_enter Try.func7, Try.ntmps7
  go_wp2_with fail
  refine (drawNamedState_any _ _ HA.out).mono ?_
  rintro e w1 ⟨u, xs, v, ys, c0, rfl, hs, ht, hl, hk⟩
  have HS := Lib.hid hs
  have HT := Lib.hid ht
  have HK := Lib.hid hk
  clear hk hb
  by_cases hj : Nt.canNameSt c0 xs ys = true
  · obtain ⟨c, ks, os, rfl, rfl, rfl, hst, hord⟩ := canNameSt_cases hj
    obtain ⟨n, hn⟩ : ∃ n, n = ks.length := ⟨_, rfl⟩
    have hp := hst.some
    have hord' : Nt.Ord (Nt.raised c ks).length os := by rw [Nt.raised_length]; exact hord
    have hst' := Nt.raised_st hst
    have hstn := Nt.namedSt_st hst hord
    have HJL := Lib.hid (Nt.namedStOf_ok hst hord)
    have HJ := Lib.hid hj
    have HNL : Hid ((Nt.namedSt ks os).length = n) := Lib.hid (by rw [Nt.namedSt_length, hn])
    have HRO := Lib.hid (Nt.raisedOf_ok hst)
    have HJ2 := Lib.hid (Nt.canNameSt_yes hst' hord')
    have HJL2 : Hid (Nt.namedStOf (c : Int) (Nt.nats (Nt.raised c ks)) (Nt.nats os) = Nt.nats (Nt.raised c (Nt.namedSt ks os))) := Lib.hid (by rw [Nt.namedStOf_ok hst' hord', Nt.raised_named hord])
    have HYES := Lib.hid (Nt.st_stB hstn)
    have HC1 : Hid (Nt.countsOf (c : Int) (Nt.nats (Nt.namedSt ks os)) = Nt.nats (Nt.counts c ks)) := Lib.hid (by rw [Nt.countsOf_ok hstn, Nt.counts_named hord])
    have HC2 := Lib.hid (Nt.countsOf_ok hst)
    have HR2 := Lib.hid (Nt.raisedOf_ok hstn)
    have hol := hord.len
    rw [← hn] at hp hol
    obtain ⟨g, cap1, rfl, _, _⟩ := hs.row hn.symm hp
    obtain ⟨g2, cap2, rfl, _, _⟩ := ht.row hol hp
    clear hs ht hst hord hst' hord' hstn hn hj hl hol
    go_wp2_with fail
    refine (iNamedSt_any (c : Int) (Nt.nats ks) (Nt.nats os) _ _ _ _ _ HS.out HT.out).mono ?_
    rintro e w2 ⟨u2, rfl, hx, hk2⟩
    rw [HJ.out]
    rw [HJL.out] at hx
    obtain ⟨gx, capx, rfl, _, _⟩ := hx.row HNL.out hp
    have HX := Lib.hid hx
    have HS2 := Lib.hid (HS.out.stay hk2)
    have HT2 := Lib.hid (HT.out.stay hk2)
    have HK2 := Lib.hid (HK.out.trans hk2 (by simp))
    clear hx hk2 HS HT HK
    go_wp2_with fail
    refine (sNamedSt_any (c : Int) (Nt.nats ks) (Nt.nats os) _ _ _ _ _ HS2.out HT2.out).mono ?_
    rintro e w3 ⟨u3, rfl, hy, hk3⟩
    rw [HJ.out]
    rw [HJL.out] at hy
    have HY := Lib.hid hy
    have HX3 := Lib.hid (HX.out.stay hk3)
    have HS3 := Lib.hid (HS2.out.stay hk3)
    have HT3 := Lib.hid (HT2.out.stay hk3)
    have HK3 := Lib.hid (HK2.out.trans hk3 (by simp))
    clear hy hk3 HS2 HT2 HK2 HX
    go_wp2_with fail
    refine (sameInts_any _ _ _ _ _ _ _ HX3.out HY.out).mono ?_
    rintro e w4 ⟨rfl, hq⟩
    rw [dec_of rfl]
    have HX4 := Lib.hid (hq.sl HX3.out)
    have HS4 := Lib.hid (hq.sl HS3.out)
    have HT4 := Lib.hid (hq.sl HT3.out)
    have HK4 := Lib.hid (HK3.out.trans hq.kept (by simp))
    clear hq HX3 HS3 HT3 HK3 HY
    go_wp2_with fail
    refine (iRaised_any (c : Int) (Nt.nats ks) _ _ _ HS4.out).mono ?_
    rintro e w5 ⟨u5, rfl, hs5, hk5⟩
    rw [HRO.out] at hs5
    have HR5 := Lib.hid hs5
    have HX5 := Lib.hid (HX4.out.stay hk5)
    have HS5 := Lib.hid (HS4.out.stay hk5)
    have HT5 := Lib.hid (HT4.out.stay hk5)
    have HK5 := Lib.hid (HK4.out.trans hk5 (by simp))
    clear hs5 hk5 HX4 HS4 HT4 HK4
    go_wp2_with fail
    refine (iNamedSt_any (c : Int) (Nt.nats (Nt.raised c ks)) (Nt.nats os) _ _ _ _ _ HR5.out HT5.out).mono ?_
    rintro e w6 ⟨u6, rfl, hs6, hk6⟩
    rw [HJ2.out]
    rw [HJL2.out] at hs6
    have HZ6 := Lib.hid hs6
    have HX6 := Lib.hid (HX5.out.stay hk6)
    have HS6 := Lib.hid (HS5.out.stay hk6)
    have HK6 := Lib.hid (HK5.out.trans hk6 (by simp))
    clear hs6 hk6 HX5 HS5 HT5 HK5 HR5
    go_wp2_with fail
    refine (iStateOk_any (c : Int) (Nt.nats (Nt.namedSt ks os)) _ _ _ HX6.out).mono ?_
    rintro e w' ⟨rfl, rfl⟩
    rw [HYES.out]
    go_wp2_with fail
    refine (iCounts_any (c : Int) (Nt.nats (Nt.namedSt ks os)) _ _ _ HX6.out).mono ?_
    rintro e w7 ⟨u7, rfl, hs7, hk7⟩
    rw [HC1.out] at hs7
    have HA7 := Lib.hid hs7
    have HZ7 := Lib.hid (HZ6.out.stay hk7)
    have HX7 := Lib.hid (HX6.out.stay hk7)
    have HS7 := Lib.hid (HS6.out.stay hk7)
    have HK7 := Lib.hid (HK6.out.trans hk7 (by simp))
    clear hs7 hk7 HZ6 HX6 HS6 HK6
    go_wp2_with fail
    refine (iCounts_any (c : Int) (Nt.nats ks) _ _ _ HS7.out).mono ?_
    rintro e w8 ⟨u8, rfl, hs8, hk8⟩
    rw [HC2.out] at hs8
    have HB8 := Lib.hid hs8
    have HA8 := Lib.hid (HA7.out.stay hk8)
    have HZ8 := Lib.hid (HZ7.out.stay hk8)
    have HX8 := Lib.hid (HX7.out.stay hk8)
    have HK8 := Lib.hid (HK7.out.trans hk8 (by simp))
    clear hs8 hk8 HZ7 HX7 HS7 HK7 HA7
    go_wp2_with fail
    refine (sameInts_any _ _ _ _ _ _ _ HA8.out HB8.out).mono ?_
    rintro e w9 ⟨rfl, hq⟩
    rw [dec_of rfl]
    have HZ9 := Lib.hid (hq.sl HZ8.out)
    have HX9 := Lib.hid (hq.sl HX8.out)
    have HK9 := Lib.hid (HK8.out.trans hq.kept (by simp))
    clear hq HZ8 HX8 HK8 HA8 HB8
    go_wp2_with fail
    refine (iRaised_any (c : Int) (Nt.nats (Nt.namedSt ks os)) _ _ _ HX9.out).mono ?_
    rintro e w10 ⟨u10, rfl, hs10, hk10⟩
    rw [HR2.out] at hs10
    have HR10 := Lib.hid hs10
    have HZ10 := Lib.hid (HZ9.out.stay hk10)
    have HK10 := Lib.hid (HK9.out.trans hk10 (by simp))
    clear hs10 hk10 HZ9 HX9 HK9
    go_wp2_with fail
    refine (sameInts_any _ _ _ _ _ _ _ HZ10.out HR10.out).mono ?_
    rintro e w11 ⟨rfl, hq⟩
    rw [dec_of rfl]
    have HK11 := Lib.hid (HK10.out.trans hq.kept (by simp))
    clear hq
    go_wp2
    go_ret
    exact ⟨rfl, HK11.out⟩
  · have hj' : Nt.canNameSt c0 xs ys = false := by simpa using hj
    have HJ := Lib.hid hj'
    have HJL := Lib.hid (Nt.namedStOf_no hj')
    obtain ⟨b, cap1, rfl, _, _, _⟩ := hs.any
    obtain ⟨b2, cap2, rfl, _, _, _⟩ := ht.any
    clear hs ht hj hj'
    go_wp2_with fail
    refine (iNamedSt_any c0 xs ys _ _ _ _ _ HS.out HT.out).mono ?_
    rintro e w2 ⟨u2, rfl, hx, hk2⟩
    rw [HJ.out]
    rw [HJL.out] at hx
    have HX := Lib.hid hx
    obtain ⟨b3, cap3, rfl, _, _, _⟩ := hx.any
    have HS2 := Lib.hid (HS.out.stay hk2)
    have HT2 := Lib.hid (HT.out.stay hk2)
    have HK2 := Lib.hid (HK.out.trans hk2 (by simp))
    clear hx hk2 HS HT HK
    go_wp2_with fail
    refine (sNamedSt_any c0 xs ys _ _ _ _ _ HS2.out HT2.out).mono ?_
    rintro e w3 ⟨u3, rfl, hy, hk3⟩
    rw [HJ.out]
    rw [HJL.out] at hy
    have HY := Lib.hid hy
    have HX3 := Lib.hid (HX.out.stay hk3)
    have HK3 := Lib.hid (HK2.out.trans hk3 (by simp))
    clear hy hk3 HS2 HT2 HK2 HX
    go_wp2_with fail
    refine (sameInts_any _ _ _ _ _ _ _ HX3.out HY.out).mono ?_
    rintro e w4 ⟨rfl, hq⟩
    rw [dec_of rfl]
    have HK4 := Lib.hid (HK3.out.trans hq.kept (by simp))
    clear hq HX3 HK3 HY
    go_wp2_with fail
    refine (alive_any _).mono ?_
    rintro e w5 ⟨rfl, hk⟩
    have HK5 := Lib.hid (HK4.out.trans hk (by simp))
    clear hk
    go_wp2
    go_ret
    exact ⟨rfl, HK5.out⟩
end Go.Proofs.Ytjogkppgmomggaa
