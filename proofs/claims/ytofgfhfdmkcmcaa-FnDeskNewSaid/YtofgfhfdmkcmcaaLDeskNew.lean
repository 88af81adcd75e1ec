/-
  The law DeskNew, walked.
-/
import Derived.Test.YtofgfhfdmkcmcaaD32
import Derived.Test.YtofgfhfdmkcmcaaDQ1
import Derived.Test.YtofgfhfdmkcmcaaIP9
namespace Go.Proofs.Ytofgfhfdmkcmcaa
open Go.RowKit

theorem dnew_no {p : Nt.Pi} (h : Nt.plB p = false) : Nt.dnew p = Nt.Di.zero := by unfold Nt.dnew; rw [h]; rfl
theorem dnew_yes {p : Nt.Pi} (h : Nt.plB p = true) : Nt.dnew p = ⟨p, []⟩ := by unfold Nt.dnew; rw [h]; rfl

set_option maxHeartbeats 4000000 in
set_option maxRecDepth 100000 in
theorem FnDeskNew_calls (w : World) (v : Value) (ha : ArgB w v) :
    Calls Try.prog 5 #[v] w fun e w' => e = .returned (.bool true) ∧ Kept [] w w' := by
  have HA := Lib.hid ha
  obtain ⟨a, len, cap, rfl, hlc, hcm, _⟩ := ha
  by_cases hbig : 1048576 < len
  · have hb : (1048576 : Int) < (len : Int) := by omega
    clear hbig
    go_enter Try.func5, Try.ntmps5
    go_wp2
    go_ret
    exact ⟨rfl, Kept.refl _ _⟩
  have hb : ¬ (1048576 : Int) < (len : Int) := by omega
  clear hbig
  go_enter Try.func5, Try.ntmps5
  go_wp2_with fail
  refine (drawDeskNew_any _ _ HA.out).mono ?_
  rintro e w1 ⟨y, p, rfl, hp, hl, hk⟩
  have HP0 := Lib.hid hp
  obtain ⟨v1, u1, rfl, h1, h2⟩ := hp
  obtain ⟨b1, c1, rfl, _, _, _⟩ := h1.any
  obtain ⟨b2, c2, rfl, _, _, _⟩ := h2.any
  have hka : Kept [] w1 (w1.alloc (.cells #[.slice b1 p.ns.length c1, .int .i64 p.c, .slice b2 p.ks.length c2] 25)) := (Kept.refl _ _).alloc _
  have HB := Lib.hid (Bk.new w1 25 #[.slice b1 p.ns.length c1, .int .i64 p.c, .slice b2 p.ks.length c2])
  have HP := Lib.hid ((HP0.out.stay hka).mono (Nat.zero_le _))
  have HK := Lib.hid (hk.trans hka (by simp))
  obtain ⟨r0, r1, r2⟩ := HB.out.three
  clear hk hka hb h1 h2 HP0
  go_wp2_with fail
  generalize w1.alloc (.cells #[.slice b1 p.ns.length c1, .int .i64 p.c, .slice b2 p.ks.length c2] 25) = W1 at *
  refine (iDeskNew_any p _ _ 0 HP.out).mono ?_
  rintro e w2 ⟨y2, rfl, hd, hk⟩
  generalize hok : Nt.plB p = ok at *
  have HOK := Lib.hid hok
  clear hok
  obtain ⟨d, hdd⟩ : ∃ d, d = Nt.dnew p := ⟨_, rfl⟩
  rw [← hdd] at hd
  have HDD := Lib.hid hdd
  clear hdd
  have hde := hd.de
  obtain ⟨xa, xn, xcap, xb, xm, xcap2, x3, xn3, xcap3, rfl⟩ := hde.form
  have hka : Kept [] w2 (w2.alloc (.cells #[.slice xa xn xcap, .int .i64 d.now.c, .slice xb xm xcap2, .slice x3 xn3 xcap3] 32)) := (Kept.refl _ _).alloc _
  have HB4 := Lib.hid (Bk.new w2 32 #[.slice xa xn xcap, .int .i64 d.now.c, .slice xb xm xcap2, .slice x3 xn3 xcap3])
  have HD4 := Lib.hid (hde.stay hka)
  have HB2 := Lib.hid ((HB.out.stay hk).stay hka)
  have HP2 := Lib.hid ((HP.out.stay hk).stay hka)
  have HK2 := Lib.hid ((HK.out.trans hk (by simp)).trans hka (by simp))
  clear hk hka hd hde r0 r1 r2 HB HP HK
  obtain ⟨r0, r1, r2⟩ := HB2.out.three
  obtain ⟨s0, s1, s2, s3⟩ := HB4.out.four
  go_wp2_with fail
  generalize w2.alloc (.cells #[.slice xa xn xcap, .int .i64 d.now.c, .slice xb xm xcap2, .slice x3 xn3 xcap3] 32) = W2 at *
  refine (sDeskNew_any p _ _ 0 HP2.out).mono ?_
  rintro e w3 ⟨y3, rfl, hdv, hk⟩
  rw [HOK.out]
  rw [← HDD.out] at hdv
  obtain ⟨v3, u3, r3, rfl, g1, g2, g3⟩ := id hdv
  obtain ⟨za, zc, rfl, _, _, _⟩ := g1.any
  obtain ⟨zb, zc2, rfl, _, _, _⟩ := g2.any
  obtain ⟨z3, zc3, rfl⟩ := g3.any3
  have hka : Kept [] w3 (w3.alloc (.cells #[.slice za d.now.ns.length zc, .int .i64 d.now.c, .slice zb d.now.ks.length zc2, .slice z3 d.past.length zc3] 32)) := (Kept.refl _ _).alloc _
  have HB6 := Lib.hid (Bk.new w3 32 #[.slice za d.now.ns.length zc, .int .i64 d.now.c, .slice zb d.now.ks.length zc2, .slice z3 d.past.length zc3])
  have HV6 := Lib.hid (hdv.stay hka)
  have HD6 := Lib.hid ((HD4.out.stay hk).stay hka)
  have HB46 := Lib.hid ((HB4.out.stay hk).stay hka)
  have HB3 := Lib.hid ((HB2.out.stay hk).stay hka)
  have HP3 := Lib.hid ((HP2.out.stay hk).stay hka)
  have HK3 := Lib.hid ((HK2.out.trans hk (by simp)).trans hka (by simp))
  clear hk hka hdv g1 g2 g3 r0 r1 r2 s0 s1 s2 s3 HB2 HP2 HK2 HB4 HD4
  obtain ⟨s0, s1, s2, s3⟩ := HB46.out.four
  obtain ⟨q0, q1, q2, q3⟩ := HB6.out.four
  go_wp2_with fail
  generalize w3.alloc (.cells #[.slice za d.now.ns.length zc, .int .i64 d.now.c, .slice zb d.now.ks.length zc2, .slice z3 d.past.length zc3] 32) = W3 at *
  refine (sameDesk_any d d _ _ _ 0 _ HD6.out.dv HV6.out).mono ?_
  rintro e w4 ⟨b, rfl, hb, hk⟩
  rw [hb rfl]
  have HD7 := Lib.hid (HD6.out.stay hk)
  have HB7 := Lib.hid (HB46.out.stay hk)
  have HB8 := Lib.hid (HB3.out.stay hk)
  have HP7 := Lib.hid (HP3.out.stay hk)
  have HK7 := Lib.hid (HK3.out.trans hk (by simp))
  clear hk hb s0 s1 s2 s3 q0 q1 q2 q3 HB6 HV6 HD6 HB46 HB3 HP3 HK3
  obtain ⟨s0, s1, s2, s3⟩ := HB7.out.four
  obtain ⟨r0, r1, r2⟩ := HB8.out.three
  cases ok
  · have HZ := Lib.hid (HDD.out.trans (dnew_no HOK.out))
    go_wp2_with fail
    refine (noDesk_zero _ _ _ d HZ.out HD7.out.dv).mono ?_
    rintro e w5 ⟨rfl, hk⟩
    have HP9 := Lib.hid (HP7.out.stay hk)
    have HB9 := Lib.hid (HB8.out.stay hk)
    have HK9 := Lib.hid (HK7.out.trans hk (by simp))
    clear hk s0 s1 s2 s3 r0 r1 r2
    obtain ⟨r0, r1, r2⟩ := HB9.out.three
    go_wp2_with fail
    refine (iPlaceOk_any p _ _ 0 HP9.out).mono ?_
    rintro e w6 ⟨rfl, hk⟩
    rw [HOK.out]
    have HK10 := Lib.hid (HK9.out.trans hk (by simp))
    clear hk
    go_wp2_with fail
    refine (alive_any _).mono ?_
    rintro e w7 ⟨rfl, hk⟩
    have HK11 := Lib.hid (HK10.out.trans hk (by simp))
    clear hk
    go_wp2
    go_ret
    exact ⟨rfl, HK11.out⟩
  · have HZ := Lib.hid (HDD.out.trans (dnew_yes HOK.out))
    have HOKD : Hid (Nt.dkB d = true) := Lib.hid (by
      rw [HZ.out]
      obtain ⟨q, rfl, hq⟩ := Nt.plB_ok HOK.out
      exact Nt.dkB_yes (e := ⟨q, []⟩) ⟨hq, by simp, by simp⟩)
    have HNP : Hid (d.now = p ∧ xn3 = 0) := Lib.hid (by
      obtain ⟨_, _, _, e, _, _, h3, _⟩ := HD7.out
      have e2 : d.past.length = 0 := by rw [HZ.out]; rfl
      obtain ⟨_, _, e3, _⟩ := h3
      rw [e3] at e
      simp only [Value.agg.injEq] at e
      have e4 := congrArg (fun z => z[3]?) e
      simp at e4
      exact ⟨by rw [HZ.out], by omega⟩)
    have hx0 := HNP.out.2
    have h00 : (((0 : Nat) : Int) == 0) = true := rfl
    subst hx0
    go_wp2_with fail
    refine (iDeskOk_any d _ _ _ HD7.out.dv).mono ?_
    rintro e w5 ⟨rfl, hk⟩
    rw [HOKD.out]
    have HD9 := Lib.hid (HD7.out.stay hk)
    have HB9 := Lib.hid (HB7.out.stay hk)
    have HBP := Lib.hid (HB8.out.stay hk)
    have HP9 := Lib.hid (HP7.out.stay hk)
    have HK9 := Lib.hid (HK7.out.trans hk (by simp))
    have HPN : Hid (Pv w5 0 (.agg #[.slice xa xn xcap, .int .i64 d.now.c, .slice xb xm xcap2]) p) := Lib.hid (by
      obtain ⟨vx, ux, rx, e, h1, h2, _, _⟩ := HD9.out
      have e := Value.agg.inj e
      have e1 := congrArg (fun z => z[0]?) e
      have e2 := congrArg (fun z => z[2]?) e
      simp at e1 e2
      rw [e1, e2, HNP.out.1]
      rw [HNP.out.1] at h1 h2
      exact ⟨_, _, rfl, h1, h2⟩)
    clear hk s0 s1 s2 s3 r0 r1 r2
    obtain ⟨s0, s1, s2, s3⟩ := HB9.out.four
    obtain ⟨r0, r1, r2⟩ := HBP.out.three
    go_wp2_with fail
    refine (lSamePlace_any p p _ _ _ _ _ HPN.out HP9.out).mono ?_
    rintro e w6 ⟨rfl, hk⟩
    rw [dec_of rfl]
    have HB10 := Lib.hid (HB9.out.stay hk)
    have HK10 := Lib.hid (HK9.out.trans hk (by simp))
    clear hk s0 s1 s2 s3 r0 r1 r2
    obtain ⟨s0, s1, s2, s3⟩ := HB10.out.four
    go_wp2
    go_ret
    exact ⟨rfl, HK10.out⟩
end Go.Proofs.Ytofgfhfdmkcmcaa
