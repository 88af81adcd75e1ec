/-
  The law DeskOk, walked.
-/
import Derived.Test.YtofgfhfdmkcmcaaD36
import Derived.Test.YtofgfhfdmkcmcaaL1
import Derived.Test.YtofgfhfdmkcmcaaIP2
namespace Go.Proofs.Ytofgfhfdmkcmcaa
open Go.RowKit

theorem dkB_now {d : Nt.Di} (h : Nt.dkB d = true) : Nt.dkB ⟨d.now, []⟩ = true := by
  have h1 := (dk_parts h).1
  unfold Nt.dkB
  simp [h1]
theorem dkB_zero : Nt.dkB Nt.Di.zero = false := by
  unfold Nt.dkB
  rw [show Nt.plB Nt.Di.zero.now = false from Nt.plB_zero]
  rfl

set_option maxHeartbeats 4000000 in
set_option maxRecDepth 100000 in
theorem FnDeskOk_calls (w : World) (v : Value) (ha : ArgB w v) :
    Calls Try.prog 4 #[v] w fun e w' => e = .returned (.bool true) ∧ Kept [] w w' := by
  have HA := Lib.hid ha
  obtain ⟨a, len, cap, rfl, hlc, hcm, _⟩ := ha
  by_cases hbig : 1048576 < len
  · have hb : (1048576 : Int) < (len : Int) := by omega
    clear hbig
    go_enter Try.func4, Try.ntmps4
    go_wp2
    go_ret
    exact ⟨rfl, Kept.refl _ _⟩
  have hb : ¬ (1048576 : Int) < (len : Int) := by omega
  clear hbig
  go_enter Try.func4, Try.ntmps4
  go_wp2_with fail
  refine (drawDeskOk_any _ _ HA.out).mono ?_
  rintro e w1 ⟨y, d, rfl, hd, hk⟩
  obtain ⟨b1, n1, c1, b2, n2, c2, b3, n3, c3, rfl⟩ := hd.form
  have hka : Kept [] w1 (w1.alloc (.cells #[.slice b1 n1 c1, .int .i64 d.now.c, .slice b2 n2 c2, .slice b3 n3 c3] 32)) := (Kept.refl _ _).alloc _
  have HB := Lib.hid (Bk.new w1 32 #[.slice b1 n1 c1, .int .i64 d.now.c, .slice b2 n2 c2, .slice b3 n3 c3])
  have HD := Lib.hid (hd.stay hka)
  have HK := Lib.hid (hk.trans hka (by simp))
  obtain ⟨r0, r1, r2, r3⟩ := HB.out.four
  clear hk hka hb hd
  go_wp2_with fail
  generalize w1.alloc (.cells #[.slice b1 n1 c1, .int .i64 d.now.c, .slice b2 n2 c2, .slice b3 n3 c3] 32) = W1 at *
  refine (iDeskOk_any d _ _ 0 HD.out.dv).mono ?_
  rintro e w2 ⟨rfl, hk⟩
  have HB2 := Lib.hid (HB.out.stay hk)
  have HD2 := Lib.hid (HD.out.stay hk)
  have HK2 := Lib.hid (HK.out.trans hk (by simp))
  clear hk r0 r1 r2 r3 HB HD HK
  obtain ⟨r0, r1, r2, r3⟩ := HB2.out.four
  generalize hok : Nt.dkB d = ok at *
  have HOK := Lib.hid hok
  have hxx : (ok != ok) = false := by cases ok <;> rfl
  clear hok
  go_wp2_with fail
  refine (sDeskOk_any d _ _ 0 HD2.out.dv).mono ?_
  rintro e w3 ⟨rfl, hk⟩
  rw [HOK.out]
  have HB3 := Lib.hid (HB2.out.stay hk)
  have HD3 := Lib.hid (HD2.out.stay hk)
  have HK3 := Lib.hid (HK2.out.trans hk (by simp))
  clear hk r0 r1 r2 r3 HB2 HD2 HK2
  obtain ⟨r0, r1, r2, r3⟩ := HB3.out.four
  cases ok
  · go_wp2_with fail
    refine (iDeskOk_any Nt.Di.zero _ _ 0 (Dv.zero _ _)).mono ?_
    rintro e w4 ⟨rfl, hk⟩
    rw [dkB_zero]
    have HK4 := Lib.hid (HK3.out.trans hk (by simp))
    clear hk
    go_wp2_with fail
    refine (alive_any _).mono ?_
    rintro e w5 ⟨rfl, hk⟩
    have HK5 := Lib.hid (HK4.out.trans hk (by simp))
    clear hk
    go_wp2
    go_ret
    exact ⟨rfl, HK5.out⟩
  · have HY := Lib.hid (dkB_now HOK.out)
    have HDN : Hid (Dv w3 0 (.agg #[.slice b1 n1 c1, .int .i64 d.now.c, .slice b2 n2 c2, .slice none 0 0]) ⟨d.now, []⟩) := Lib.hid (by
      obtain ⟨v, u, r, e, hv, hu, _⟩ := HD3.out
      simp only [Value.agg.injEq, Array.mk.injEq, List.cons.injEq] at e
      obtain ⟨rfl, _, rfl, _⟩ := e
      exact ⟨_, _, _, rfl, hv, hu, Ps.nil _ _⟩)
    go_wp2_with fail
    refine (iDeskOk_any ⟨d.now, []⟩ _ _ 0 HDN.out).mono ?_
    rintro e w4 ⟨rfl, hk⟩
    rw [HY.out]
    have HK4 := Lib.hid (HK3.out.trans hk (by simp))
    clear hk r0 r1 r2 r3
    go_wp2_with fail
    refine (iDeskOk_any Nt.Di.zero _ _ 0 (Dv.zero _ _)).mono ?_
    rintro e w5 ⟨rfl, hk⟩
    rw [dkB_zero]
    have HK5 := Lib.hid (HK4.out.trans hk (by simp))
    clear hk
    go_wp2_with fail
    refine (alive_any _).mono ?_
    rintro e w6 ⟨rfl, hk⟩
    have HK6 := Lib.hid (HK5.out.trans hk (by simp))
    clear hk
    go_wp2
    go_ret
    exact ⟨rfl, HK6.out⟩
end Go.Proofs.Ytofgfhfdmkcmcaa
