/-
  The exact law of StoreOk, walked.
-/
import Derived.Test.YtnajdbnacdnnlaaDoorES
import Derived.Test.YtnajdbnacdnnlaaDoorISt1
namespace Go.Proofs.YtnajdbnacdnnlaaDoor
open Go.RowKit

set_option maxHeartbeats 2000000 in
set_option maxRecDepth 100000 in
theorem ExactStoreOk_calls (s : Nt.Si) (w : World) (x : Value) (ha : ArgSt w x s) (he : ErrW w) :
    Calls Tryd.prog 3 #[x] w fun e w' => e = .returned (.bool true) ∧ Kept [] w w' := by
  obtain ⟨z1, z2, n, rfl, rfl, h1, h2⟩ := ha
  have HK0 : Hid (Kept [] w (w.alloc (.cells #[.string z1, .string z2, .int .i64 n] 23))) := Lib.hid ((Kept.refl [] w).alloc _)
  have HB := Lib.hid (Bk.new w 23 #[.string z1, .string z2, .int .i64 n])
  have HE := Lib.hid (he.stay HK0.out)
  obtain ⟨c0, c1, c2⟩ := HB.out.three
  have HSZ := Lib.hid (And.intro h1 h2)
  clear he h1 h2
  go_enter Tryd.func3, Tryd.ntmps3
  go_wp2_with fail
  generalize w.alloc (.cells #[.string z1, .string z2, .int .i64 n] 23) = W0 at *
  refine (szStore_any z1 z2 n HSZ.out.1 HSZ.out.2 _).mono ?_
  rintro e w1 ⟨r, rfl, hr, hk⟩
  have HK1 := Lib.hid (HK0.out.trans hk (by simp))
  have HB1 := Lib.hid (HB.out.stay hk)
  have HE1 := Lib.hid (HE.out.stay hk)
  clear hk c0 c1 c2
  obtain ⟨c0, c1, c2⟩ := HB1.out.three
  by_cases hn : r < 0
  · have hd : decide (r < 0) = true := dec_of hn
    clear hn
    go_wp2
    go_ret
    exact ⟨rfl, HK1.out⟩
  have hd : decide (r < 0) = false := dec_not hn
  have HZ1 : Hid (z1.size ≤ 1100000) := Lib.hid (by have := hr.out hn; omega)
  have HZ2 : Hid (z2.size ≤ 1100000) := Lib.hid (by have := hr.out hn; omega)
  clear hn hr
  go_wp2_with fail
  refine (toStore_any z1 z2 n _).mono ?_
  rintro e w2 ⟨rfl, hk⟩
  have HK2 := Lib.hid (HK1.out.trans hk (by simp))
  have HB2 := Lib.hid (HB1.out.stay hk)
  have HE2 := Lib.hid (HE1.out.stay hk)
  clear hk c0 c1 c2
  go_wp2_with fail
  refine (sStoreOk_any z1 z2 n HZ1.out HZ2.out _).mono ?_
  rintro e w3 ⟨rfl, hk⟩
  have HK3 := Lib.hid (HK2.out.trans hk (by simp))
  have HB3 := Lib.hid (HB2.out.stay hk)
  have HE3 := Lib.hid (HE2.out.stay hk)
  clear hk
  obtain ⟨c0, c1, c2⟩ := HB3.out.three
  generalize hR : Nt.soB (si z1 z2 n) = R at *
  have HR := Lib.hid hR
  clear hR
  go_wp2_with fail
  refine (toStore_any z1 z2 n _).mono ?_
  rintro e w4 ⟨rfl, hk⟩
  have HK4 := Lib.hid (HK3.out.trans hk (by simp))
  have HE4 := Lib.hid (HE3.out.stay hk)
  clear hk c0 c1 c2
  go_wp2_with fail
  refine (iStoreOk_any z1 z2 n HZ1.out HZ2.out _ HE4.out).mono ?_
  rintro e w5 ⟨rfl, hk⟩
  rw [HR.out]
  have HK5 := Lib.hid (HK4.out.trans hk (by simp))
  clear hk
  cases R
  all_goals
    go_wp2
    go_ret
    exact ⟨rfl, HK5.out⟩
end Go.Proofs.YtnajdbnacdnnlaaDoor
