/-
  The exact law of StoreSave, walked.
-/
import Derived.Test.YtnajdbnacdnnlaaGreatDoorQK
import Derived.Test.YtnajdbnacdnnlaaGreatDoorQJ
namespace Go.Proofs.YtnajdbnacdnnlaaGreatDoor
open Go.RowKit

set_option maxHeartbeats 2000000 in
set_option maxRecDepth 100000 in
theorem ExactStoreSave_calls (s : Nt.Si) (w : World) (x : Value) (ha : ArgSt w x s) (he : ErrW w) :
    Calls Tryz.prog 9 #[x] w fun e w' => e = .returned (.bool true) ∧ Kept [] w w' := by
  obtain ⟨z1, z2, n, rfl, rfl, h1, h2⟩ := ha
  have HK0 : Hid (Kept [] w (w.alloc (.cells #[.string z1, .string z2, .int .i64 n] 70))) := Lib.hid ((Kept.refl [] w).alloc _)
  have HB := Lib.hid (Bk.new w 70 #[.string z1, .string z2, .int .i64 n])
  have HE := Lib.hid (he.stay HK0.out)
  obtain ⟨c0, c1, c2⟩ := HB.out.three
  have HSZ := Lib.hid (And.intro h1 h2)
  clear he h1 h2
  go_enter Tryz.func9, Tryz.ntmps9
  go_wp2_with fail
  generalize w.alloc (.cells #[.string z1, .string z2, .int .i64 n] 70) = W0 at *
  refine (szStore_any z1 z2 n HSZ.out.1 HSZ.out.2 _).mono ?_
  rintro e w1 ⟨r, rfl, hr, hk⟩
  have HK1 := Lib.hid (HK0.out.trans hk (by simp))
  have HB1 := Lib.hid (HB.out.stay hk)
  have HE1 := Lib.hid (HE.out.stay hk)
  clear hk c0 c1 c2
  obtain ⟨c0, c1, c2⟩ := HB1.out.three
  by_cases hn : r < 0
  · have hd : decide (r < 0) = true := dec_of hn
    clear hn
    go_wp2
    go_ret
    exact ⟨rfl, HK1.out⟩
  have hd : decide (r < 0) = false := dec_not hn
  have HZ1 : Hid (z1.size ≤ 1100000) := Lib.hid (by have := hr.out hn; omega)
  have HZ2 : Hid (z2.size ≤ 1100000) := Lib.hid (by have := hr.out hn; omega)
  clear hn hr
  go_wp2_with fail
  refine (toStore_any z1 z2 n _).mono ?_
  rintro e w2 ⟨rfl, hk⟩
  have HK2 := Lib.hid (HK1.out.trans hk (by simp))
  have HB2 := Lib.hid (HB1.out.stay hk)
  have HE2 := Lib.hid (HE1.out.stay hk)
  clear hk c0 c1 c2
  go_wp2_with fail
  refine (sSave_any z1 z2 n HZ1.out HZ2.out _).mono ?_
  rintro e w3 ⟨y, rfl, hy, hk⟩
  have HY := Lib.hid hy
  obtain ⟨a3, b3, m3, rfl, _⟩ := hy
  have hka : Kept [] w3 (w3.alloc (.cells #[.string a3, .string b3, .int .i64 m3] 73)) := (Kept.refl _ _).alloc _
  have HA3 := Lib.hid (Bk.new w3 73 #[.string a3, .string b3, .int .i64 m3])
  have HK3 := Lib.hid ((HK2.out.trans hk (by simp)).trans hka (by simp))
  have HB3 := Lib.hid ((HB2.out.stay hk).stay hka)
  have HE3 := Lib.hid ((HE2.out.stay hk).stay hka)
  clear hk hka
  obtain ⟨c0, c1, c2⟩ := HB3.out.three
  unfold sv
  go_wp2_with fail
  generalize w3.alloc (.cells #[.string a3, .string b3, .int .i64 m3] 73) = W3 at *
  refine (toStore_any z1 z2 n _).mono ?_
  rintro e w4 ⟨rfl, hk⟩
  have HK4 := Lib.hid (HK3.out.trans hk (by simp))
  have HE4 := Lib.hid (HE3.out.stay hk)
  have HA4 := Lib.hid (HA3.out.stay hk)
  clear hk c0 c1 c2
  go_wp2_with fail
  refine (iSave_any z1 z2 n HZ1.out HZ2.out _ HE4.out).mono ?_
  rintro e w5 ⟨y, rfl, hy, hk⟩
  have HY2 := Lib.hid hy
  obtain ⟨a5, b5, m5, rfl, _⟩ := hy
  have hka : Kept [] w5 (w5.alloc (.cells #[.string a5, .string b5, .int .i64 m5] 73)) := (Kept.refl _ _).alloc _
  have HA5 := Lib.hid (Bk.new w5 73 #[.string a5, .string b5, .int .i64 m5])
  have HK5 := Lib.hid ((HK4.out.trans hk (by simp)).trans hka (by simp))
  have HA45 := Lib.hid ((HA4.out.stay hk).stay hka)
  clear hk hka
  obtain ⟨c0, c1, c2⟩ := HA45.out.three
  obtain ⟨d0, d1, d2⟩ := HA5.out.three
  unfold sv
  generalize Nt.soB (si z1 z2 n) = R at *
  go_wp2_with fail
  generalize w5.alloc (.cells #[.string a5, .string b5, .int .i64 m5] 73) = W5 at *
  refine (eqStore_is HY2.out HY.out _).mono ?_
  rintro e w6 ⟨rfl, hk⟩
  have HK6 := Lib.hid (HK5.out.trans hk (by simp))
  clear hk c0 c1 c2 d0 d1 d2
  cases R
  all_goals
    go_wp2
    go_ret
    exact ⟨rfl, HK6.out⟩
end Go.Proofs.YtnajdbnacdnnlaaGreatDoor
