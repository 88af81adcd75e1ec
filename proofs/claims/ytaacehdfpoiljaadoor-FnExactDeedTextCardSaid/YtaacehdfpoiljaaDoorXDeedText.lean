/-
  The walk of an exact law: DeedText of the program answers as its model does.
-/
import Derived.Test.YtaacehdfpoiljaaDoorED
import Derived.Test.YtaacehdfpoiljaaDoorPD1
import Derived.Test.YtaacehdfpoiljaaDoorIQ4
namespace Go.Proofs.YtaacehdfpoiljaaDoor
open Go.RowKit

set_option maxHeartbeats 8000000 in
set_option maxRecDepth 100000 in
theorem ExactDeedText_calls (d : Nt.Dd) (w : World) (x : Value) (h : ArgDd w x d) :
    Calls Tryd.prog 10 #[x] w fun e w' => e = .returned (.bool true) ∧ Kept [] w w' := by
  unfold ArgDd at h
  subst h
  obtain ⟨k, a, b⟩ := d
  have K1 := Lib.hid (Kept.refl [] w)
  have hka : Kept [] w (w.alloc (.cells #[.int .i64 k, .int .i64 a, .int .i64 b] 53)) := (Kept.refl _ _).alloc _
  have B2 := Lib.hid (Bk.new w 53 #[.int .i64 k, .int .i64 a, .int .i64 b])
  have Z3 := Lib.hid (show w.heap.size + 1 ≤ (w.alloc (.cells #[.int .i64 k, .int .i64 a, .int .i64 b] 53)).heap.size from by simp)
  have K4 := Lib.hid (K1.out.trans hka (by simp))
  clear K1
  have Z5 := Lib.hid (Kept.size (rows := []) hka)
  clear hka
  have K7 := Lib.hid (Kept.refl [] (w.alloc (.cells #[.int .i64 k, .int .i64 a, .int .i64 b] 53)))
  go_enter Tryd.func10, Tryd.ntmps10
  obtain ⟨c8, c9, c10⟩ := (B2.out.stay K7.out).three
  go_wp2_with fail
  generalize (w.alloc (.cells #[.int .i64 k, .int .i64 a, .int .i64 b] 53)) = W6 at *
  refine (toDeed_any k a b _).mono ?_
  rintro e w1 ⟨rfl, hk⟩
  clear c8 c9 c10
  have K11 := Lib.hid (K4.out.trans hk (by simp))
  clear K4
  have K12 := Lib.hid (K7.out.trans hk (by simp))
  clear K7
  have Z13 := Lib.hid (Kept.size (rows := []) hk)
  clear hk
  go_wp2_with fail
  refine (sDeedText_any k a b _).mono ?_
  rintro e w2 ⟨z1, rfl, hz, hk⟩
  have HZ := Lib.hid hz
  clear hz
  have K14 := Lib.hid (K11.out.trans hk (by simp))
  clear K11
  have K15 := Lib.hid (K12.out.trans hk (by simp))
  clear K12
  have Z16 := Lib.hid (Kept.size (rows := []) hk)
  clear hk
  obtain ⟨c17, c18, c19⟩ := (B2.out.stay K15.out).three
  go_wp2_with fail
  refine (toDeed_any k a b _).mono ?_
  rintro e w3 ⟨rfl, hk⟩
  clear c17 c18 c19
  have K20 := Lib.hid (K14.out.trans hk (by simp))
  clear K14
  have K21 := Lib.hid (K15.out.trans hk (by simp))
  clear K15
  have Z22 := Lib.hid (Kept.size (rows := []) hk)
  clear hk
  go_wp2_with fail
  refine (iDeedText_any k a b _).mono ?_
  rintro e w4 ⟨z2, rfl, hz, hk⟩
  have d1 : (z2.toList == z1.toList) = true := str_yes (by rw [HZ.out, hz])
  clear hz
  have K23 := Lib.hid (K20.out.trans hk (by simp))
  clear K20
  have K24 := Lib.hid (K21.out.trans hk (by simp))
  clear K21
  have Z25 := Lib.hid (Kept.size (rows := []) hk)
  clear hk
  go_wp2
  go_ret
  exact ⟨rfl, K23.out⟩
end Go.Proofs.YtaacehdfpoiljaaDoor
