/-
  The walk of an exact law: ReadDeed of the program answers as its model does.
-/
import Derived.Test.YtaacehdfpoiljaaDoorED
import Derived.Test.YtaacehdfpoiljaaDoorPD2
import Derived.Test.YtaacehdfpoiljaaDoorIQ4
namespace Go.Proofs.YtaacehdfpoiljaaDoor
open Go.RowKit

set_option maxHeartbeats 8000000 in
set_option maxRecDepth 100000 in
theorem ExactReadDeed_calls (z : ByteArray) (w : World) (he : ErrW w) :
    Calls Tryd.prog 11 #[.string z] w fun e w' => e = .returned (.bool true) ∧ Kept [] w w' := by
  have HE := Lib.hid he
  clear he
  have K1 := Lib.hid (Kept.refl [] w)
  by_cases hbig : 1048576 < z.size
  · have hb : (1048576 : Int) < (z.size : Int) := by omega
    clear hbig
    go_enter Tryd.func11, Tryd.ntmps11
    go_wp2
    go_ret
    exact ⟨rfl, Kept.refl _ _⟩
  have hb : ¬ (1048576 : Int) < (z.size : Int) := by omega
  have HZS : Hid (z.size ≤ 1100000) := Lib.hid (by omega)
  clear hbig
  go_enter Tryd.func11, Tryd.ntmps11
  go_wp2_with fail
  refine (sReadDeed_any z HZS.out _).mono ?_
  rintro e w1 ⟨rfl, hk⟩
  generalize hD : rdD (tx z) = D at *
  have HD := Lib.hid hD
  generalize hOK : rdB (tx z) = ok at *
  have HOK := Lib.hid hOK
  clear hD hOK
  obtain ⟨k, a, b⟩ := D
  rw [dv_eq]
  have K2 := Lib.hid (K1.out.trans hk (by simp))
  clear K1
  have Z3 := Lib.hid (Kept.size (rows := []) hk)
  clear hk hb
  have hka : Kept [] w1 (w1.alloc (.cells #[.int .i64 k, .int .i64 a, .int .i64 b] 36)) := (Kept.refl _ _).alloc _
  have B4 := Lib.hid (Bk.new w1 36 #[.int .i64 k, .int .i64 a, .int .i64 b])
  have Z5 := Lib.hid (show w1.heap.size + 1 ≤ (w1.alloc (.cells #[.int .i64 k, .int .i64 a, .int .i64 b] 36)).heap.size from by simp)
  have K6 := Lib.hid (K2.out.trans hka (by simp))
  clear K2
  have Z7 := Lib.hid (Kept.size (rows := []) hka)
  clear hka
  have K9 := Lib.hid (Kept.refl [] (w1.alloc (.cells #[.int .i64 k, .int .i64 a, .int .i64 b] 36)))
  go_wp2_with fail
  generalize (w1.alloc (.cells #[.int .i64 k, .int .i64 a, .int .i64 b] 36)) = W8 at *
  refine (iReadDeed_any z HZS.out _ (HE.out.stay K6.out)).mono ?_
  rintro e w2 ⟨rfl, hk⟩
  rw [HD.out, HOK.out, dv_eq]
  have K10 := Lib.hid (K6.out.trans hk (by simp))
  clear K6
  have K11 := Lib.hid (K9.out.trans hk (by simp))
  clear K9
  have Z12 := Lib.hid (Kept.size (rows := []) hk)
  clear hk
  have hka : Kept [] w2 (w2.alloc (.cells #[.int .i64 k, .int .i64 a, .int .i64 b] 36)) := (Kept.refl _ _).alloc _
  have B13 := Lib.hid (Bk.new w2 36 #[.int .i64 k, .int .i64 a, .int .i64 b])
  have Z14 := Lib.hid (show w2.heap.size + 1 ≤ (w2.alloc (.cells #[.int .i64 k, .int .i64 a, .int .i64 b] 36)).heap.size from by simp)
  have K15 := Lib.hid (K10.out.trans hka (by simp))
  clear K10
  have K16 := Lib.hid (K11.out.trans hka (by simp))
  clear K11
  have Z17 := Lib.hid (Kept.size (rows := []) hka)
  clear hka
  have K19 := Lib.hid (Kept.refl [] (w2.alloc (.cells #[.int .i64 k, .int .i64 a, .int .i64 b] 36)))
  obtain ⟨c20, c21, c22⟩ := (B4.out.stay K16.out).three
  obtain ⟨c23, c24, c25⟩ := (B13.out.stay K19.out).three
  go_wp2_with fail
  generalize (w2.alloc (.cells #[.int .i64 k, .int .i64 a, .int .i64 b] 36)) = W18 at *
  refine (eqDeed_same k a b _).mono ?_
  rintro e w3 ⟨rfl, hk⟩
  clear c20 c21 c22 c23 c24 c25
  have K26 := Lib.hid (K15.out.trans hk (by simp))
  clear K15
  have K27 := Lib.hid (K16.out.trans hk (by simp))
  clear K16
  have K28 := Lib.hid (K19.out.trans hk (by simp))
  clear K19
  have Z29 := Lib.hid (Kept.size (rows := []) hk)
  clear hk
  have hxx : (ok != ok) = false := by cases ok <;> rfl
  go_wp2
  go_ret
  exact ⟨rfl, K26.out⟩
end Go.Proofs.YtaacehdfpoiljaaDoor
