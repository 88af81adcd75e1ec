/-
  The law DeedText, walked.
-/
import Derived.Test.YtaacehdfpoiljaaDoorD41
import Derived.Test.YtaacehdfpoiljaaDoorL1
import Derived.Test.YtaacehdfpoiljaaDoorIQ4
namespace Go.Proofs.YtaacehdfpoiljaaDoor
open Go.RowKit

set_option maxHeartbeats 4000000 in
set_option maxRecDepth 100000 in
theorem FnDeedText_calls (w : World) (v : Value) (ha : ArgB w v) (he : ErrW w) :
    Calls Tryd.prog 5 #[v] w fun e w' => e = .returned (.bool true) ∧ Kept [] w w' := by
  have HA := Lib.hid ha
  have HE := Lib.hid he
  clear he
  obtain ⟨a0, len0, cap0, rfl, hlc0, hcm0, _⟩ := ha
  by_cases hbig0 : 1048576 < len0
  · have hb : (1048576 : Int) < (len0 : Int) := by omega
    clear hbig0
    go_enter Tryd.func5, Tryd.ntmps5
    go_wp2
    go_ret
    exact ⟨rfl, Kept.refl _ _⟩
  have hb0 : ¬ (1048576 : Int) < (len0 : Int) := by omega
  clear hbig0
  have K1 := Lib.hid (Kept.refl [] w)
  go_enter Tryd.func5, Tryd.ntmps5
  go_wp2_with fail
  refine (drawDeedText_any _ _ HA.out).mono ?_
  rintro e w1 ⟨k, a, b, rfl, hk⟩
  have K2 := Lib.hid (K1.out.trans hk (by simp))
  clear K1
  have Z3 := Lib.hid (Kept.size (rows := []) hk)
  clear hk hb0
  have hka : Kept [] w1 (w1.alloc (.cells #[.int .i64 k, .int .i64 a, .int .i64 b] 36)) := (Kept.refl _ _).alloc _
  have B4 := Lib.hid (Bk.new w1 36 #[.int .i64 k, .int .i64 a, .int .i64 b])
  have Z5 := Lib.hid (show w1.heap.size + 1 ≤ (w1.alloc (.cells #[.int .i64 k, .int .i64 a, .int .i64 b] 36)).heap.size from by simp)
  have K6 := Lib.hid (K2.out.trans hka (by simp))
  clear K2
  have Z7 := Lib.hid (Kept.size (rows := []) hka)
  clear hka
  have K9 := Lib.hid (Kept.refl [] (w1.alloc (.cells #[.int .i64 k, .int .i64 a, .int .i64 b] 36)))
  obtain ⟨c10, c11, c12⟩ := (B4.out.stay K9.out).three
  go_wp2_with fail
  generalize (w1.alloc (.cells #[.int .i64 k, .int .i64 a, .int .i64 b] 36)) = W8 at *
  refine (iDeedText_any k a b _).mono ?_
  rintro e w2 ⟨z, rfl, hz, hk⟩
  clear c10 c11 c12
  have HZ := Lib.hid hz
  have K13 := Lib.hid (K6.out.trans hk (by simp))
  clear K6
  have K14 := Lib.hid (K9.out.trans hk (by simp))
  clear K9
  have Z15 := Lib.hid (Kept.size (rows := []) hk)
  clear hk hz
  obtain ⟨c16, c17, c18⟩ := (B4.out.stay K14.out).three
  go_wp2_with fail
  refine (sDeedText_any k a b _).mono ?_
  rintro e w3 ⟨z', rfl, hz, hk⟩
  clear c16 c17 c18
  have d1 : (z.toList == z'.toList) = true := str_yes (by rw [HZ.out, hz])
  have K19 := Lib.hid (K13.out.trans hk (by simp))
  clear K13
  have K20 := Lib.hid (K14.out.trans hk (by simp))
  clear K14
  have Z21 := Lib.hid (Kept.size (rows := []) hk)
  clear hk hz
  by_cases h0 : Nt.deedT ⟨k, a, b⟩ = []
  · skip
    have d3 := empty_yes (s := z) (by rw [HZ.out, h0])
    clear h0
    go_wp2_with fail
    refine (alive_any _).mono ?_
    rintro e w4 ⟨rfl, hk⟩
    have K22 := Lib.hid (K19.out.trans hk (by simp))
    clear K19
    have K23 := Lib.hid (K20.out.trans hk (by simp))
    clear K20
    have Z24 := Lib.hid (Kept.size (rows := []) hk)
    clear hk
    go_wp2
    go_ret
    exact ⟨rfl, K22.out⟩
  · skip
    have d3 := empty_no (s := z) (by rw [HZ.out]; exact h0)
    have HRD : Hid (Nt.readD (tx z) = some ⟨k, a, b⟩) := Lib.hid (Nt.readD_some.2 ⟨HZ.out.symm, by rw [HZ.out]; exact h0⟩)
    have HZS : Hid (z.size ≤ 1100000) := Lib.hid (by rw [← tx_length, HZ.out]; exact Nat.le_trans (deedT_small _) (by omega))
    clear h0
    go_wp2_with fail
    refine (iReadDeed_any z HZS.out _ (HE.out.stay K19.out)).mono ?_
    rintro e w5 ⟨rfl, hk⟩
    rw [(rd_some HRD.out).1, (rd_some HRD.out).2, dv_eq]
    have K25 := Lib.hid (K19.out.trans hk (by simp))
    clear K19
    have K26 := Lib.hid (K20.out.trans hk (by simp))
    clear K20
    have Z27 := Lib.hid (Kept.size (rows := []) hk)
    clear hk
    have hka : Kept [] w5 (w5.alloc (.cells #[.int .i64 k, .int .i64 a, .int .i64 b] 36)) := (Kept.refl _ _).alloc _
    have B28 := Lib.hid (Bk.new w5 36 #[.int .i64 k, .int .i64 a, .int .i64 b])
    have Z29 := Lib.hid (show w5.heap.size + 1 ≤ (w5.alloc (.cells #[.int .i64 k, .int .i64 a, .int .i64 b] 36)).heap.size from by simp)
    have K30 := Lib.hid (K25.out.trans hka (by simp))
    clear K25
    have K31 := Lib.hid (K26.out.trans hka (by simp))
    clear K26
    have Z32 := Lib.hid (Kept.size (rows := []) hka)
    clear hka
    have K34 := Lib.hid (Kept.refl [] (w5.alloc (.cells #[.int .i64 k, .int .i64 a, .int .i64 b] 36)))
    have d5 : (k == k) = true := by simp
    have d6 : (a == a) = true := by simp
    have d7 : (b == b) = true := by simp
    obtain ⟨c35, c36, c37⟩ := (B28.out.stay K34.out).three
    obtain ⟨c38, c39, c40⟩ := (B4.out.stay K31.out).three
    go_wp2
    go_ret
    exact ⟨rfl, K30.out⟩
end Go.Proofs.YtaacehdfpoiljaaDoor
