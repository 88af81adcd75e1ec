/-
  The law JournalText, walked.
-/
import Derived.Test.YtaacehdfpoiljaaDoorD42
import Derived.Test.YtaacehdfpoiljaaDoorL1
import Derived.Test.YtaacehdfpoiljaaDoorLS
import Derived.Test.YtaacehdfpoiljaaDoorIQ5
namespace Go.Proofs.YtaacehdfpoiljaaDoor
open Go.RowKit

set_option maxHeartbeats 4000000 in
set_option maxRecDepth 100000 in
theorem FnJournalText_calls (w : World) (v : Value) (ha : ArgB w v) (he : ErrW w) :
    Calls Tryd.prog 7 #[v] w fun e w' => e = .returned (.bool true) ∧ Kept [] w w' := by
  have HA := Lib.hid ha
  have HE := Lib.hid he
  clear he
  obtain ⟨a0, len0, cap0, rfl, hlc0, hcm0, _⟩ := ha
  by_cases hbig0 : 1048576 < len0
  · have hb : (1048576 : Int) < (len0 : Int) := by omega
    clear hbig0
    go_enter Tryd.func7, Tryd.ntmps7
    go_wp2
    go_ret
    exact ⟨rfl, Kept.refl _ _⟩
  have hb0 : ¬ (1048576 : Int) < (len0 : Int) := by omega
  clear hbig0
  have K1 := Lib.hid (Kept.refl [] w)
  go_enter Tryd.func7, Tryd.ntmps7
  go_wp2_with fail
  refine (drawJournalText_any _ _ HA.out).mono ?_
  rintro e w1 ⟨u, ds, rfl, hdg, hl, hk⟩
  have K2 := Lib.hid (K1.out.trans hk (by simp))
  clear K1
  have Z3 := Lib.hid (Kept.size (rows := []) hk)
  have G4 := Lib.hid (hdg.mono (Nat.zero_le _))
  have HL := Lib.hid hl
  clear hk hb0 hl hdg
  have K5 := Lib.hid (Kept.refl [] w1)
  go_wp2_with fail
  refine (iJournalText_any ds (by have := HL.out; omega) _ u 0 (G4.out.stay K5.out)).mono ?_
  rintro e w2 ⟨z, rfl, hz, hk⟩
  have HZ := Lib.hid hz
  have K6 := Lib.hid (K2.out.trans hk (by simp))
  clear K2
  have K7 := Lib.hid (K5.out.trans hk (by simp))
  clear K5
  have Z8 := Lib.hid (Kept.size (rows := []) hk)
  clear hk hz
  go_wp2_with fail
  refine (sJournalText_any ds (by have := HL.out; omega) _ u 0 (G4.out.stay K7.out)).mono ?_
  rintro e w3 ⟨z', rfl, hz, hk⟩
  have d1 : (z.toList == z'.toList) = true := str_yes (by rw [HZ.out, hz])
  have K9 := Lib.hid (K6.out.trans hk (by simp))
  clear K6
  have K10 := Lib.hid (K7.out.trans hk (by simp))
  clear K7
  have Z11 := Lib.hid (Kept.size (rows := []) hk)
  clear hk hz
  by_cases h0 : Nt.jtxt ds = []
  · skip
    have d3 := empty_yes (s := z) (by rw [HZ.out, h0])
    clear h0
    go_wp2_with fail
    refine (alive_any _).mono ?_
    rintro e w4 ⟨rfl, hk⟩
    have K12 := Lib.hid (K9.out.trans hk (by simp))
    clear K9
    have K13 := Lib.hid (K10.out.trans hk (by simp))
    clear K10
    have Z14 := Lib.hid (Kept.size (rows := []) hk)
    clear hk
    go_wp2
    go_ret
    exact ⟨rfl, K12.out⟩
  · skip
    have d3 := empty_no (s := z) (by rw [HZ.out]; exact h0)
    have HJ := Lib.hid (jtxt_read h0)
    have HZS : Hid (z.size ≤ 1100000) := Lib.hid (by rw [← tx_length, HZ.out]; exact Nat.le_trans (jtxt_small ds) (by have := HL.out; omega))
    clear h0
    go_wp2_with fail
    refine (iReadJournal_any z HZS.out _ (HE.out.stay K9.out)).mono ?_
    rintro e w5 ⟨x, rfl, hdg, hk⟩
    rw [HZ.out, HJ.out.1] at hdg
    rw [HZ.out, HJ.out.2, ← HZ.out, tx_length]
    have X15 := Lib.hid (hdg)
    have K16 := Lib.hid (K9.out.trans hk (by simp))
    clear K9
    have K17 := Lib.hid (K10.out.trans hk (by simp))
    clear K10
    have Z18 := Lib.hid (Kept.size (rows := []) hk)
    clear hk hdg
    have K19 := Lib.hid (Kept.refl [] w5)
    have d5 : ((z.size : Int) == (z.size : Int)) = true := by simp
    go_wp2_with fail
    refine (sameDeeds_eq ds (by have := HL.out; omega) _ _ _ _ _ (X15.out.stay K19.out) (G4.out.stay K17.out)).mono ?_
    rintro e w6 ⟨rfl, hk⟩
    have K20 := Lib.hid (K16.out.trans hk (by simp))
    clear K16
    have K21 := Lib.hid (K17.out.trans hk (by simp))
    clear K17
    have K22 := Lib.hid (K19.out.trans hk (by simp))
    clear K19
    have Z23 := Lib.hid (Kept.size (rows := []) hk)
    clear hk
    go_wp2
    go_ret
    exact ⟨rfl, K20.out⟩
end Go.Proofs.YtaacehdfpoiljaaDoor
