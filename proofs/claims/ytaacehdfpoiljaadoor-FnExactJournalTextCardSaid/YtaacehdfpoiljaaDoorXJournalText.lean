/-
  The walk of an exact law: JournalText of the program answers as its model does.
-/
import Derived.Test.YtaacehdfpoiljaaDoorED
import Derived.Test.YtaacehdfpoiljaaDoorPD4
import Derived.Test.YtaacehdfpoiljaaDoorIQ5
namespace Go.Proofs.YtaacehdfpoiljaaDoor
open Go.RowKit

set_option maxHeartbeats 8000000 in
set_option maxRecDepth 100000 in
theorem ExactJournalText_calls (ds : List Nt.Dd) (w : World) (x : Value) (hb : ArgDs w x ds) :
    Calls Tryd.prog 12 #[x] w fun e w' => e = .returned (.bool true) ∧ Kept [] w w' := by
  have HB := Lib.hid hb
  obtain ⟨la, lcap, rfl, hlm, _⟩ := hb
  clear hlm
  have K1 := Lib.hid (Kept.refl [] w)
  go_enter Tryd.func12, Tryd.ntmps12
  go_wp2_with fail
  refine (szDeedS_n ds 1048576 (by omega) (by omega) _ _ (HB.out.stay K1.out)).mono ?_
  rintro e w1 ⟨r, rfl, hr, hk⟩
  have K2 := Lib.hid (K1.out.trans hk (by simp))
  clear K1
  have Z3 := Lib.hid (Kept.size (rows := []) hk)
  clear hk
  by_cases hn : r < 0
  · have hd : decide (r < 0) = true := dec_of hn
    clear hn
    go_wp2
    go_ret
    exact ⟨rfl, K2.out⟩
  have hd : decide (r < 0) = false := dec_not hn
  have HLD := Lib.hid (hr.out hn)
  have HL11 : Hid (ds.length ≤ 1100000) := Lib.hid (by have := HLD.out; omega)
  clear hn hr
  go_wp2_with fail
  refine (toDeedS_dn ds HLD.out _ _ (HB.out.stay K2.out)).mono ?_
  rintro e w2 ⟨u4, rfl, hp, hk⟩
  have P5 := Lib.hid (hp)
  obtain ⟨u4a, u4c, rfl, _⟩ := hp.1.cells
  have K6 := Lib.hid (K2.out.trans hk (by simp))
  clear K2
  have Z7 := Lib.hid (Kept.size (rows := []) hk)
  clear hk hp
  have K8 := Lib.hid (Kept.refl [] w2)
  go_wp2_with fail
  refine (sJournalText_any ds HL11.out _ _ _ (P5.out.stay K8.out).1).mono ?_
  rintro e w3 ⟨z1, rfl, hz, hk⟩
  have HZ := Lib.hid hz
  clear hz
  have K9 := Lib.hid (K6.out.trans hk (by simp))
  clear K6
  have K10 := Lib.hid (K8.out.trans hk (by simp))
  clear K8
  have Z11 := Lib.hid (Kept.size (rows := []) hk)
  clear hk
  go_wp2_with fail
  refine (toDeedS_dn ds HLD.out _ _ (HB.out.stay K9.out)).mono ?_
  rintro e w4 ⟨u12, rfl, hp, hk⟩
  have P13 := Lib.hid (hp)
  obtain ⟨u12a, u12c, rfl, _⟩ := hp.1.cells
  have K14 := Lib.hid (K9.out.trans hk (by simp))
  clear K9
  have K15 := Lib.hid (K10.out.trans hk (by simp))
  clear K10
  have Z16 := Lib.hid (Kept.size (rows := []) hk)
  clear hk hp
  have K17 := Lib.hid (Kept.refl [] w4)
  go_wp2_with fail
  refine (iJournalText_any ds HL11.out _ _ _ (P13.out.stay K17.out).1).mono ?_
  rintro e w5 ⟨z2, rfl, hz, hk⟩
  have d1 : (z2.toList == z1.toList) = true := str_yes (by rw [HZ.out, hz])
  clear hz
  have K18 := Lib.hid (K14.out.trans hk (by simp))
  clear K14
  have K19 := Lib.hid (K15.out.trans hk (by simp))
  clear K15
  have K20 := Lib.hid (K17.out.trans hk (by simp))
  clear K17
  have Z21 := Lib.hid (Kept.size (rows := []) hk)
  clear hk
  go_wp2_with fail
  refine (toDeedS_dn ds HLD.out _ _ (HB.out.stay K18.out)).mono ?_
  rintro e w6 ⟨u22, rfl, hp, hk⟩
  have P23 := Lib.hid (hp)
  have K24 := Lib.hid (K18.out.trans hk (by simp))
  clear K18
  have K25 := Lib.hid (K19.out.trans hk (by simp))
  clear K19
  have K26 := Lib.hid (K20.out.trans hk (by simp))
  clear K20
  have Z27 := Lib.hid (Kept.size (rows := []) hk)
  clear hk hp
  have K28 := Lib.hid (Kept.refl [] w6)
  go_wp2_with fail
  refine (eqDeedS_same ds _ _ _ _ _ (P13.out.stay K26.out).1 (P23.out.stay K28.out).1).mono ?_
  rintro e w7 ⟨rfl, hk⟩
  have K29 := Lib.hid (K24.out.trans hk (by simp))
  clear K24
  have K30 := Lib.hid (K25.out.trans hk (by simp))
  clear K25
  have K31 := Lib.hid (K26.out.trans hk (by simp))
  clear K26
  have K32 := Lib.hid (K28.out.trans hk (by simp))
  clear K28
  have Z33 := Lib.hid (Kept.size (rows := []) hk)
  clear hk
  go_wp2
  go_ret
  exact ⟨rfl, K29.out⟩
end Go.Proofs.YtaacehdfpoiljaaDoor
