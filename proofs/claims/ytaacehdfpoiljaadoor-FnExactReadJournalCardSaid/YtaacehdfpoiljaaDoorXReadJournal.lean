/-
  The walk of an exact law: ReadJournal of the program answers as its model does.
-/
import Derived.Test.YtaacehdfpoiljaaDoorED
import Derived.Test.YtaacehdfpoiljaaDoorIQ5N
namespace Go.Proofs.YtaacehdfpoiljaaDoor
open Go.RowKit

set_option maxHeartbeats 8000000 in
set_option maxRecDepth 100000 in
theorem ExactReadJournal_calls (z : ByteArray) (w : World) (he : ErrW w) :
    Calls Tryd.prog 13 #[.string z] w fun e w' => e = .returned (.bool true) ∧ Kept [] w w' := by
  have HE := Lib.hid he
  clear he
  have K1 := Lib.hid (Kept.refl [] w)
  by_cases hbig : 1048576 < z.size
  · have hb : (1048576 : Int) < (z.size : Int) := by omega
    clear hbig
    go_enter Tryd.func13, Tryd.ntmps13
    go_wp2
    go_ret
    exact ⟨rfl, Kept.refl _ _⟩
  have hb : ¬ (1048576 : Int) < (z.size : Int) := by omega
  have HZS : Hid (z.size ≤ 1100000) := Lib.hid (by omega)
  clear hbig
  go_enter Tryd.func13, Tryd.ntmps13
  go_wp2_with fail
  refine (sReadJournal_any z HZS.out _).mono ?_
  rintro e w1 ⟨u, rfl, hp, hk⟩
  have HJ := Lib.hid (And.intro (Nt.jlen_le (tx z)) (jgo_count (tx z)))
  have HJZ := Lib.hid (tx_length z)
  generalize hds : Nt.jgo [] (tx z) = ds at *
  have HDS := Lib.hid hds
  generalize hnn : Nt.jlen [] (tx z) = N at *
  have HNN := Lib.hid hnn
  have hxx : ((N : Int) != (N : Int)) = false := by simp
  have HLD : Hid (ds.length ≤ 1100000) := Lib.hid (by have := HJ.out; have := HJZ.out; have := HZS.out; omega)
  clear hds hnn
  have V2 := Lib.hid (hp)
  obtain ⟨ua, uc, rfl, _⟩ := hp.cells
  have K3 := Lib.hid (K1.out.trans hk (by simp))
  clear K1
  have Z4 := Lib.hid (Kept.size (rows := []) hk)
  clear hk hp hb
  have K5 := Lib.hid (Kept.refl [] w1)
  go_wp2_with fail
  refine (iReadJournalN_any z HZS.out _ (HE.out.stay K3.out)).mono ?_
  rintro e w2 ⟨u6, rfl, hp, hk⟩
  rw [HNN.out]
  rw [HDS.out] at hp
  have V7 := Lib.hid (hp)
  obtain ⟨u6a, u6c, rfl, _⟩ := hp.1.cells
  have K8 := Lib.hid (K3.out.trans hk (by simp))
  clear K3
  have K9 := Lib.hid (K5.out.trans hk (by simp))
  clear K5
  have Z10 := Lib.hid (Kept.size (rows := []) hk)
  clear hk hp
  have K11 := Lib.hid (Kept.refl [] w2)
  go_wp2_with fail
  refine (eqDeedS_same ds _ _ _ _ _ (V7.out.stay K11.out).1 (V2.out.stay K9.out)).mono ?_
  rintro e w3 ⟨rfl, hk⟩
  have K12 := Lib.hid (K8.out.trans hk (by simp))
  clear K8
  have K13 := Lib.hid (K9.out.trans hk (by simp))
  clear K9
  have K14 := Lib.hid (K11.out.trans hk (by simp))
  clear K11
  have Z15 := Lib.hid (Kept.size (rows := []) hk)
  clear hk
  go_wp2_with fail
  refine (markDeedS_dn 1 (by omega) ds (by have := HLD.out; omega) _ _ _ _ (V7.out.stay K14.out)).mono ?_
  rintro e w4 ⟨rfl, hp, hk⟩
  have M16 := Lib.hid (hp)
  have Q17 := Lib.hid (hk)
  clear hp hk
  have K18 := Lib.hid (K12.out.kin Q17.out (by have := Z4.out; have := Z10.out; have := Z15.out; omega))
  clear K12
  have K19 := Lib.hid (K13.out.kin Q17.out (by have := Z4.out; have := Z10.out; have := Z15.out; omega))
  clear K13
  have Z20 := Lib.hid (Kin.size Q17.out)
  have K21 := Lib.hid (Kept.refl [] w4)
  have hm0 : decide ((1 : Int) + 3 * (ds.length : Nat) < 0) = false := dec_not (by omega)
  have hmm : ((1 : Int) + 3 * (ds.length : Nat) != (1 : Int) + 3 * (ds.length : Nat)) = false := by simp
  go_wp2_with fail
  refine (heldDeedS_n 1 (by omega) ds.length (by have := HLD.out; omega) _ _ _ (M16.out.stay K21.out).1).mono ?_
  rintro e w5 ⟨rfl, hk⟩
  have K22 := Lib.hid (K18.out.trans hk (by simp))
  clear K18
  have K23 := Lib.hid (K19.out.trans hk (by simp))
  clear K19
  have K24 := Lib.hid (K21.out.trans hk (by simp))
  clear K21
  have Z25 := Lib.hid (Kept.size (rows := []) hk)
  clear hk
  go_wp2_with fail
  refine (iReadJournalN_any z HZS.out _ (HE.out.stay K22.out)).mono ?_
  rintro e w6 ⟨u26, rfl, hp, hk⟩
  rw [HNN.out]
  rw [HDS.out] at hp
  have V27 := Lib.hid (hp)
  obtain ⟨u26a, u26c, rfl, _⟩ := hp.1.cells
  have K28 := Lib.hid (K22.out.trans hk (by simp))
  clear K22
  have K29 := Lib.hid (K23.out.trans hk (by simp))
  clear K23
  have K30 := Lib.hid (K24.out.trans hk (by simp))
  clear K24
  have Z31 := Lib.hid (Kept.size (rows := []) hk)
  clear hk hp
  have K32 := Lib.hid (Kept.refl [] w6)
  go_wp2_with fail
  refine (eqDeedS_same ds _ _ _ _ _ (V27.out.stay K32.out).1 (V2.out.stay K29.out)).mono ?_
  rintro e w7 ⟨rfl, hk⟩
  have K33 := Lib.hid (K28.out.trans hk (by simp))
  clear K28
  have K34 := Lib.hid (K29.out.trans hk (by simp))
  clear K29
  have K35 := Lib.hid (K30.out.trans hk (by simp))
  clear K30
  have K36 := Lib.hid (K32.out.trans hk (by simp))
  clear K32
  have Z37 := Lib.hid (Kept.size (rows := []) hk)
  clear hk
  go_wp2_with fail
  refine (heldDeedS_n 1 (by omega) ds.length (by have := HLD.out; omega) _ _ _ (M16.out.stay K35.out).1).mono ?_
  rintro e w8 ⟨rfl, hk⟩
  have K38 := Lib.hid (K33.out.trans hk (by simp))
  clear K33
  have K39 := Lib.hid (K34.out.trans hk (by simp))
  clear K34
  have K40 := Lib.hid (K35.out.trans hk (by simp))
  clear K35
  have K41 := Lib.hid (K36.out.trans hk (by simp))
  clear K36
  have Z42 := Lib.hid (Kept.size (rows := []) hk)
  clear hk
  go_wp2
  go_ret
  exact ⟨rfl, K38.out⟩
end Go.Proofs.YtaacehdfpoiljaaDoor
