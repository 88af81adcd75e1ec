/-
  The law BestTour, walked.
-/
import Derived.Test.YthhnhnfflmmmlaaDD
import Derived.Test.YthhnhnfflmmmlaaL1
import Derived.Test.YthhnhnfflmmmlaaUM
import Derived.Test.YthhnhnfflmmmlaaUI
namespace Go.Proofs.Ythhnhnfflmmmlaa
open Go.RowKit

theorem ArgB.stay {w w' : World} {v : Value} (h : ArgB w v) (k : Kept [] w w') : ArgB w' v := by
  obtain ⟨a, n, cap, rfl, h1, h2, hc⟩ := h
  refine ⟨a, n, cap, rfl, h1, h2, fun j hj => ?_⟩
  obtain ⟨b, off, u, rfl, hb, hu, hcell⟩ := hc j hj
  exact ⟨b, off, u, rfl, Nat.lt_of_lt_of_le hb k.size, hu, (k.cell (p := ⟨b, off + j, none⟩) hb (by simp)).trans hcell⟩

set_option maxHeartbeats 4000000 in
set_option maxRecDepth 100000 in
theorem FnBestTour_calls (w : World) (v v' : Value) (ha : ArgB w v) (ha' : ArgB w v') :
    Calls Try.prog 7 #[v, v'] w fun e w' => e = .returned (.bool true) ∧ Kept [] w w' := by
  have HA := Lib.hid ha
  have HA' := Lib.hid ha'
  obtain ⟨a, len, cap, rfl, hlc, hcm, _⟩ := ha
  obtain ⟨a', len', cap', rfl, hlc', hcm', _⟩ := ha'
  by_cases hbig : 1048576 < len
  · have hb : (1048576 : Int) < (len : Int) := by omega
    clear hbig
    go_enter Try.func7, Try.ntmps7
    go_wp2
    go_ret
    exact ⟨rfl, Kept.refl _ _⟩
  have hb : ¬ (1048576 : Int) < (len : Int) := by omega
  clear hbig
  by_cases hbig : 1048576 < len'
  · have hb' : (1048576 : Int) < (len' : Int) := by omega
    clear hbig
    go_enter Try.func7, Try.ntmps7
    go_wp2
    go_ret
    exact ⟨rfl, Kept.refl _ _⟩
  have hb' : ¬ (1048576 : Int) < (len' : Int) := by omega
  clear hbig
  go_enter Try.func7, Try.ntmps7
  go_wp2_with fail
  refine (drawBestTour_any _ _ HA.out).mono ?_
  rintro e w1 ⟨u, xs, v, ys, a0, b0, rfl, hs, ht, hl1, hl2, hk⟩
  have S1 := Lib.hid hs
  have T1 := Lib.hid ht
  have HK := Lib.hid hk
  clear hk hb hb'
  by_cases hgood : Nt.fireB xs 3 ys = true ∧ Nt.inB xs.length a0 = true ∧ (0 ≤ b0 ∧ b0 ≤ 11)
  · obtain ⟨h1, h2, h3⟩ := hgood
    obtain ⟨ns, ks, rfl, rfl, ok, st, hl⟩ := Nt.fireB3_ok h1
    obtain ⟨k0, rfl, hK0⟩ := Nt.inB_ok h2
    obtain ⟨t, rfl⟩ := Int.eq_ofNat_of_zero_le h3.1
    rw [Nt.nats_length, ← hl] at hK0
    have ht11 : t ≤ 11 := by omega
    clear h1 h2 h3
    have hk0 := hK0
    obtain ⟨n, hn⟩ : ∃ n, n = ks.length := ⟨_, rfl⟩
    obtain ⟨F, hF⟩ : ∃ F, F = Nt.fewestT ns ks k0 t := ⟨_, rfl⟩
    have hFt := Nt.fewestT_le ns ks k0 t
    have hp := st.some
    have h6 := st.few
    have HF := Lib.hid (Nt.bestOf_ok ok st hl hk0 ht11)
    have HTU := Lib.hid (Nt.tturnedOf_ok (t := t) ok st hl (by omega))
    have HBC := Lib.hid (Nt.best_climb ok st hl hk0 t)
    have htr := Nt.best_tour ok st hl hk0 ht11
    have HTB := Lib.hid (Nt.tour_tourB ok htr)
    have HCB := Lib.hid (Nt.climbB_yes ok st hl htr)
    have HCO := Lib.hid (Nt.climbOf_ok ok st hl htr)
    have HBM := Lib.hid (fun tr (h : Nt.Tour ns tr) h0 hh => Nt.best_most ok st hl hk0 (t := t) (tr := tr) h h0 hh)
    have HBL : Hid ((Nt.best ns ks k0 t).length = F + 1) := Lib.hid (by rw [Nt.best_length, hF])
    have HBH := Lib.hid (Nt.best_head ns ks k0 t)
    have HRL : Hid ((Nt.turnedL ns ks t).length = n) := Lib.hid (by rw [Nt.turnedL_length, hn])
    have HRG := Lib.hid (Nt.turnedL_get ns ks t hk0)
    have HTL := Lib.hid (Nt.turned_le ns ks k0 t)
    rw [← hF] at hFt
    rw [← hn] at hp h6 hk0
    have HOK := Lib.hid ok
    have HST := Lib.hid st
    have HL := Lib.hid hl
    obtain ⟨gS, capS, rfl, _, _⟩ := hs.row (n := n) (by omega) hp
    obtain ⟨gT, capT, rfl, _, _⟩ := ht.row hn.symm hp
    clear hs ht ok st hl hn hF hK0 htr
    go_wp2_with fail
    refine (iBestTour_any _ _ _ _ _ _ _ _ _ S1.out T1.out).mono ?_
    rintro e w2 ⟨u2, rfl, hs, hk⟩
    have hp' := hp; have hp : 0 < F + 1 := by omega
    rw [HF.out] at hs
    have X2 := Lib.hid hs
    obtain ⟨gX, capX, rfl, hgX, hcX⟩ := hs.row HBL.out hp
    have CX2 := Lib.hid hcX
    have lX2 := Lib.hid hgX
    clear hgX hcX
    have S2 := Lib.hid (S1.out.stay hk)
    have T2 := Lib.hid (T1.out.stay hk)
    have HK2 := Lib.hid (HK.out.trans hk (by simp))
    clear S1 T1 HK
    clear hs hk
    clear hp
    have hp := hp'
    clear hp'
    go_wp2_with fail
    refine (sBestTour_any _ _ _ _ _ _ _ _ _ S2.out T2.out).mono ?_
    rintro e w3 ⟨u3, rfl, hs, hk⟩
    rw [HF.out] at hs
    have Y3 := Lib.hid hs
    have S3 := Lib.hid (S2.out.stay hk)
    have T3 := Lib.hid (T2.out.stay hk)
    have X3 := Lib.hid (X2.out.stay hk)
    have CX3 := Lib.hid (fun j (hj : j < F + 1) => (hk.cell (p := ⟨gX, j, none⟩) lX2.out (by simp)).trans (CX2.out j hj))
    have lX3 := Lib.hid (Nat.lt_of_lt_of_le lX2.out hk.size)
    have HK3 := Lib.hid (HK2.out.trans hk (by simp))
    clear S2 T2 X2 CX2 lX2 HK2
    clear hs hk
    go_wp2_with fail
    refine (sameInts_any _ _ _ _ _ _ _ X3.out Y3.out).mono ?_
    rintro e w4 ⟨rfl, hq⟩
    rw [dec_of rfl]
    have hk := hq.kept
    have S4 := Lib.hid (S3.out.stay hk)
    have T4 := Lib.hid (T3.out.stay hk)
    have X4 := Lib.hid (X3.out.stay hk)
    have Y4 := Lib.hid (Y3.out.stay hk)
    have CX4 := Lib.hid (fun j (hj : j < F + 1) => (hk.cell (p := ⟨gX, j, none⟩) lX3.out (by simp)).trans (CX3.out j hj))
    have lX4 := Lib.hid (Nat.lt_of_lt_of_le lX3.out hk.size)
    have HK4 := Lib.hid (HK3.out.trans hk (by simp))
    clear S3 T3 X3 Y3 CX3 lX3 HK3
    clear hk hq
    clear Y4
    have hF0 : (((F + 1 : Nat) : Int) == 0) = false := beq_eq_false_iff_ne.2 (by omega)
    go_wp2_with fail
    refine (iMostClimb_any _ _ _ _ _ _ _ _ S4.out T4.out).mono ?_
    rintro e w5 ⟨u5, rfl, hs, hk⟩
    rw [HTU.out] at hs
    have R5 := Lib.hid hs
    obtain ⟨gR, capR, rfl, hgR, hcR⟩ := hs.row HRL.out hp
    have CR5 := Lib.hid hcR
    have lR5 := Lib.hid hgR
    clear hgR hcR
    have S5 := Lib.hid (S4.out.stay hk)
    have T5 := Lib.hid (T4.out.stay hk)
    have X5 := Lib.hid (X4.out.stay hk)
    have CX5 := Lib.hid (fun j (hj : j < F + 1) => (hk.cell (p := ⟨gX, j, none⟩) lX4.out (by simp)).trans (CX4.out j hj))
    have lX5 := Lib.hid (Nat.lt_of_lt_of_le lX4.out hk.size)
    have HK5 := Lib.hid (HK4.out.trans hk (by simp))
    clear S4 T4 X4 CX4 lX4 HK4
    clear hs hk
    go_wp2_with fail
    refine (iClimbOf_any _ _ _ _ _ _ _ _ _ _ S5.out T5.out X5.out).mono ?_
    rintro e w6 ⟨rfl, hq⟩
    rw [HCO.out, HCB.out, HBC.out]
    have hk := hq.kept
    have S6 := Lib.hid (S5.out.stay hk)
    have T6 := Lib.hid (T5.out.stay hk)
    have X6 := Lib.hid (X5.out.stay hk)
    have R6 := Lib.hid (R5.out.stay hk)
    have CX6 := Lib.hid (fun j (hj : j < F + 1) => (hk.cell (p := ⟨gX, j, none⟩) lX5.out (by simp)).trans (CX5.out j hj))
    have lX6 := Lib.hid (Nat.lt_of_lt_of_le lX5.out hk.size)
    have CR6 := Lib.hid (fun j (hj : j < n) => (hk.cell (p := ⟨gR, j, none⟩) lR5.out (by simp)).trans (CR5.out j hj))
    have lR6 := Lib.hid (Nat.lt_of_lt_of_le lR5.out hk.size)
    have HK6 := Lib.hid (HK5.out.trans hk (by simp))
    clear S5 T5 X5 R5 CX5 lX5 CR5 lR5 HK5
    clear hk hq
    go_wp2_with fail
    refine (drawTourOk_any _ _ (HA'.out.stay HK6.out)).mono ?_
    rintro e w7 ⟨z1, zs1, z2, zs2, rfl, hs1, hs2, hm1, hm2, hm3, hk⟩
    have Z7 := Lib.hid hs2
    obtain ⟨m, hm⟩ : ∃ m, zs2.length = m := ⟨_, rfl⟩
    rw [hm] at hm2 hm3
    obtain ⟨gZ, capZ, rfl, _, hgZ⟩ := hs2.shape hm (by omega)
    have CZ7 := Lib.hid ((hs2.at 0 (by omega)).1)
    have HZM := Lib.hid hm
    have S7 := Lib.hid (S6.out.stay hk)
    have T7 := Lib.hid (T6.out.stay hk)
    have X7 := Lib.hid (X6.out.stay hk)
    have R7 := Lib.hid (R6.out.stay hk)
    have CX7 := Lib.hid (fun j (hj : j < F + 1) => (hk.cell (p := ⟨gX, j, none⟩) lX6.out (by simp)).trans (CX6.out j hj))
    have lX7 := Lib.hid (Nat.lt_of_lt_of_le lX6.out hk.size)
    have CR7 := Lib.hid (fun j (hj : j < n) => (hk.cell (p := ⟨gR, j, none⟩) lR6.out (by simp)).trans (CR6.out j hj))
    have lR7 := Lib.hid (Nat.lt_of_lt_of_le lR6.out hk.size)
    have HK7 := Lib.hid (HK6.out.trans hk (by simp))
    clear S6 T6 X6 R6 CX6 lX6 CR6 lR6 HK6
    clear hk hs1 hs2 hm hgZ hm1
    go_wp2_with fail
    refine (iClimbOf_any _ _ _ _ _ _ _ _ _ _ S7.out T7.out Z7.out).mono ?_
    rintro e w8 ⟨rfl, hq⟩
    have CZ8 := Lib.hid ((hq.cell _).trans CZ7.out)
    have hk := hq.kept
    have S8 := Lib.hid (S7.out.stay hk)
    have T8 := Lib.hid (T7.out.stay hk)
    have X8 := Lib.hid (X7.out.stay hk)
    have R8 := Lib.hid (R7.out.stay hk)
    have Z8 := Lib.hid (Z7.out.stay hk)
    have CX8 := Lib.hid (fun j (hj : j < F + 1) => (hk.cell (p := ⟨gX, j, none⟩) lX7.out (by simp)).trans (CX7.out j hj))
    have lX8 := Lib.hid (Nat.lt_of_lt_of_le lX7.out hk.size)
    have CR8 := Lib.hid (fun j (hj : j < n) => (hk.cell (p := ⟨gR, j, none⟩) lR7.out (by simp)).trans (CR7.out j hj))
    have lR8 := Lib.hid (Nat.lt_of_lt_of_le lR7.out hk.size)
    have HK8 := Lib.hid (HK7.out.trans hk (by simp))
    clear S7 T7 X7 R7 Z7 CX7 lX7 CR7 lR7 HK7
    clear hk hq
    go_wp2_with fail
    refine (iTourOk_any _ _ _ _ _ _ _ S8.out X8.out).mono ?_
    rintro e w' ⟨rfl, rfl⟩
    rw [HTB.out]
    have cX := CX8.out 0 (by omega)
    rw [HBH.out] at cX
    have cR := CR8.out k0 hk0
    rw [HRG.out] at cR
    have cZ := CZ8.out
    have htl := HTL.out
    generalize hT : Nt.turned ns ks k0 t = T at *
    have HMAX : Hid (Nt.climbB (Nt.nats ns) (Nt.nats ks) zs2 = true → zs2.getD 0 0 = (k0 : Int) → m ≤ t + 1 → Nt.climbOf (Nt.nats ns) (Nt.nats ks) zs2 ≤ (T : Int)) := Lib.hid (fun h h0 hh => by
      obtain ⟨ns', ks', tr, e1, e2, rfl, ok, st, hl, htr⟩ := Nt.climbB_ok h
      have e1' := Nt.nats_inj e1
      have e2' := Nt.nats_inj e2
      subst e1' e2'
      rw [Nt.climbOf_ok ok st hl htr]
      have h1 := HBM.out tr htr (by rw [Nt.nats_get] at h0; omega) (by have := HZM.out; rw [Nt.nats_length] at this; omega)
      rw [HBC.out] at h1
      exact h1)
    generalize hv : Nt.climbB (Nt.nats ns) (Nt.nats ks) zs2 = may at *
    generalize hc : Nt.climbOf (Nt.nats ns) (Nt.nats ks) zs2 = o at *
    generalize hz : zs2.getD 0 0 = z at *
    clear hT hv hc hz
    have d1 : ((k0 : Int) == (k0 : Int)) = true := by simp
    have d2 : decide (((F + 1 : Nat) : Int) ≤ (t : Int) + 1) = true := decide_eq_true (by omega)
    have d3 : decide ((k0 : Int) < (n : Int)) = true := decide_eq_true (by omega)
    have d4 : ((T : Int) == (T : Int)) = true := by simp
    have hFp : 0 < F + 1 := by omega
    have hmp : 0 < m := by omega
    cases may
    · go_wp2
      go_ret
      exact ⟨by first | rfl | simp, HK8.out⟩
    · by_cases hz : z = (k0 : Int)
      · by_cases hmt : m ≤ t + 1
        · have hle := HMAX.out rfl hz hmt
          have d5 : (z != (k0 : Int)) = false := by simp [hz]
          have d6 : decide ((t : Int) + 1 < (m : Int)) = false := decide_eq_false (by omega)
          have d7 : decide (o ≤ (T : Int)) = true := decide_eq_true hle
          go_wp2
          go_ret
          exact ⟨by first | rfl | simp, HK8.out⟩
        · have d5 : (z != (k0 : Int)) = false := by simp [hz]
          have d6 : decide ((t : Int) + 1 < (m : Int)) = true := decide_eq_true (by omega)
          go_wp2
          go_ret
          exact ⟨by first | rfl | simp, HK8.out⟩
      · have d5 : (z != (k0 : Int)) = true := by simpa using hz
        go_wp2
        go_ret
        exact ⟨by first | rfl | simp, HK8.out⟩
  · have HF : Hid (Nt.bestOf xs ys a0 b0 = []) := Lib.hid (by
      cases h1 : Nt.fireB xs 3 ys
      · exact Nt.bestOf_no1 h1
      · cases h2 : Nt.inB xs.length a0
        · exact Nt.bestOf_no2 h2
        · exact Nt.bestOf_no3 (fun h3 => hgood ⟨h1, h2, h3⟩))
    obtain ⟨bS, capS, rfl, _, _, _⟩ := hs.any
    obtain ⟨bT, capT, rfl, _, _, _⟩ := ht.any
    clear hs ht hgood hl1 hl2
    go_wp2_with fail
    refine (iBestTour_any _ _ _ _ _ _ _ _ _ S1.out T1.out).mono ?_
    rintro e w2 ⟨u2, rfl, hs, hk⟩
    rw [HF.out] at hs
    have X2 := Lib.hid hs
    obtain ⟨bX, capX, rfl, _, _, _⟩ := hs.any
    have S2 := Lib.hid (S1.out.stay hk)
    have T2 := Lib.hid (T1.out.stay hk)
    have HK2 := Lib.hid (HK.out.trans hk (by simp))
    clear S1 T1 HK
    clear hs hk
    go_wp2_with fail
    refine (sBestTour_any _ _ _ _ _ _ _ _ _ S2.out T2.out).mono ?_
    rintro e w3 ⟨u3, rfl, hs, hk⟩
    rw [HF.out] at hs
    have Y3 := Lib.hid hs
    have S3 := Lib.hid (S2.out.stay hk)
    have T3 := Lib.hid (T2.out.stay hk)
    have X3 := Lib.hid (X2.out.stay hk)
    have HK3 := Lib.hid (HK2.out.trans hk (by simp))
    clear S2 T2 X2 HK2
    clear hs hk
    go_wp2_with fail
    refine (sameInts_any _ _ _ _ _ _ _ X3.out Y3.out).mono ?_
    rintro e w4 ⟨rfl, hq⟩
    rw [dec_of rfl]
    have hk := hq.kept
    have S4 := Lib.hid (S3.out.stay hk)
    have T4 := Lib.hid (T3.out.stay hk)
    have X4 := Lib.hid (X3.out.stay hk)
    have Y4 := Lib.hid (Y3.out.stay hk)
    have HK4 := Lib.hid (HK3.out.trans hk (by simp))
    clear S3 T3 X3 Y3 HK3
    clear hk hq
    go_wp2_with fail
    refine (alive_any _).mono ?_
    rintro e w5 ⟨rfl, hk⟩
    have S5 := Lib.hid (S4.out.stay hk)
    have T5 := Lib.hid (T4.out.stay hk)
    have X5 := Lib.hid (X4.out.stay hk)
    have Y5 := Lib.hid (Y4.out.stay hk)
    have HK5 := Lib.hid (HK4.out.trans hk (by simp))
    clear S4 T4 X4 Y4 HK4
    clear hk
    go_wp2
    go_ret
    exact ⟨rfl, HK5.out⟩
end Go.Proofs.Ythhnhnfflmmmlaa
