/-
  The law NeedMore, walked.
-/
import Derived.Test.YtgibncpgdbldnaaDE
import Derived.Test.YtgibncpgdbldnaaL1
import Derived.Test.YtgibncpgdbldnaaZP
import Derived.Test.YtgibncpgdbldnaaZM
import Derived.Test.YtgibncpgdbldnaaPureQV
import Derived.Test.YtgibncpgdbldnaaFA
namespace Go.Proofs.Ytgibncpgdbldnaa
open Go.RowKit

set_option maxHeartbeats 4000000 in
set_option maxRecDepth 100000 in
theorem FnNeedMore_calls (w : World) (v : Value) (ha : ArgB w v) :
    Calls Try.prog 10 #[v] w fun e w' => e = .returned (.bool true) ∧ Kept [] w w' := by
  have HA := Lib.hid ha
  obtain ⟨a, len, cap, rfl, hlc, hcm, _⟩ := ha
  by_cases hbig : 1048576 < len
  · have hb : (1048576 : Int) < (len : Int) := by omega
    clear hbig
    go_enter Try.func10, Try.ntmps10
    go_wp2
    go_ret
    exact ⟨rfl, Kept.refl _ _⟩
  have hb : ¬ (1048576 : Int) < (len : Int) := by omega
  clear hbig
  go_enter Try.func10, Try.ntmps10
  go_wp2_with fail
  refine (drawSpreadSet_any _ _ HA.out).mono ?_
  rintro e w1 ⟨u, xs, v2, nds, x, rfl, hs, hd, _, _, hk⟩
  have S1 := Lib.hid hs
  have D1 := Lib.hid hd
  have HK := Lib.hid hk
  clear hk
  cases h1 : Nt.sprB xs nds x
  · have HV := Lib.hid (Nt.sprOf_no h1)
    clear h1 hb
    obtain ⟨bS, capS, rfl, _, _, _⟩ := hs.any
    obtain ⟨bD, capD, rfl, _, _, _⟩ := hd.any
    clear hs hd
    generalize Nt.sprN xs nds x = y at *
    go_wp2_with fail
    refine (iSpread_any _ _ _ _ _ _ _ _ S1.out D1.out).mono ?_
    rintro e w2 ⟨rfl, hk⟩
    rw [HV.out]
    have S2 := Lib.hid (S1.out.stay hk)
    have D2 := Lib.hid (D1.out.stay hk)
    have HK2 := Lib.hid (HK.out.trans hk (by simp))
    clear S1 D1 HK
    clear hk
    go_wp2_with fail
    refine (sSpread_any _ _ _ _ _ _ _ _ S2.out D2.out).mono ?_
    rintro e w3 ⟨rfl, hq⟩
    rw [HV.out]
    have hk := hq.kept
    have S3 := Lib.hid (S2.out.stay hk)
    have D3 := Lib.hid (D2.out.stay hk)
    have HK3 := Lib.hid (HK2.out.trans hk (by simp))
    clear S2 D2 HK2
    clear hk hq
    go_wp2_with fail
    refine (alive_any _).mono ?_
    rintro e w4 ⟨rfl, hk⟩
    have S4 := Lib.hid (S3.out.stay hk)
    have D4 := Lib.hid (D3.out.stay hk)
    have HK4 := Lib.hid (HK3.out.trans hk (by simp))
    clear S3 D3 HK3
    clear hk
    go_wp2
    go_ret
    exact ⟨rfl, HK4.out⟩
  · obtain ⟨ns, nd, s, rfl, rfl, rfl, ok, hn, hs2⟩ := Nt.sprB_ok h1
    obtain ⟨n, hnn⟩ : ∃ n, n = ns.length := ⟨_, rfl⟩
    have hp : 0 < n := by have := ok.some; omega
    have h6n : n ≤ 6 := by have := ok.few; omega
    have HV := Lib.hid (Nt.sprOf_ok ok hn hs2)
    have hz := Nt.spread_lt (nd := nd) hs2
    have h64 : 2 ^ ns.length ≤ 64 := Nt.pow_le ok.few
    have hz64 : Nt.spread ns nd s < 64 := Nat.lt_of_lt_of_le hz h64
    obtain ⟨gS, capS, rfl, _, _⟩ := hs.row (n := n) hnn.symm hp
    have hlD : nd.length = n := by rw [hn.len, hnn]
    obtain ⟨gD, capD, rfl, hgD, hcD⟩ := hd.row (n := n) hlD hp
    have CD1 := Lib.hid hcD
    have lD1 := Lib.hid hgD
    by_cases h6 : nd.getD 0 0 < 6
    · have HV1 : Hid (Nt.sprOf (Nt.nats ns) (Nt.nats (Nt.harder nd)) (s : Int) = ((Nt.spread ns (Nt.harder nd) s : Nat) : Int)) := Lib.hid (Nt.sprOf_ok ok (Nt.harder_nd hn h6) hs2)
      have HSA := Lib.hid (Nt.sparkOf_ok ok hn)
      have HSB := Lib.hid (Nt.sparkOf_ok ok (Nt.harder_nd hn h6))
      have hz1 : Nt.spread ns (Nt.harder nd) s < 64 := Nat.lt_of_lt_of_le (Nt.spread_lt hs2) h64
      have HLS : Hid (bits .andNot .i64 ((Nt.spread ns (Nt.harder nd) s : Nat) : Int) ((Nt.spread ns nd s : Nat) : Int) = 0) := Lib.hid (by
        rw [bits_andNot_nat _ _ (by omega) (by omega), Nt.harder_less hs2]; rfl)
      have HPO : Hid (Nt.popTo (Nt.sparkTo ns nd (2 ^ ns.length)) n ≤ Nt.popTo (Nt.sparkTo ns (Nt.harder nd) (2 ^ ns.length)) n) := Lib.hid (by rw [hnn]; exact Nt.harder_spark)
      have HPS : Hid (∀ a k, Nt.popTo a (k + 1) = Nt.popTo a k + if a.testBit k = true then 1 else 0) := Lib.hid (fun _ _ => rfl)
      have HPB := Lib.hid (fun a k => Nt.popTo_le a k)
      have HHN := Lib.hid (Nt.harder_nats nd)
      have HDL : Hid ((Nt.nats nd).length = n) := Lib.hid (by rw [Nt.nats_length, hlD])
      have HX : Hid (0 < (Nt.nats nd).length ∧ (Nt.nats nd).length ≤ 1000) := Lib.hid (by rw [Nt.nats_length, hlD]; omega)
      have h60 : nd.getD 0 0 < 6 := h6
      clear hs hd h1 hb ok hn hs2 hnn hz h64 hz64 hz1 hcD hgD hlD h6
      generalize Nt.sparkTo ns nd (2 ^ ns.length) = sa at *
      generalize Nt.sparkTo ns (Nt.harder nd) (2 ^ ns.length) = sb at *
      generalize Nt.spread ns nd s = z at *
      generalize Nt.spread ns (Nt.harder nd) s = z1 at *
      generalize Nt.sprN (Nt.nats ns) (Nt.nats nd) (s : Int) = y at *
      generalize Nt.sprN (Nt.nats ns) (Nt.nats (Nt.harder nd)) (s : Int) = y1 at *
      have d0 : decide ((z : Int) < 0) = false := decide_eq_false (by omega)
      have d1 : ((z : Int) != (z : Int)) = false := by simp
      have dz1 : decide ((0 : Int) ≤ (z1 : Int)) = true := decide_eq_true (by omega)
      have dsa : decide ((0 : Int) ≤ (sa : Int)) = true := decide_eq_true (by omega)
      have dsb : decide ((0 : Int) ≤ (sb : Int)) = true := decide_eq_true (by omega)
      go_wp2_with fail
      refine (iSpread_any _ _ _ _ _ _ _ _ S1.out D1.out).mono ?_
      rintro e w2 ⟨rfl, hk⟩
      rw [HV.out]
      have S2 := Lib.hid (S1.out.stay hk)
      have D2 := Lib.hid (D1.out.stay hk)
      have CD2 := Lib.hid (fun j (hj : j < n) => (hk.cell (p := ⟨gD, j, none⟩) lD1.out (by simp)).trans (CD1.out j hj))
      have lD2 := Lib.hid (Nat.lt_of_lt_of_le lD1.out hk.size)
      have HK2 := Lib.hid (HK.out.trans hk (by simp))
      clear S1 D1 CD1 lD1 HK
      clear hk
      go_wp2_with fail
      refine (sSpread_any _ _ _ _ _ _ _ _ S2.out D2.out).mono ?_
      rintro e w3 ⟨rfl, hq⟩
      rw [HV.out]
      have hk := hq.kept
      have S3 := Lib.hid (S2.out.stay hk)
      have D3 := Lib.hid (D2.out.stay hk)
      have CD3 := Lib.hid (fun j (hj : j < n) => (hk.cell (p := ⟨gD, j, none⟩) lD2.out (by simp)).trans (CD2.out j hj))
      have lD3 := Lib.hid (Nat.lt_of_lt_of_le lD2.out hk.size)
      have HK3 := Lib.hid (HK2.out.trans hk (by simp))
      clear S2 D2 CD2 lD2 HK2
      clear hk hq
      have c0 := CD3.out 0 hp
      have hE0 := Lib.hid (Sl.empty3 w3)
      have hka : Kept [] w3 (w3.alloc (.cells #[] 3)) := (Kept.refl [] w3).alloc _
      have DA := Lib.hid (D3.out.stay hka)
      generalize hxd : nd.getD 0 0 = xd at *
      clear hka
      go_wp2_with (at_builtin; refine app_sl rfl _ _ rfl w3.heap.size _ [] hE0.out rfl _ _ (Nt.nats nd) DA.out HX.out.1 rfl (by have := HX.out.2; simp; omega) (by simp) ?_; intro zE wb hs2 hk2; have HZ := Lib.hid hs2; have HKZ := Lib.hid (((Kept.refl [] w3).alloc (.cells #[] 3)).own hk2 (fun g' hg' => by simp [Value.ownBlock] at hg'; omega)); clear hs2 hk2; obtain ⟨gE, capE, rfl, hgE0, hgE⟩ := HZ.out.shape (n := n) (by rw [List.nil_append]; exact HDL.out) hp; obtain ⟨cE, fE⟩ := HZ.out.at 0 (by rw [List.nil_append, HDL.out]; exact hp); rw [List.nil_append, Nt.nats_get, hxd] at cE)
      have hk : Kept [] w3 (wb.setCell ⟨gE, 0, none⟩ (.int .i64 ((xd : Int) + 1))) := HKZ.out.setCell (.inr hgE0) _
      have E70 : Hid (Sl (wb.setCell ⟨gE, 0, none⟩ (.int .i64 ((xd : Int) + 1))) w3.heap.size (.slice (some ⟨gE, 0, none⟩) n capE) (Nt.nats (Nt.harder nd))) := Lib.hid (by
        have h := HZ.out
        rw [List.nil_append] at h
        rw [HHN.out]
        exact h.set HDL.out.symm 0 _)
      have S70 := Lib.hid (S3.out.stay hk)
      have D70 := Lib.hid (D3.out.stay hk)
      have HK70 := Lib.hid (HK3.out.trans hk (by simp))
      clear S3 D3 HK3
      clear hk cE fE HZ HKZ c0
      go_wp2_with fail
      refine (iSpread_any _ _ _ _ _ _ _ _ S70.out E70.out).mono ?_
      rintro e w71 ⟨rfl, hk⟩
      rw [HV1.out]
      have S71 := Lib.hid (S70.out.stay hk)
      have D71 := Lib.hid (D70.out.stay hk)
      have E71 := Lib.hid (E70.out.stay hk)
      have HK71 := Lib.hid (HK70.out.trans hk (by simp))
      clear S70 D70 E70 HK70
      clear hk
      go_wp2_with fail
      refine (iSpark_any _ _ _ _ _ _ _ S71.out D71.out).mono ?_
      rintro e w72 ⟨rfl, hk⟩
      rw [HSA.out]
      have S72 := Lib.hid (S71.out.stay hk)
      have D72 := Lib.hid (D71.out.stay hk)
      have E72 := Lib.hid (E71.out.stay hk)
      have HK72 := Lib.hid (HK71.out.trans hk (by simp))
      clear S71 D71 E71 HK71
      clear hk
      go_wp2_with fail
      refine (iSpark_any _ _ _ _ _ _ _ S72.out E72.out).mono ?_
      rintro e w73 ⟨rfl, hk⟩
      rw [HSB.out]
      have S73 := Lib.hid (S72.out.stay hk)
      have D73 := Lib.hid (D72.out.stay hk)
      have E73 := Lib.hid (E72.out.stay hk)
      have HK73 := Lib.hid (HK72.out.trans hk (by simp))
      clear S72 D72 E72 HK72
      clear hk
      go_wp2_with fail
      go_loopw [15, 16] (fun m i wr => ∃ k : Nat, k ≤ n ∧ i = .int .i64 k ∧ m = .int .i64 (((Nt.popTo sb k : Nat) : Int) - ((Nt.popTo sa k : Nat) : Int)) ∧ Qt w73 wr) (fun _ i _ => n - (intOf i).toNat)
      case atStart => exact ⟨0, Nat.zero_le _, rfl, rfl, Qt.refl _⟩
      case round =>
        obtain ⟨k, hk, rfl, rfl, hq⟩ := hrel
        have HQ := Lib.hid hq
        by_cases hlt : k < n
        · have HPA := Lib.hid (HPS.out sa k)
          have HPB2 := Lib.hid (HPS.out sb k)
          have hpa := HPB.out sa k
          have hpb := HPB.out sb k
          have p1 := shr_nonneg sa k
          have e1 := shr_rem sa k
          have p2 := shr_nonneg sb k
          have e2 := shr_rem sb k
          have m1 : max (sa : Int) 0 = (sa : Int) := by omega
          have m2 : max (sb : Int) 0 = (sb : Int) := by omega
          clear hq
          generalize Nt.popTo sa k = qa at *
          generalize Nt.popTo sb k = qb at *
          cases ha : sa.testBit k
          · cases hb : sb.testBit k
            · rw [ha] at e1
              rw [hb] at e2
              simp only [Bool.false_eq_true, if_false] at e1
              simp only [Bool.false_eq_true, if_false] at e2
              have HY : Hid (((Nt.popTo sb (k + 1) : Nat) : Int) - ((Nt.popTo sa (k + 1) : Nat) : Int) = (qb : Int) + 0 - ((qa : Int) + 0)) := Lib.hid (by
                rw [HPA.out, HPB2.out, ha, hb]
                simp only [Bool.false_eq_true, if_false]
                omega)
              clear ha hb HPA HPB2
              go_wp2_with fail
              go_quiet (fail)
              have HQ2 := Lib.hid (HQ.out.draw nq)
              clear HQ
              generalize wr.drewN nq = w90 at *
              go_wp2
              go_roundw
              case rel => exact ⟨k + 1, by omega, by go_num, by rw [HY.out]; first | rfl | go_num | (congr 1; omega), HQ2.out⟩
              case measure => simp [intOf]; omega
            · rw [ha] at e1
              rw [hb] at e2
              simp only [Bool.false_eq_true, if_false] at e1
              simp only [if_true] at e2
              have HY : Hid (((Nt.popTo sb (k + 1) : Nat) : Int) - ((Nt.popTo sa (k + 1) : Nat) : Int) = (qb : Int) + 1 - ((qa : Int) + 0)) := Lib.hid (by
                rw [HPA.out, HPB2.out, ha, hb]
                simp only [Bool.false_eq_true, if_false, if_true]
                omega)
              clear ha hb HPA HPB2
              go_wp2_with fail
              go_quiet (fail)
              have HQ2 := Lib.hid (HQ.out.draw nq)
              clear HQ
              generalize wr.drewN nq = w90 at *
              go_wp2
              go_roundw
              case rel => exact ⟨k + 1, by omega, by go_num, by rw [HY.out]; first | rfl | go_num | (congr 1; omega), HQ2.out⟩
              case measure => simp [intOf]; omega
          · cases hb : sb.testBit k
            · rw [ha] at e1
              rw [hb] at e2
              simp only [if_true] at e1
              simp only [Bool.false_eq_true, if_false] at e2
              have HY : Hid (((Nt.popTo sb (k + 1) : Nat) : Int) - ((Nt.popTo sa (k + 1) : Nat) : Int) = (qb : Int) + 0 - ((qa : Int) + 1)) := Lib.hid (by
                rw [HPA.out, HPB2.out, ha, hb]
                simp only [Bool.false_eq_true, if_false, if_true]
                omega)
              clear ha hb HPA HPB2
              go_wp2_with fail
              go_quiet (fail)
              have HQ2 := Lib.hid (HQ.out.draw nq)
              clear HQ
              generalize wr.drewN nq = w90 at *
              go_wp2
              go_roundw
              case rel => exact ⟨k + 1, by omega, by go_num, by rw [HY.out]; first | rfl | go_num | (congr 1; omega), HQ2.out⟩
              case measure => simp [intOf]; omega
            · rw [ha] at e1
              rw [hb] at e2
              simp only [if_true] at e1
              simp only [if_true] at e2
              have HY : Hid (((Nt.popTo sb (k + 1) : Nat) : Int) - ((Nt.popTo sa (k + 1) : Nat) : Int) = (qb : Int) + 1 - ((qa : Int) + 1)) := Lib.hid (by
                rw [HPA.out, HPB2.out, ha, hb]
                simp only [if_true]
                omega)
              clear ha hb HPA HPB2
              go_wp2_with fail
              go_quiet (fail)
              have HQ2 := Lib.hid (HQ.out.draw nq)
              clear HQ
              generalize wr.drewN nq = w90 at *
              go_wp2
              go_roundw
              case rel => exact ⟨k + 1, by omega, by go_num, by rw [HY.out]; first | rfl | go_num | (congr 1; omega), HQ2.out⟩
              case measure => simp [intOf]; omega
        · have hk' : n = k := by omega
          subst hk'
          have KQ := Lib.hid (HK73.out.trans hq.kept (by simp))
          have hpo := HPO.out
          have dm : decide ((0 : Int) ≤ ((Nt.popTo sb n : Nat) : Int) - ((Nt.popTo sa n : Nat) : Int)) = true := decide_eq_true (by omega)
          have als := HLS.out
          clear hq HQ hlt hk
          generalize Nt.popTo sa n = qa at *
          generalize Nt.popTo sb n = qb at *
          go_wp2_with fail
          refine (alive_any _).mono ?_
          rintro e w91 ⟨rfl, hk⟩
          have HK91 := Lib.hid (KQ.out.trans hk (by simp))
          clear KQ
          clear hk
          go_wp2
          go_ret
          exact ⟨by first | rfl | simp, HK91.out⟩
    · have h60 : ¬ nd.getD 0 0 < 6 := h6
      clear hs hd h1 hb ok hn hs2 hnn hz h64 hz64 hcD hgD hlD h6
      generalize Nt.spread ns nd s = z at *
      generalize Nt.sprN (Nt.nats ns) (Nt.nats nd) (s : Int) = y at *
      have d0 : decide ((z : Int) < 0) = false := decide_eq_false (by omega)
      have d1 : ((z : Int) != (z : Int)) = false := by simp
      have d2 : decide ((-1 : Int) ≤ (z : Int)) = true := decide_eq_true (by omega)
      go_wp2_with fail
      refine (iSpread_any _ _ _ _ _ _ _ _ S1.out D1.out).mono ?_
      rintro e w2 ⟨rfl, hk⟩
      rw [HV.out]
      have S2 := Lib.hid (S1.out.stay hk)
      have D2 := Lib.hid (D1.out.stay hk)
      have CD2 := Lib.hid (fun j (hj : j < n) => (hk.cell (p := ⟨gD, j, none⟩) lD1.out (by simp)).trans (CD1.out j hj))
      have lD2 := Lib.hid (Nat.lt_of_lt_of_le lD1.out hk.size)
      have HK2 := Lib.hid (HK.out.trans hk (by simp))
      clear S1 D1 CD1 lD1 HK
      clear hk
      go_wp2_with fail
      refine (sSpread_any _ _ _ _ _ _ _ _ S2.out D2.out).mono ?_
      rintro e w3 ⟨rfl, hq⟩
      rw [HV.out]
      have hk := hq.kept
      have S3 := Lib.hid (S2.out.stay hk)
      have D3 := Lib.hid (D2.out.stay hk)
      have CD3 := Lib.hid (fun j (hj : j < n) => (hk.cell (p := ⟨gD, j, none⟩) lD2.out (by simp)).trans (CD2.out j hj))
      have lD3 := Lib.hid (Nat.lt_of_lt_of_le lD2.out hk.size)
      have HK3 := Lib.hid (HK2.out.trans hk (by simp))
      clear S2 D2 CD2 lD2 HK2
      clear hk hq
      have c0 := CD3.out 0 hp
      generalize nd.getD 0 0 = xd at *
      have d3 : decide ((6 : Int) ≤ (xd : Int)) = true := decide_eq_true (by omega)
      go_wp2_with fail
      refine (alive_any _).mono ?_
      rintro e w4 ⟨rfl, hk⟩
      have S4 := Lib.hid (S3.out.stay hk)
      have D4 := Lib.hid (D3.out.stay hk)
      have HK4 := Lib.hid (HK3.out.trans hk (by simp))
      clear S3 D3 HK3
      clear hk
      go_wp2
      go_ret
      exact ⟨rfl, HK4.out⟩
end Go.Proofs.Ytgibncpgdbldnaa
