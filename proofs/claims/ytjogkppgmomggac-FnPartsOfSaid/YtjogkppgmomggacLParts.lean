/-
  The law of PartsOf, walked.
-/
import Derived.Test.YtjogkppgmomggacD4
import Derived.Test.YtjogkppgmomggacL1
import Derived.Test.YtjogkppgmomggacN4
namespace Go.Proofs.Ytjogkppgmomggac
open Go.RowKit

set_option maxHeartbeats 4000000 in
set_option maxRecDepth 100000 in
theorem FnPartsOf_calls (w : World) (v : Value) (ha : ArgB w v) :
    Calls Try.prog 3 #[v] w fun e w' => e = .returned (.bool true) ∧ Kept [] w w' := by
  have HA := Lib.hid ha
  obtain ⟨a, len, cap, rfl, hlc, hcm, _⟩ := ha
  by_cases hbig : 1048576 < len
  · have hb : (1048576 : Int) < (len : Int) := by omega
    clear hbig
    go_enter Try.func3, Try.ntmps3
    go_wp2
    go_ret
    exact ⟨rfl, Kept.refl _ _⟩
  have hb : ¬ (1048576 : Int) < (len : Int) := by omega
  clear hbig
  go_enter Try.func3, Try.ntmps3
  go_wp2_with fail
  refine (drawPartsOf_any _ _ HA.out).mono ?_
  rintro e w1 ⟨u, xs, rfl, hs, hl, hk⟩
  have HS := Lib.hid hs
  have HK := Lib.hid hk
  clear hk hb
  by_cases ho : Nt.okB xs = true
  · obtain ⟨ns, rfl, hok⟩ := Nt.okB_ok ho
    obtain ⟨n, hn⟩ : ∃ n, n = ns.length := ⟨_, rfl⟩
    have hp := hok.some
    have h6 := hok.few
    rw [← hn] at hp h6
    obtain ⟨g, cap1, rfl, hg, _⟩ := hs.row hn.symm hp
    have HOK := Lib.hid hok
    have HN := Lib.hid hn
    have HPL := Lib.hid ((Nt.parts_length hok).trans hn.symm)
    have HF := Lib.hid (Nt.partsOf_ok hok)
    clear hs hok hn ho hg
    go_wp2_with fail
    refine (iParts_any (Nt.nats ns) _ _ _ HS.out).mono ?_
    rintro e w2 ⟨u2, rfl, hs2, hk2⟩
    rw [HF.out] at hs2
    obtain ⟨g2, cap2, rfl, hg2, hc2⟩ := hs2.row HPL.out hp
    have HR2 := Lib.hid hs2
    have HS2 := Lib.hid (HS.out.stay hk2)
    have HK2 := Lib.hid (HK.out.trans hk2 (by simp))
    have HC := Lib.hid hc2
    clear hs2 hk2 HS HK hc2
    go_wp2_with fail
    refine (sParts_any (Nt.nats ns) _ _ _ HS2.out).mono ?_
    rintro e w3 ⟨u3, rfl, hs3, hk3⟩
    rw [HF.out] at hs3
    have HT3 := Lib.hid hs3
    have HR3 := Lib.hid (HR2.out.stay hk3)
    have HS3 := Lib.hid (HS2.out.stay hk3)
    have HK3 := Lib.hid (HK2.out.trans hk3 (by simp))
    have HC3 := Lib.hid (fun j (hj : j < n) => (hk3.cell (p := ⟨g2, j, none⟩) hg2 (by simp)).trans (HC.out j hj))
    have hg3 := Nat.lt_of_lt_of_le hg2 hk3.size
    clear hs3 hk3 HS2 HK2 HR2 HC hg2
    go_wp2_with fail
    refine (sameInts_any _ _ _ _ _ _ _ HR3.out HT3.out).mono ?_
    rintro e w4 ⟨rfl, hq⟩
    rw [dec_of rfl]
    have HS4 := Lib.hid (hq.sl HS3.out)
    have HK4 := Lib.hid (HK3.out.trans hq.kept (by simp))
    have HC4 := Lib.hid (fun j (hj : j < n) => (hq.cell ⟨g2, j, none⟩).trans (HC3.out j hj))
    have hg4 : g2 < w4.heap.size := by rw [hq.heap]; exact hg3
    have hne0 : ((n : Int) == 0) = false := beq_eq_false_iff_ne.2 (by omega)
    clear hq HS3 HK3 HR3 HT3 HC3 hg3
    go_wp2
    go_loopw [5, 6, 7] (fun i _ _ wr => ∃ k : Nat, k ≤ n ∧ i = .int .i64 k ∧ Kept [] w4 wr) (fun i _ _ _ => n - (intOf i).toNat)
    case atStart => exact ⟨0, Nat.zero_le _, rfl, Kept.refl _ _⟩
    case round =>
      obtain ⟨k, hk, rfl, hkept⟩ := hrel
      have HKR := Lib.hid hkept
      have HSR := Lib.hid (HS4.out.stay hkept)
      clear hkept
      by_cases hlt : k < n
      · have HKN : Hid (k < ns.length) := Lib.hid (by rw [← HN.out]; exact hlt)
        have HE := Lib.hid (pow_wrap (k := k) (by omega))
        have HFO := Lib.hid (Nt.farOf_ok HOK.out (Nt.two_pow_lt HKN.out))
        go_wp2_with fail
        rw [HE.out]
        refine (iFar_any (Nt.nats ns) ((2 ^ k : Nat) : Int) _ _ _ HSR.out).mono ?_
        rintro e w5 ⟨u5, rfl, hs5, hk5⟩
        rw [HFO.out] at hs5
        obtain ⟨g5, cap5, rfl, _, hg5⟩ := hs5.shape (n := n) (by rw [Nt.far_length]; exact HN.out.symm) hp
        have HD := Lib.hid (fun j (hj : j < n) => ((hs5.at j (by rw [Nt.far_length, ← HN.out]; exact hj)).1).trans (by rw [Nt.far_get _ _ (by rw [← HN.out]; exact hj)]))
        have HK5 := Lib.hid (HKR.out.trans hk5 (by simp))
        have HC5 := Lib.hid (fun j (hj : j < n) => (HK5.out.cell (p := ⟨g2, j, none⟩) hg4 (by simp)).trans (HC4.out j hj))
        clear hs5 hk5 HKR HSR HFO
        go_wp2
        go_loopw [7] (fun i wr => ∃ j : Nat, j ≤ n ∧ i = .int .i64 j ∧ Qt w5 wr) (fun i _ => n - (intOf i).toNat)
        case atStart => exact ⟨0, Nat.zero_le _, rfl, Qt.refl _⟩
        case round =>
          obtain ⟨j, hj, rfl, hq⟩ := hrel
          have HQ := Lib.hid hq
          by_cases hjlt : j < n
          · have c1 := (hq.cell _).trans (HC5.out j hjlt)
            have c2 := (hq.cell _).trans (HC5.out k hlt)
            have c3 := (hq.cell _).trans (HD.out j hjlt)
            have hiff := Nt.parts_iff HOK.out HKN.out (b := j) (by rw [← HN.out]; exact hjlt)
            clear hq
            generalize Nt.dist ns (2 ^ k) 64 j = d at *
            generalize (Nt.parts ns).getD k 0 = x at *
            generalize (Nt.parts ns).getD j 0 = y at *
            by_cases hd : 0 ≤ d
            · have hy : ((y : Int) == (x : Int)) = true := by simp [hiff.1 hd]
              clear hiff
              go_wp2_with fail
              go_quiet (fail)
              go_wp2
              go_roundw
              case rel => exact ⟨j + 1, by omega, by go_num, HQ.out.draw _⟩
              case measure => simp [intOf]; omega
            · have hy : ((y : Int) == (x : Int)) = false := by
                rw [beq_eq_false_iff_ne]
                intro e
                exact hd (hiff.2 (by omega))
              have hd' : decide (0 ≤ d) = false := dec_not hd
              clear hiff
              go_wp2_with fail
              go_quiet (fail)
              go_wp2
              go_roundw
              case rel => exact ⟨j + 1, by omega, by go_num, HQ.out.draw _⟩
              case measure => simp [intOf]; omega
          · have hj' : j = n := by omega
            subst hj'
            clear hq
            go_wp2
            go_roundw
            case rel => exact ⟨k + 1, by omega, by go_num, HK5.out.trans HQ.out.kept (by simp)⟩
            case measure => simp [intOf]; omega
      · have hk' : k = n := by omega
        subst hk'
        go_wp2
        go_ret
        exact ⟨by simp, HK4.out.trans HKR.out (by simp)⟩
  · have ho' : Nt.okB xs = false := by simpa using ho
    have HF := Lib.hid (Nt.partsOf_no ho')
    obtain ⟨b, cap1, rfl, _, _, _⟩ := hs.any
    clear hs ho
    go_wp2_with fail
    refine (iParts_any xs _ _ _ HS.out).mono ?_
    rintro e w2 ⟨u2, rfl, hs2, hk2⟩
    rw [HF.out] at hs2
    have HR2 := Lib.hid hs2
    have HS2 := Lib.hid (HS.out.stay hk2)
    have HK2 := Lib.hid (HK.out.trans hk2 (by simp))
    obtain ⟨b2, cap2, rfl, _, _, _⟩ := hs2.any
    clear hs2 hk2 HS HK
    go_wp2_with fail
    refine (sParts_any xs _ _ _ HS2.out).mono ?_
    rintro e w3 ⟨u3, rfl, hs3, hk3⟩
    rw [HF.out] at hs3
    have HT3 := Lib.hid hs3
    have HR3 := Lib.hid (HR2.out.stay hk3)
    have HS3 := Lib.hid (HS2.out.stay hk3)
    have HK3 := Lib.hid (HK2.out.trans hk3 (by simp))
    clear hs3 hk3 HS2 HK2 HR2
    go_wp2_with fail
    refine (sameInts_any _ _ _ _ _ _ _ HR3.out HT3.out).mono ?_
    rintro e w4 ⟨rfl, hq⟩
    rw [dec_of rfl]
    have HS4 := Lib.hid (hq.sl HS3.out)
    have HK4 := Lib.hid (HK3.out.trans hq.kept (by simp))
    clear hq HS3 HK3 HR3 HT3
    go_wp2_with fail
    refine (iNetOk_any xs _ _ _ HS4.out).mono ?_
    rintro e w' ⟨rfl, rfl⟩
    rw [ho']
    clear ho'
    go_wp2_with fail
    refine (alive_any _).mono ?_
    rintro e w5 ⟨rfl, hk⟩
    have HK5 := Lib.hid (HK4.out.trans hk (by simp))
    clear hk
    go_wp2
    go_ret
    exact ⟨rfl, HK5.out⟩
end Go.Proofs.Ytjogkppgmomggac
