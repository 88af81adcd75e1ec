/-
  The law LightsFor, walked.
-/
import Derived.Test.YtebbfdpaplkmdaaD16
import Derived.Test.YtebbfdpaplkmdaaL1
import Derived.Test.YtebbfdpaplkmdaaVM
import Derived.Test.YtebbfdpaplkmdaaVN
namespace Go.Proofs.Ytebbfdpaplkmdaa
open Go.RowKit

set_option maxHeartbeats 4000000 in
set_option maxRecDepth 100000 in
theorem FnLightsFor_calls (w : World) (v : Value) (ha : ArgB w v) :
    Calls Try.prog 6 #[v] w fun e w' => e = .returned (.bool true) ∧ Kept [] w w' := by
  have HA := Lib.hid ha
  obtain ⟨a, len, cap, rfl, hlc, hcm, _⟩ := ha
  by_cases hbig : 1048576 < len
  · have hb : (1048576 : Int) < (len : Int) := by omega
    clear hbig
    go_enter Try.func6, Try.ntmps6
    go_wp2
    go_ret
    exact ⟨rfl, Kept.refl _ _⟩
  have hb : ¬ (1048576 : Int) < (len : Int) := by omega
  clear hbig
  go_enter Try.func6, Try.ntmps6
  go_wp2_with fail
  refine (drawLightsFor_any _ _ HA.out).mono ?_
  rintro e w1 ⟨u, xs, s0, rfl, hs1, hs2, hs, hl1, hk⟩
  have S1 := Lib.hid hs
  have HK := Lib.hid hk
  clear hk hb
  by_cases ho : Nt.okB xs = true ∧ 0 ≤ s0
  · obtain ⟨ns, rfl, ok⟩ := Nt.okB_ok ho.1
    obtain ⟨t, rfl⟩ := Int.eq_ofNat_of_zero_le ho.2
    obtain ⟨a, b, hl⟩ := Nt.lights_ex ns t
    have HLI : Hid (Nt.LightsIs (Nt.nats ns) (t : Int) (a : Int) (b : Int)) := Lib.hid (.inl ⟨ns, t, a, b, rfl, rfl, ok, hl, rfl, rfl⟩)
    have HL := Lib.hid hl
    obtain ⟨n, hn⟩ : ∃ n, n = ns.length := ⟨_, rfl⟩
    have hp := ok.some
    have h6 := ok.few
    have HOK := Lib.hid ok
    have HN := Lib.hid hn
    have hcov := Nt.covers_iff.1 hl.cov
    have HCV : Hid (∀ k, k < n → 0 ≤ Nt.dist ns a 64 k ∧ Nt.dist ns a 64 k ≤ (t : Int)) := Lib.hid (fun k hk => hcov k (by omega))
    have HAR : Hid (Nt.arrOf (Nt.nats ns) 3 (a : Int) = Nt.far ns a) := Lib.hid (Nt.arrOf_ok (c := 3) ok (by omega) (by omega) hl.lt)
    have HPOP : Hid (Nt.popTo a n = b) := Lib.hid (by rw [hn]; exact hl.pop)
    have HPS : Hid (∀ k, Nt.popTo a (k + 1) = Nt.popTo a k + if a.testBit k = true then 1 else 0) := Lib.hid (fun k => rfl)
    have HPL : Hid (∀ k, Nt.popTo a k ≤ k) := Lib.hid (fun k => Nt.popTo_le a k)
    clear hcov
    rw [← hn] at hp h6
    have hne0 : ((n : Int) == 0) = false := beq_eq_false_iff_ne.2 (by omega)
    obtain ⟨gS, capS, rfl, _, _⟩ := hs.row hn.symm hp
    clear hs ok hn ho hl1 hl hs1
    go_wp2_with fail
    refine (iLights_any _ _ HLI.out _ _ _ S1.out).mono ?_
    rintro e w2 ⟨rfl, hk⟩
    have S2 := Lib.hid (S1.out.stay hk)
    have HK2 := Lib.hid (HK.out.trans hk (by simp))
    clear S1 HK
    clear hk
    go_wp2_with fail
    refine (sLights_any _ _ HLI.out _ _ _ S2.out).mono ?_
    rintro e w3 ⟨rfl, hk⟩
    have S3 := Lib.hid (S2.out.stay hk)
    have HK3 := Lib.hid (HK2.out.trans hk (by simp))
    clear S2 HK2
    clear hk
    go_wp2_with fail
    refine (iArr_any _ _ _ _ _ _ S3.out).mono ?_
    rintro e w4 ⟨u4, rfl, hs, hk⟩
    rw [HAR.out] at hs
    have X4 := Lib.hid hs
    obtain ⟨gX, capX, rfl, _, hgX⟩ := hs.shape (n := n) (by rw [Nt.far_length]; exact HN.out.symm) hp
    have CX4 := Lib.hid (fun j (hj : j < n) => ((hs.at j (by rw [Nt.far_length, ← HN.out]; exact hj)).1).trans (by rw [Nt.far_get _ _ (by rw [← HN.out]; exact hj)]))
    have lX4 := Lib.hid hgX
    clear hgX
    have S4 := Lib.hid (S3.out.stay hk)
    have HK4 := Lib.hid (HK3.out.trans hk (by simp))
    clear S3 HK3
    clear hs hk
    go_wp2_with fail
    go_loopw [6, 8] (fun m i wr => ∃ k : Nat, k ≤ n ∧ i = .int .i64 k ∧ m = .int .i64 ((Nt.popTo a k : Nat) : Int) ∧ Qt w4 wr) (fun _ i _ => n - (intOf i).toNat)
    case atStart => exact ⟨0, Nat.zero_le _, rfl, rfl, Qt.refl _⟩
    case round =>
      obtain ⟨k, hk, rfl, rfl, hq⟩ := hrel
      have HQ := Lib.hid hq
      by_cases hlt : k < n
      · have cX := (hq.cell _).trans (CX4.out k hlt)
        obtain ⟨h1, h2⟩ := HCV.out k hlt
        have HP1 := Lib.hid (HPS.out k)
        have hpl := HPL.out k
        have p1 := shr_nonneg a k
        have e1 := shr_rem a k
        have d1 : decide (Nt.dist ns a 64 k < 0) = false := dec_not (by omega)
        have d2 : decide ((t : Int) < Nt.dist ns a 64 k) = false := dec_not (by omega)
        clear hq
        generalize Nt.dist ns a 64 k = d at *
        generalize Nt.popTo a k = m at *
        cases hbit : a.testBit k
        · rw [hbit] at e1
          simp only [Bool.false_eq_true, if_false] at e1
          have HY : Hid (Nt.popTo a (k + 1) = m) := Lib.hid (by rw [HP1.out, hbit]; rfl)
          clear hbit
          go_wp2
          go_roundw
          case rel => exact ⟨k + 1, by omega, by go_num, by rw [HY.out], HQ.out⟩
          case measure => simp [intOf]; omega
        · rw [hbit] at e1
          simp only [if_true] at e1
          have HY : Hid (Nt.popTo a (k + 1) = m + 1) := Lib.hid (by rw [HP1.out, hbit]; rfl)
          clear hbit
          go_wp2
          go_roundw
          case rel => exact ⟨k + 1, by omega, by go_num, by rw [HY.out]; go_num, HQ.out⟩
          case measure => simp [intOf]; omega
      · have hk' : k = n := by omega
        subst hk'
        rw [HPOP.out]
        have SQ := Lib.hid (hq.sl S4.out)
        have KQ := Lib.hid (HK4.out.trans hq.kept (by simp))
        clear hq hlt hk
        go_wp2_with fail
        refine (iFewest_any _ _ HLI.out _ _ _ SQ.out).mono ?_
        rintro e wa ⟨rfl, hka⟩
        have KA := Lib.hid (KQ.out.trans hka (by simp))
        clear hka
        go_wp2
        go_ret
        exact ⟨by simp, KA.out⟩
  · have HLI : Hid (Nt.LightsIs xs s0 (-1) (-1)) := Lib.hid (.inr ⟨ho, rfl, rfl⟩)
    obtain ⟨bS, capS, rfl, _, _, _⟩ := hs.any
    clear hs ho hl1 hs1 hs2
    go_wp2_with fail
    refine (iLights_any _ _ HLI.out _ _ _ S1.out).mono ?_
    rintro e w2 ⟨rfl, hk⟩
    have S2 := Lib.hid (S1.out.stay hk)
    have HK2 := Lib.hid (HK.out.trans hk (by simp))
    clear S1 HK
    clear hk
    go_wp2_with fail
    refine (sLights_any _ _ HLI.out _ _ _ S2.out).mono ?_
    rintro e w3 ⟨rfl, hk⟩
    have S3 := Lib.hid (S2.out.stay hk)
    have HK3 := Lib.hid (HK2.out.trans hk (by simp))
    clear S2 HK2
    clear hk
    go_wp2_with fail
    refine (alive_any _).mono ?_
    rintro e w4 ⟨rfl, hk⟩
    have S4 := Lib.hid (S3.out.stay hk)
    have HK4 := Lib.hid (HK3.out.trans hk (by simp))
    clear S3 HK3
    clear hk
    go_wp2
    go_ret
    exact ⟨rfl, HK4.out⟩
end Go.Proofs.Ytebbfdpaplkmdaa
