/-
  The law LightsGrow, walked.
-/
import Derived.Test.YtebbfdpaplkmdaaD16
import Derived.Test.YtebbfdpaplkmdaaL1
import Derived.Test.YtebbfdpaplkmdaaVM
import Derived.Test.YtebbfdpaplkmdaaVN
import Derived.Test.YtebbfdpaplkmdaaVP
import Derived.Test.YtebbfdpaplkmdaaNB
namespace Go.Proofs.Ytebbfdpaplkmdaa
open Go.RowKit

set_option maxHeartbeats 4000000 in
set_option maxRecDepth 100000 in
theorem FnLightsGrow_calls (w : World) (v : Value) (ha : ArgB w v) :
    Calls Try.prog 8 #[v] w fun e w' => e = .returned (.bool true) ∧ Kept [] w w' := by
  have HA := Lib.hid ha
  obtain ⟨a, len, cap, rfl, hlc, hcm, _⟩ := ha
  by_cases hbig : 1048576 < len
  · have hb : (1048576 : Int) < (len : Int) := by omega
    clear hbig
    go_enter Try.func8, Try.ntmps8
    go_wp2
    go_ret
    exact ⟨rfl, Kept.refl _ _⟩
  have hb : ¬ (1048576 : Int) < (len : Int) := by omega
  clear hbig
  go_enter Try.func8, Try.ntmps8
  go_wp2_with fail
  refine (drawLightsFor_any _ _ HA.out).mono ?_
  rintro e w1 ⟨u, xs, s0, rfl, hs1, hs2, hs, hl1, hk⟩
  have S1 := Lib.hid hs
  have HK := Lib.hid hk
  clear hk hb
  by_cases ho : Nt.okB xs = true ∧ 0 ≤ s0
  · obtain ⟨ns, rfl, ok⟩ := Nt.okB_ok ho.1
    obtain ⟨t, rfl⟩ := Int.eq_ofNat_of_zero_le ho.2
    obtain ⟨a, b, hl⟩ := Nt.lights_ex ns t
    have HLI : Hid (Nt.LightsIs (Nt.nats ns) (t : Int) (a : Int) (b : Int)) := Lib.hid (.inl ⟨ns, t, a, b, rfl, rfl, ok, hl, rfl, rfl⟩)
    have HL := Lib.hid hl
    obtain ⟨n, hn⟩ : ∃ n, n = ns.length := ⟨_, rfl⟩
    have hp := ok.some
    have h6 := ok.few
    have HOK := Lib.hid ok
    have HN := Lib.hid hn
    have HLT := Lib.hid hl.lt
    have HNR : Hid (Nt.nearOf (Nt.nats ns) (a : Int) = ((Nt.near ns a : Nat) : Int)) := Lib.hid (Nt.nearOf_ok ok hl.lt)
    have hab : a ||| Nt.near ns a < 2 ^ ns.length := Nat.or_lt_two_pow hl.lt (Nt.near_lt ok a)
    have ha64 : a < 64 := Nat.lt_of_lt_of_le hl.lt (Nt.pow_le ok.few)
    have hn64 : Nt.near ns a < 64 := Nat.lt_of_lt_of_le (Nt.near_lt ok a) (Nt.pow_le ok.few)
    have HOR : Hid (bits .or .i64 (a : Int) ((Nt.near ns a : Nat) : Int) = ((a ||| Nt.near ns a : Nat) : Int)) := Lib.hid (bits_or_nat a (Nt.near ns a) (by omega) (by omega))
    have HFA : Hid (Nt.farOf (Nt.nats ns) ((a ||| Nt.near ns a : Nat) : Int) = Nt.far ns (a ||| Nt.near ns a)) := Lib.hid (Nt.farOf_ok ok hab)
    have HG : Hid (1 ≤ t → ∀ k, k < n → 0 ≤ Nt.dist ns (a ||| Nt.near ns a) 64 k ∧ Nt.dist ns (a ||| Nt.near ns a) 64 k ≤ (t : Int) - 1) := Lib.hid (fun ht k hk => by
      obtain ⟨p, rfl⟩ : ∃ p, t = p + 1 := ⟨t - 1, by omega⟩
      have h := Nt.grow_sooner ok hl.lt (t := p) hl.cov (k := k) (by omega)
      omega)
    clear hab
    rw [← hn] at hp h6
    have hne0 : ((n : Int) == 0) = false := beq_eq_false_iff_ne.2 (by omega)
    obtain ⟨gS, capS, rfl, _, _⟩ := hs.row hn.symm hp
    clear hs ok hn ho hl1 hl hs1
    go_wp2_with fail
    refine (iLights_any _ _ HLI.out _ _ _ S1.out).mono ?_
    rintro e w2 ⟨rfl, hk⟩
    have S2 := Lib.hid (S1.out.stay hk)
    have HK2 := Lib.hid (HK.out.trans hk (by simp))
    clear S1 HK
    clear hk
    by_cases ht0 : t = 0
    · subst ht0
      go_wp2_with fail
      refine (sLights_any _ _ HLI.out _ _ _ S2.out).mono ?_
      rintro e w3 ⟨rfl, hk⟩
      have S3 := Lib.hid (S2.out.stay hk)
      have HK3 := Lib.hid (HK2.out.trans hk (by simp))
      clear S2 HK2
      clear hk
      have hbq : ((a : Int) == (a : Int)) = true := by simp
      go_wp2_with fail
      refine (alive_any _).mono ?_
      rintro e w4 ⟨rfl, hk⟩
      have S4 := Lib.hid (S3.out.stay hk)
      have HK4 := Lib.hid (HK3.out.trans hk (by simp))
      clear S3 HK3
      clear hk
      go_wp2
      go_ret
      exact ⟨rfl, HK4.out⟩
    · have HGP := Lib.hid (HG.out (by omega))
      have ht1 : ¬ (t : Int) < 1 := by omega
      clear HG ht0
      go_wp2_with fail
      refine (iNearOf_any _ _ _ _ _ S2.out).mono ?_
      rintro e w' ⟨rfl, rfl⟩
      rw [HNR.out]
      generalize Nt.near ns a = nr at *
      go_wp2_with fail
      rw [HOR.out]
      refine (iFar_any _ _ _ _ _ S2.out).mono ?_
      rintro e w3 ⟨u3, rfl, hs, hk⟩
      rw [HFA.out] at hs
      have X3 := Lib.hid hs
      obtain ⟨gX, capX, rfl, _, hgX⟩ := hs.shape (n := n) (by rw [Nt.far_length]; exact HN.out.symm) hp
      have CX3 := Lib.hid (fun j (hj : j < n) => ((hs.at j (by rw [Nt.far_length, ← HN.out]; exact hj)).1).trans (by rw [Nt.far_get _ _ (by rw [← HN.out]; exact hj)]))
      have lX3 := Lib.hid hgX
      clear hgX
      have S3 := Lib.hid (S2.out.stay hk)
      have HK3 := Lib.hid (HK2.out.trans hk (by simp))
      clear S2 HK2
      clear hs hk
      have hnn : ((n : Int) != (n : Int)) = false := by simp
      go_wp2_with fail
      go_loopw [8] (fun i wr => ∃ k : Nat, k ≤ n ∧ i = .int .i64 k ∧ Qt w3 wr) (fun i _ => n - (intOf i).toNat)
      case atStart => exact ⟨0, Nat.zero_le _, rfl, Qt.refl _⟩
      case round =>
        obtain ⟨k, hk, rfl, hq⟩ := hrel
        have HQ := Lib.hid hq
        by_cases hlt : k < n
        · have cX := (hq.cell _).trans (CX3.out k hlt)
          obtain ⟨h1, h2⟩ := HGP.out k hlt
          clear hq
          generalize Nt.dist ns (a ||| nr) 64 k = d at *
          have d1 : decide (d < 0) = false := dec_not (by omega)
          have d2 : decide ((t : Int) - 1 < d) = false := dec_not (by omega)
          go_wp2
          go_roundw
          case rel => exact ⟨k + 1, by omega, by go_num, HQ.out⟩
          case measure => simp [intOf]; omega
        · have hk' : k = n := by omega
          subst hk'
          have KQ := Lib.hid (HK3.out.trans hq.kept (by simp))
          clear hq hlt hk
          go_wp2_with fail
          refine (alive_any _).mono ?_
          rintro e wz ⟨rfl, hkz⟩
          have KZ := Lib.hid (KQ.out.trans hkz (by simp))
          clear hkz
          go_wp2
          go_ret
          exact ⟨by simp, KZ.out⟩
  · have HLI : Hid (Nt.LightsIs xs s0 (-1) (-1)) := Lib.hid (.inr ⟨ho, rfl, rfl⟩)
    obtain ⟨bS, capS, rfl, _, _, _⟩ := hs.any
    clear hs ho hl1 hs1 hs2
    go_wp2_with fail
    refine (iLights_any _ _ HLI.out _ _ _ S1.out).mono ?_
    rintro e w2 ⟨rfl, hk⟩
    have S2 := Lib.hid (S1.out.stay hk)
    have HK2 := Lib.hid (HK.out.trans hk (by simp))
    clear S1 HK
    clear hk
    go_wp2_with fail
    refine (sLights_any _ _ HLI.out _ _ _ S2.out).mono ?_
    rintro e w3 ⟨rfl, hk⟩
    have S3 := Lib.hid (S2.out.stay hk)
    have HK3 := Lib.hid (HK2.out.trans hk (by simp))
    clear S2 HK2
    clear hk
    go_wp2_with fail
    refine (alive_any _).mono ?_
    rintro e w4 ⟨rfl, hk⟩
    have S4 := Lib.hid (S3.out.stay hk)
    have HK4 := Lib.hid (HK3.out.trans hk (by simp))
    clear S3 HK3
    clear hk
    go_wp2
    go_ret
    exact ⟨rfl, HK4.out⟩
end Go.Proofs.Ytebbfdpaplkmdaa
