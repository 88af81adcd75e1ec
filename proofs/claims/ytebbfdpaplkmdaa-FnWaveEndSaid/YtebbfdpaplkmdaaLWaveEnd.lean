/-
  The law WaveEnd, walked.
-/
import Derived.Test.YtebbfdpaplkmdaaD16
import Derived.Test.YtebbfdpaplkmdaaL1
import Derived.Test.YtebbfdpaplkmdaaVM
import Derived.Test.YtebbfdpaplkmdaaVN
import Derived.Test.YtebbfdpaplkmdaaNB
namespace Go.Proofs.Ytebbfdpaplkmdaa
open Go.RowKit

set_option maxHeartbeats 4000000 in
set_option maxRecDepth 100000 in
theorem FnWaveEnd_calls (w : World) (v : Value) (ha : ArgB w v) :
    Calls Try.prog 4 #[v] w fun e w' => e = .returned (.bool true) ∧ Kept [] w w' := by
  have HA := Lib.hid ha
  obtain ⟨a, len, cap, rfl, hlc, hcm, _⟩ := ha
  by_cases hbig : 1048576 < len
  · have hb : (1048576 : Int) < (len : Int) := by omega
    clear hbig
    go_enter Try.func4, Try.ntmps4
    go_wp2
    go_ret
    exact ⟨rfl, Kept.refl _ _⟩
  have hb : ¬ (1048576 : Int) < (len : Int) := by omega
  clear hbig
  go_enter Try.func4, Try.ntmps4
  go_wp2_with fail
  refine (drawWaveEnd_any _ _ HA.out).mono ?_
  rintro e w1 ⟨u, xs, c0, s0, rfl, hc3, hc5, hs, hl1, hk⟩
  have S1 := Lib.hid hs
  have HK := Lib.hid hk
  clear hk hb
  by_cases ho : Nt.waveB xs c0 s0 = true
  · obtain ⟨ns, c, s, rfl, rfl, rfl, ok, c3, c5, hset⟩ := Nt.waveB_ok ho
    obtain ⟨n, hn⟩ : ∃ n, n = ns.length := ⟨_, rfl⟩
    have hp := ok.some
    have h6 := ok.few
    have HOK := Lib.hid ok
    have HN := Lib.hid hn
    have HSET := Lib.hid hset
    have HFA : Hid (Nt.farOf (Nt.nats ns) (s : Int) = Nt.far ns s) := Lib.hid (Nt.farOf_ok ok hset)
    have HV : Hid (s ≠ 0 → Nt.waveEndOf (Nt.nats ns) (c : Int) (s : Int) = Nt.most ns s + c - 1) := Lib.hid (fun h => Nt.waveEndOf_ok ok c3 c5 hset h)
    have HV0 : Hid (Nt.waveEndOf (Nt.nats ns) (c : Int) 0 = 0) := Lib.hid (Nt.waveEndOf_zero ok c3 c5)
    have HM : Hid (Nt.most ns s = Nt.maxTo (Nt.far ns s) n) := Lib.hid (by rw [hn]; rfl)
    have HMS : Hid (∀ k, k ≤ n → Nt.maxTo (Nt.far ns s) k < 64) := Lib.hid (fun k hk => Nt.maxTo_small s k (by omega))
    have HM0 : Hid (∀ k, 0 ≤ Nt.maxTo (Nt.far ns s) k) := Lib.hid (fun k => Nt.maxTo_nonneg _ k)
    have HMX : Hid (∀ k, k < n → Nt.maxTo (Nt.far ns s) (k + 1) = max (Nt.maxTo (Nt.far ns s) k) (Nt.dist ns s 64 k)) := Lib.hid (fun k hk => by rw [Nt.maxTo, Nt.far_get _ _ (by omega)])
    rw [← hn] at hp h6
    have hne0 : ((n : Int) == 0) = false := beq_eq_false_iff_ne.2 (by omega)
    obtain ⟨gS, capS, rfl, _, _⟩ := hs.row hn.symm hp
    clear hs ok hset hn ho hl1 hc3 hc5
    by_cases h0 : s = 0
    · subst h0
      go_wp2_with fail
      refine (iWaveEnd_any _ _ _ _ _ _ S1.out).mono ?_
      rintro e w2 ⟨rfl, hk⟩
      rw [HV0.out]
      have S2 := Lib.hid (S1.out.stay hk)
      have HK2 := Lib.hid (HK.out.trans hk (by simp))
      clear S1 HK
      clear hk
      go_wp2_with fail
      refine (sWaveEnd_any _ _ _ _ _ _ S2.out).mono ?_
      rintro e w3 ⟨rfl, hk⟩
      rw [HV0.out]
      have S3 := Lib.hid (S2.out.stay hk)
      have HK3 := Lib.hid (HK2.out.trans hk (by simp))
      clear S2 HK2
      clear hk
      go_wp2_with fail
      refine (alive_any _).mono ?_
      rintro e w4 ⟨rfl, hk⟩
      have S4 := Lib.hid (S3.out.stay hk)
      have HK4 := Lib.hid (HK3.out.trans hk (by simp))
      clear S3 HK3
      clear hk
      go_wp2
      go_ret
      exact ⟨rfl, HK4.out⟩
    · have HVV := Lib.hid (HV.out h0)
      have hm0 := HM0.out n
      have hms := HMS.out n (Nat.le_refl _)
      rw [← HM.out] at hm0 hms
      have d0 : ((s : Int) == 0) = false := by simp; omega
      go_wp2_with fail
      refine (iWaveEnd_any _ _ _ _ _ _ S1.out).mono ?_
      rintro e w2 ⟨rfl, hk⟩
      rw [HVV.out]
      have S2 := Lib.hid (S1.out.stay hk)
      have HK2 := Lib.hid (HK.out.trans hk (by simp))
      clear S1 HK
      clear hk
      go_wp2_with fail
      refine (sWaveEnd_any _ _ _ _ _ _ S2.out).mono ?_
      rintro e w3 ⟨rfl, hk⟩
      rw [HVV.out]
      have S3 := Lib.hid (S2.out.stay hk)
      have HK3 := Lib.hid (HK2.out.trans hk (by simp))
      clear S2 HK2
      clear hk
      go_wp2_with fail
      refine (iFar_any _ _ _ _ _ S3.out).mono ?_
      rintro e w4 ⟨u4, rfl, hs, hk⟩
      rw [HFA.out] at hs
      have X4 := Lib.hid hs
      obtain ⟨gX, capX, rfl, _, hgX⟩ := hs.shape (n := n) (by rw [Nt.far_length]; exact HN.out.symm) hp
      have CX4 := Lib.hid (fun j (hj : j < n) => ((hs.at j (by rw [Nt.far_length, ← HN.out]; exact hj)).1).trans (by rw [Nt.far_get _ _ (by rw [← HN.out]; exact hj)]))
      have lX4 := Lib.hid hgX
      clear hgX
      have S4 := Lib.hid (S3.out.stay hk)
      have HK4 := Lib.hid (HK3.out.trans hk (by simp))
      clear S3 HK3
      clear hs hk
      go_wp2_with fail
      go_loop [8, 9] (fun m i => ∃ k : Nat, k ≤ n ∧ i = .int .i64 k ∧ m = .int .i64 (Nt.maxTo (Nt.far ns s) k)) (fun _ i => n - (intOf i).toNat)
      case atStart => exact ⟨0, Nat.zero_le _, rfl, rfl⟩
      case round =>
        obtain ⟨k, hk, rfl, rfl⟩ := hrel
        by_cases hlt : k < n
        · have hcell := CX4.out k hlt
          have HX := Lib.hid (HMX.out k hlt)
          generalize Nt.dist ns s 64 k = d at *
          generalize Nt.maxTo (Nt.far ns s) k = m at *
          go_wp2_with fail
          go_round
          case rel => exact ⟨k + 1, by omega, by go_num, by rw [HX.out]; show Value.int IntKind.i64 (if m < d then d else m) = _; exact congrArg (Value.int IntKind.i64) (by split <;> omega)⟩
          case measure => simp [intOf]; omega
        · have hk' : k = n := by omega
          subst hk'
          rw [← HM.out]
          generalize Nt.most ns s = m at *
          go_wp2
          go_ret
          exact ⟨by simp, HK4.out⟩
  · have ho' : Nt.waveB xs c0 s0 = false := by simpa using ho
    have HF := Lib.hid (Nt.arrOf_no ho')
    have HE := Lib.hid (Nt.waveEndOf_no ho')
    obtain ⟨bS, capS, rfl, _, _, _⟩ := hs.any
    clear hs ho ho' hl1 hc3 hc5
    go_wp2_with fail
    refine (iWaveEnd_any _ _ _ _ _ _ S1.out).mono ?_
    rintro e w2 ⟨rfl, hk⟩
    rw [HE.out]
    have S2 := Lib.hid (S1.out.stay hk)
    have HK2 := Lib.hid (HK.out.trans hk (by simp))
    clear S1 HK
    clear hk
    go_wp2_with fail
    refine (sWaveEnd_any _ _ _ _ _ _ S2.out).mono ?_
    rintro e w3 ⟨rfl, hk⟩
    rw [HE.out]
    have S3 := Lib.hid (S2.out.stay hk)
    have HK3 := Lib.hid (HK2.out.trans hk (by simp))
    clear S2 HK2
    clear hk
    go_wp2_with fail
    refine (alive_any _).mono ?_
    rintro e w4 ⟨rfl, hk⟩
    have S4 := Lib.hid (S3.out.stay hk)
    have HK4 := Lib.hid (HK3.out.trans hk (by simp))
    clear S3 HK3
    clear hk
    go_wp2
    go_ret
    exact ⟨rfl, HK4.out⟩
end Go.Proofs.Ytebbfdpaplkmdaa
