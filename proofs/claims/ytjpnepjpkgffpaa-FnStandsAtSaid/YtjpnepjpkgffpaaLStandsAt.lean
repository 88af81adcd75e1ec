/-
  The law StandsAt, walked.
-/
import Derived.Test.YtjpnepjpkgffpaaD22
import Derived.Test.YtjpnepjpkgffpaaL1
import Derived.Test.YtjpnepjpkgffpaaXP
import Derived.Test.YtjpnepjpkgffpaaXM
import Derived.Test.YtjpnepjpkgffpaaPureXV
import Derived.Test.YtjpnepjpkgffpaaTI
namespace Go.Proofs.Ytjpnepjpkgffpaa
open Go.RowKit

set_option maxHeartbeats 4000000 in
set_option maxRecDepth 100000 in
theorem FnStandsAt_calls (w : World) (v : Value) (ha : ArgB w v) :
    Calls Try.prog 6 #[v] w fun e w' => e = .returned (.bool true) ∧ Kept [] w w' := by
  have HA := Lib.hid ha
  obtain ⟨a, len, cap, rfl, hlc, hcm, _⟩ := ha
  by_cases hbig : 1048576 < len
  · have hb : (1048576 : Int) < (len : Int) := by omega
    clear hbig
    go_enter Try.func6, Try.ntmps6
    go_wp2
    go_ret
    exact ⟨rfl, Kept.refl _ _⟩
  have hb : ¬ (1048576 : Int) < (len : Int) := by omega
  clear hbig
  go_enter Try.func6, Try.ntmps6
  go_wp2_with fail
  refine (drawStandsAt_any _ _ HA.out).mono ?_
  rintro e w1 ⟨u, xs, v, ys, rfl, hs, ht, hl1, hl2, hk⟩
  have S1 := Lib.hid hs
  have T1 := Lib.hid ht
  have HK := Lib.hid hk
  clear hk hb
  cases h1 : Nt.flatOf xs ys
  · have HB := Lib.hid (Nt.standsOf_no h1)
    clear h1
    obtain ⟨bS, capS, rfl, _, _, _⟩ := hs.any
    obtain ⟨bT, capT, rfl, _, _, _⟩ := ht.any
    clear hs ht hl1 hl2
    go_wp2_with fail
    refine (iStands_any _ _ _ _ _ _ _ S1.out T1.out).mono ?_
    rintro e w2 ⟨rfl, hk⟩
    rw [HB.out]
    have S2 := Lib.hid (S1.out.stay hk)
    have T2 := Lib.hid (T1.out.stay hk)
    have HK2 := Lib.hid (HK.out.trans hk (by simp))
    clear S1 T1 HK
    clear hk
    go_wp2_with fail
    refine (sStands_any _ _ _ _ _ _ _ S2.out T2.out).mono ?_
    rintro e w3 ⟨rfl, hk⟩
    rw [HB.out]
    have S3 := Lib.hid (S2.out.stay hk)
    have T3 := Lib.hid (T2.out.stay hk)
    have HK3 := Lib.hid (HK2.out.trans hk (by simp))
    clear S2 T2 HK2
    clear hk
    go_wp2_with fail
    refine (alive_any _).mono ?_
    rintro e w4 ⟨rfl, hk⟩
    have S4 := Lib.hid (S3.out.stay hk)
    have T4 := Lib.hid (T3.out.stay hk)
    have HK4 := Lib.hid (HK3.out.trans hk (by simp))
    clear S3 T3 HK3
    clear hk
    go_wp2
    go_ret
    exact ⟨rfl, HK4.out⟩
  · obtain ⟨ns, ks, rfl, rfl, ok, st, hl, hf⟩ := Nt.flatOf_is h1
    obtain ⟨n, hn⟩ : ∃ n, n = ks.length := ⟨_, rfl⟩
    have hp := st.some
    have h6 := st.few
    have HOK := Lib.hid ok
    have HST := Lib.hid st
    have HL := Lib.hid hl
    have HN := Lib.hid hn
    have HF := Lib.hid hf
    have HB := Lib.hid h1
    have hT30 := Nt.stand_few ns ks
    have HSO := Lib.hid (Nt.standsOf_yes h1)
    have HRU := Lib.hid (fun t (h : t ≤ 60) => Nt.trunOf_ok (t := t) ok st hl h)
    have HWI : Hid (∀ k j, k < n → j < n → (ns.getD k 0).testBit j = true → (Nt.turns ns ks (Nt.stand ns ks)).getD j 0 = (Nt.turns ns ks (Nt.stand ns ks)).getD k 0) := Lib.hid (fun k j hk hj hb => Nt.still_wire ok st hl hf (by omega) (by omega) hb)
    have HSY : Hid (Nt.stillOf (Nt.nats ns) (Nt.nats (Nt.turns ns ks (Nt.stand ns ks))) = true) := Lib.hid (by
      rw [Nt.stillOf_ok ok (Nt.turns_st ns st _) (by rw [Nt.turns_length]; exact hl)]
      exact decide_eq_true (Nt.stand_still ok st hl hf))
    have HSN : Hid (∀ s, s < Nt.stand ns ks → Nt.stillOf (Nt.nats ns) (Nt.nats (Nt.turns ns ks s)) = false) := Lib.hid (fun s h => by
      rw [Nt.stillOf_ok ok (Nt.turns_st ns st _) (by rw [Nt.turns_length]; exact hl)]
      exact decide_eq_false (Nt.stand_least h))
    have HXL : Hid (∀ s, (Nt.turns ns ks s).length = n) := Lib.hid (fun s => by rw [Nt.turns_length, hn])
    rw [← hn] at hp h6
    obtain ⟨gS, capS, rfl, hgS, hcS⟩ := hs.row (n := n) (by omega) hp
    obtain ⟨gT, capT, rfl, hgT, hcT⟩ := ht.row hn.symm hp
    have CS1 := Lib.hid hcS
    have lS1 := Lib.hid hgS
    have CT1 := Lib.hid hcT
    have lT1 := Lib.hid hgT
    clear hcS hgS hcT hgT hs ht ok st hl hn hf h1 hl1 hl2
    generalize Nt.stand ns ks = T at *
    have d1 : ((T : Int) != (T : Int)) = false := by simp
    have d2 : decide ((T : Int) < 0) = false := decide_eq_false (by omega)
    go_wp2_with fail
    refine (iStands_any _ _ _ _ _ _ _ S1.out T1.out).mono ?_
    rintro e w2 ⟨rfl, hk⟩
    rw [HSO.out]
    have S2 := Lib.hid (S1.out.stay hk)
    have T2 := Lib.hid (T1.out.stay hk)
    have CS2 := Lib.hid (fun j (hj : j < n) => (hk.cell (p := ⟨gS, j, none⟩) lS1.out (by simp)).trans (CS1.out j hj))
    have lS2 := Lib.hid (Nat.lt_of_lt_of_le lS1.out hk.size)
    have CT2 := Lib.hid (fun j (hj : j < n) => (hk.cell (p := ⟨gT, j, none⟩) lT1.out (by simp)).trans (CT1.out j hj))
    have lT2 := Lib.hid (Nat.lt_of_lt_of_le lT1.out hk.size)
    have HK2 := Lib.hid (HK.out.trans hk (by simp))
    clear S1 T1 CS1 lS1 CT1 lT1 HK
    clear hk
    go_wp2_with fail
    refine (sStands_any _ _ _ _ _ _ _ S2.out T2.out).mono ?_
    rintro e w3 ⟨rfl, hk⟩
    rw [HSO.out]
    have S3 := Lib.hid (S2.out.stay hk)
    have T3 := Lib.hid (T2.out.stay hk)
    have CS3 := Lib.hid (fun j (hj : j < n) => (hk.cell (p := ⟨gS, j, none⟩) lS2.out (by simp)).trans (CS2.out j hj))
    have lS3 := Lib.hid (Nat.lt_of_lt_of_le lS2.out hk.size)
    have CT3 := Lib.hid (fun j (hj : j < n) => (hk.cell (p := ⟨gT, j, none⟩) lT2.out (by simp)).trans (CT2.out j hj))
    have lT3 := Lib.hid (Nat.lt_of_lt_of_le lT2.out hk.size)
    have HK3 := Lib.hid (HK2.out.trans hk (by simp))
    clear S2 T2 CS2 lS2 CT2 lT2 HK2
    clear hk
    go_wp2_with fail
    refine (iTurnRun_any _ _ _ _ _ _ _ _ S3.out T3.out).mono ?_
    rintro e w4 ⟨u4, rfl, hs, hk⟩
    rw [HRU.out T (by omega)] at hs
    have X4 := Lib.hid hs
    obtain ⟨gX, capX, rfl, hgX, hcX⟩ := hs.row (HXL.out T) hp
    have CX4 := Lib.hid hcX
    have lX4 := Lib.hid hgX
    clear hgX hcX
    have S4 := Lib.hid (S3.out.stay hk)
    have T4 := Lib.hid (T3.out.stay hk)
    have CS4 := Lib.hid (fun j (hj : j < n) => (hk.cell (p := ⟨gS, j, none⟩) lS3.out (by simp)).trans (CS3.out j hj))
    have lS4 := Lib.hid (Nat.lt_of_lt_of_le lS3.out hk.size)
    have CT4 := Lib.hid (fun j (hj : j < n) => (hk.cell (p := ⟨gT, j, none⟩) lT3.out (by simp)).trans (CT3.out j hj))
    have lT4 := Lib.hid (Nat.lt_of_lt_of_le lT3.out hk.size)
    have HK4 := Lib.hid (HK3.out.trans hk (by simp))
    clear S3 T3 CS3 lS3 CT3 lT3 HK3
    clear hs hk
    have hnn : ((n : Int) == (n : Int)) = true := by simp
    go_wp2_with fail
    go_loopw [7] (fun i wr => ∃ k : Nat, k ≤ n ∧ i = .int .i64 k ∧ Qt w4 wr) (fun i _ => n - (intOf i).toNat)
    case atStart => exact ⟨0, Nat.zero_le _, rfl, Qt.refl _⟩
    case round =>
      obtain ⟨k, hk, rfl, hq⟩ := hrel
      have HQ := Lib.hid hq
      by_cases hlt : k < n
      · clear hq
        go_wp2_with fail
        go_loopw [8] (fun i wx => ∃ j : Nat, j ≤ n ∧ i = .int .i64 j ∧ Qt w4 wx) (fun i _ => n - (intOf i).toNat)
        case atStart => exact ⟨0, Nat.zero_le _, rfl, HQ.out⟩
        case round =>
          clear HQ
          obtain ⟨j, hj, rfl, hq⟩ := hrel
          have HQ := Lib.hid hq
          by_cases hlj : j < n
          · have kX := (hq.cell _).trans (CX4.out k hlt)
            have jX := (hq.cell _).trans (CX4.out j hlj)
            have kS := (hq.cell _).trans (CS4.out k hlt)
            have HWK := Lib.hid (HWI.out k j hlt hlj)
            clear hq
            generalize (Nt.turns ns ks T).getD k 0 = x at *
            generalize (Nt.turns ns ks T).getD j 0 = y at *
            generalize ns.getD k 0 = b at *
            cases hbit : b.testBit j
            · have f1 : ((b : Int) / 2 ^ j).tmod 2 = 0 := by rw [shr_rem, hbit]; rfl
              clear hbit HWK
              go_wp2_with fail
              go_quiet (fail)
              go_wp2
              go_roundw
              case rel => exact ⟨j + 1, by omega, by go_num, HQ.out.draw _⟩
              case measure => simp [intOf]; omega
            · have f1 : ((b : Int) / 2 ^ j).tmod 2 = 1 := by rw [shr_rem, hbit]; rfl
              have hyx := HWK.out hbit
              have d3 : ((y : Int) != (x : Int)) = false := by simp [hyx]
              clear hbit HWK hyx
              go_wp2_with fail
              go_quiet (fail)
              go_wp2
              go_roundw
              case rel => exact ⟨j + 1, by omega, by go_num, HQ.out.draw _⟩
              case measure => simp [intOf]; omega
          · have hj' : j = n := by omega
            subst hj'
            clear hq
            go_wp2
            go_roundw
            case rel => exact ⟨k + 1, by omega, by go_num, HQ.out⟩
            case measure => simp [intOf]; omega
      · have hk' : k = n := by omega
        subst hk'
        have hk := hq.kept
        clear hlt HQ
        obtain ⟨w8, hw8⟩ : ∃ w8, w8 = wr := ⟨_, rfl⟩
        subst hw8
        have S8 := Lib.hid (S4.out.stay hk)
        have T8 := Lib.hid (T4.out.stay hk)
        have X8 := Lib.hid (X4.out.stay hk)
        have HK8 := Lib.hid (HK4.out.trans hk (by simp))
        clear S4 T4 X4 HK4
        clear hk hq
        go_wp2_with fail
        refine (iStill_any _ _ _ _ _ _ _ S8.out X8.out).mono ?_
        rintro e w9 ⟨rfl, hk⟩
        rw [HSY.out]
        have S9 := Lib.hid (S8.out.stay hk)
        have T9 := Lib.hid (T8.out.stay hk)
        have X9 := Lib.hid (X8.out.stay hk)
        have HK9 := Lib.hid (HK8.out.trans hk (by simp))
        clear S8 T8 X8 HK8
        clear hk
        by_cases h0 : T = 0
        · have d5 : ((T : Int) == 0) = true := by simp [h0]
          clear h0
          go_wp2
          go_ret
          exact ⟨rfl, HK9.out⟩
        · have d5 : ((T : Int) == 0) = false := beq_eq_false_iff_ne.2 (by omega)
          have s1 : IntKind.i64.wrap ((T : Int) - 1) = ((T - 1 : Nat) : Int) := by rw [IntWalk.i64_in _ (by omega)]; omega
          have HT1 := Lib.hid (HRU.out (T - 1) (by omega))
          have HS1 := Lib.hid (HSN.out (T - 1) (by omega))
          clear h0
          go_wp2_with fail
          refine (iTurnRun_any _ _ _ _ _ _ _ _ S9.out T9.out).mono ?_
          rintro e w31 ⟨u31, rfl, hs, hk⟩
          rw [HT1.out] at hs
          have Y31 := Lib.hid hs
          obtain ⟨gY, capY, rfl, hgY, hcY⟩ := hs.row (HXL.out (T - 1)) hp
          clear hgY hcY
          have S31 := Lib.hid (S9.out.stay hk)
          have T31 := Lib.hid (T9.out.stay hk)
          have X31 := Lib.hid (X9.out.stay hk)
          have HK31 := Lib.hid (HK9.out.trans hk (by simp))
          clear S9 T9 X9 HK9
          clear hs hk
          go_wp2_with fail
          refine (iStill_any _ _ _ _ _ _ _ S31.out Y31.out).mono ?_
          rintro e w32 ⟨rfl, hk⟩
          rw [HS1.out]
          have S32 := Lib.hid (S31.out.stay hk)
          have T32 := Lib.hid (T31.out.stay hk)
          have X32 := Lib.hid (X31.out.stay hk)
          have Y32 := Lib.hid (Y31.out.stay hk)
          have HK32 := Lib.hid (HK31.out.trans hk (by simp))
          clear S31 T31 X31 Y31 HK31
          clear hk
          go_wp2
          go_ret
          exact ⟨rfl, HK32.out⟩
end Go.Proofs.Ytjpnepjpkgffpaa
