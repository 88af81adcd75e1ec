/-
  The law PeakRow, walked.
-/
import Derived.Test.YtjpnepjpkgffpaaD22
import Derived.Test.YtjpnepjpkgffpaaL1
import Derived.Test.YtjpnepjpkgffpaaXP
import Derived.Test.YtjpnepjpkgffpaaXM
import Derived.Test.YtjpnepjpkgffpaaPureXV
import Derived.Test.YtjpnepjpkgffpaaTI
namespace Go.Proofs.Ytjpnepjpkgffpaa
open Go.RowKit

set_option maxHeartbeats 4000000 in
set_option maxRecDepth 100000 in
theorem FnPeakRow_calls (w : World) (v : Value) (ha : ArgB w v) :
    Calls Try.prog 7 #[v] w fun e w' => e = .returned (.bool true) ∧ Kept [] w w' := by
  have HA := Lib.hid ha
  obtain ⟨a, len, cap, rfl, hlc, hcm, _⟩ := ha
  by_cases hbig : 1048576 < len
  · have hb : (1048576 : Int) < (len : Int) := by omega
    clear hbig
    go_enter Try.func7, Try.ntmps7
    go_wp2
    go_ret
    exact ⟨rfl, Kept.refl _ _⟩
  have hb : ¬ (1048576 : Int) < (len : Int) := by omega
  clear hbig
  go_enter Try.func7, Try.ntmps7
  go_wp2_with fail
  refine (drawPeakRow_any _ _ HA.out).mono ?_
  rintro e w1 ⟨u, xs, v, ys, rfl, hs, ht, hl1, hl2, hk⟩
  have S1 := Lib.hid hs
  have T1 := Lib.hid ht
  have HK := Lib.hid hk
  clear hk hb
  cases h1 : Nt.flatOf xs ys
  · have HB := Lib.hid h1
    have HP := Lib.hid (Nt.peaksOf_no h1)
    clear h1
    obtain ⟨bS, capS, rfl, _, _, _⟩ := hs.any
    obtain ⟨bT, capT, rfl, _, _, _⟩ := ht.any
    clear hs ht hl1 hl2
    go_wp2_with fail
    refine (iPeak_any _ _ _ _ _ _ _ S1.out T1.out).mono ?_
    rintro e w2 ⟨u2, rfl, hs, hk⟩
    rw [HP.out] at hs
    have R2 := Lib.hid hs
    obtain ⟨bR, capR, rfl, _, _, _⟩ := hs.any
    have S2 := Lib.hid (S1.out.stay hk)
    have T2 := Lib.hid (T1.out.stay hk)
    have HK2 := Lib.hid (HK.out.trans hk (by simp))
    clear S1 T1 HK
    clear hs hk
    go_wp2_with fail
    refine (sPeak_any _ _ _ _ _ _ _ S2.out T2.out).mono ?_
    rintro e w3 ⟨u3, rfl, hs, hk⟩
    rw [HP.out] at hs
    have Y3 := Lib.hid hs
    obtain ⟨bY, capY, rfl, _, _, _⟩ := hs.any
    have S3 := Lib.hid (S2.out.stay hk)
    have T3 := Lib.hid (T2.out.stay hk)
    have R3 := Lib.hid (R2.out.stay hk)
    have HK3 := Lib.hid (HK2.out.trans hk (by simp))
    clear S2 T2 R2 HK2
    clear hs hk
    go_wp2_with fail
    refine (sameInts_any _ _ _ _ _ _ _ R3.out Y3.out).mono ?_
    rintro e w4 ⟨rfl, hq⟩
    rw [dec_of rfl]
    have hk := hq.kept
    have S4 := Lib.hid (S3.out.stay hk)
    have T4 := Lib.hid (T3.out.stay hk)
    have R4 := Lib.hid (R3.out.stay hk)
    have Y4 := Lib.hid (Y3.out.stay hk)
    have HK4 := Lib.hid (HK3.out.trans hk (by simp))
    clear S3 T3 R3 Y3 HK3
    clear hk hq
    clear Y4
    go_wp2_with fail
    refine (iFlat_any _ _ _ _ _ _ _ S4.out T4.out).mono ?_
    rintro e w5 ⟨rfl, hk⟩
    rw [HB.out]
    have S5 := Lib.hid (S4.out.stay hk)
    have T5 := Lib.hid (T4.out.stay hk)
    have R5 := Lib.hid (R4.out.stay hk)
    have HK5 := Lib.hid (HK4.out.trans hk (by simp))
    clear S4 T4 R4 HK4
    clear hk
    go_wp2_with fail
    refine (alive_any _).mono ?_
    rintro e w6 ⟨rfl, hk⟩
    have S6 := Lib.hid (S5.out.stay hk)
    have T6 := Lib.hid (T5.out.stay hk)
    have R6 := Lib.hid (R5.out.stay hk)
    have HK6 := Lib.hid (HK5.out.trans hk (by simp))
    clear S5 T5 R5 HK5
    clear hk
    go_wp2
    go_ret
    exact ⟨rfl, HK6.out⟩
  · obtain ⟨ns, ks, rfl, rfl, ok, st, hl, hf⟩ := Nt.flatOf_is h1
    obtain ⟨n, hn⟩ : ∃ n, n = ks.length := ⟨_, rfl⟩
    have hp := st.some
    have h6 := st.few
    have HOK := Lib.hid ok
    have HST := Lib.hid st
    have HL := Lib.hid hl
    have HN := Lib.hid hn
    have HF := Lib.hid hf
    have HB := Lib.hid h1
    have hT30 := Nt.stand_few ns ks
    have HSO := Lib.hid (Nt.standsOf_yes h1)
    have HP := Lib.hid (Nt.peaksOf_yes h1)
    have HH := Lib.hid (Nt.heightsOf_yes h1)
    have HPL : Hid ((Nt.peakL ns ks).length = n) := Lib.hid (by rw [Nt.peakL_length, hn])
    have HHL : Hid ((Nt.hgtL ns ks).length = n) := Lib.hid (by rw [Nt.hgtL_length, hn])
    have HTU : Hid (Nt.tturnedOf (Nt.nats ns) (Nt.nats ks) ((Nt.stand ns ks : Nat) : Int) = Nt.nats (Nt.turnedL ns ks (Nt.stand ns ks))) := Lib.hid (Nt.tturnedOf_ok ok st hl (by omega))
    have HRL : Hid ((Nt.turnedL ns ks (Nt.stand ns ks)).length = n) := Lib.hid (by rw [Nt.turnedL_length, hn])
    have HSM : Hid (∀ k, k < n → -5 ≤ (Nt.hgtL ns ks).getD k 0 ∧ (Nt.hgtL ns ks).getD k 0 ≤ 5) := Lib.hid (fun k hk => by rw [Nt.hgtL_get ns ks (by omega)]; exact Nt.hgt_small ok st hl hf (by omega))
    have HTL : Hid (∀ k, k < n → (Nt.turnedL ns ks (Nt.stand ns ks)).getD k 0 ≤ 30) := Lib.hid (fun k hk => by
      rw [Nt.turnedL_get _ _ _ (by omega)]
      have := Nt.turned_le ns ks k (Nt.stand ns ks)
      omega)
    have HSU : Hid (∀ k, k < n → (Nt.hgtL ns ks).getD k 0 + (((Nt.turnedL ns ks (Nt.stand ns ks)).getD k 0 : Nat) : Int) = (Nt.peakL ns ks).getD k 0) := Lib.hid (fun k hk => by
      rw [Nt.hgtL_get ns ks (by omega), Nt.turnedL_get _ _ _ (by omega), Nt.peakL_get ns ks (by omega)]
      exact Nt.peak_turned ok st hl hf (by omega))
    rw [← hn] at hp h6
    obtain ⟨gS, capS, rfl, hgS, hcS⟩ := hs.row (n := n) (by omega) hp
    obtain ⟨gT, capT, rfl, hgT, hcT⟩ := ht.row hn.symm hp
    have CS1 := Lib.hid hcS
    have lS1 := Lib.hid hgS
    have CT1 := Lib.hid hcT
    have lT1 := Lib.hid hgT
    clear hcS hgS hcT hgT hs ht ok st hl hn hf h1 hl1 hl2
    generalize Nt.hgtL ns ks = hg at *
    generalize Nt.peakL ns ks = pk at *
    generalize Nt.stand ns ks = T at *
    have hne0 : ((n : Int) == 0) = false := beq_eq_false_iff_ne.2 (by omega)
    have hnn : ((n : Int) != (n : Int)) = false := by simp
    go_wp2_with fail
    refine (iPeak_any _ _ _ _ _ _ _ S1.out T1.out).mono ?_
    rintro e w2 ⟨u2, rfl, hs, hk⟩
    rw [HP.out] at hs
    have R2 := Lib.hid hs
    obtain ⟨gR, capR, rfl, _, hgR⟩ := hs.shape HPL.out hp
    have CR2 := Lib.hid (fun j (hj : j < n) => (hs.at j (by rw [HPL.out]; exact hj)).1)
    have lR2 := Lib.hid hgR
    clear hgR
    have S2 := Lib.hid (S1.out.stay hk)
    have T2 := Lib.hid (T1.out.stay hk)
    have CS2 := Lib.hid (fun j (hj : j < n) => (hk.cell (p := ⟨gS, j, none⟩) lS1.out (by simp)).trans (CS1.out j hj))
    have lS2 := Lib.hid (Nat.lt_of_lt_of_le lS1.out hk.size)
    have CT2 := Lib.hid (fun j (hj : j < n) => (hk.cell (p := ⟨gT, j, none⟩) lT1.out (by simp)).trans (CT1.out j hj))
    have lT2 := Lib.hid (Nat.lt_of_lt_of_le lT1.out hk.size)
    have HK2 := Lib.hid (HK.out.trans hk (by simp))
    clear S1 T1 CS1 lS1 CT1 lT1 HK
    clear hs hk
    go_wp2_with fail
    refine (sPeak_any _ _ _ _ _ _ _ S2.out T2.out).mono ?_
    rintro e w3 ⟨u3, rfl, hs, hk⟩
    rw [HP.out] at hs
    have Y3 := Lib.hid hs
    obtain ⟨bY, capY, rfl, _, _, _⟩ := hs.any
    have S3 := Lib.hid (S2.out.stay hk)
    have T3 := Lib.hid (T2.out.stay hk)
    have R3 := Lib.hid (R2.out.stay hk)
    have CS3 := Lib.hid (fun j (hj : j < n) => (hk.cell (p := ⟨gS, j, none⟩) lS2.out (by simp)).trans (CS2.out j hj))
    have lS3 := Lib.hid (Nat.lt_of_lt_of_le lS2.out hk.size)
    have CT3 := Lib.hid (fun j (hj : j < n) => (hk.cell (p := ⟨gT, j, none⟩) lT2.out (by simp)).trans (CT2.out j hj))
    have lT3 := Lib.hid (Nat.lt_of_lt_of_le lT2.out hk.size)
    have CR3 := Lib.hid (fun j (hj : j < n) => (hk.cell (p := ⟨gR, j, none⟩) lR2.out (by simp)).trans (CR2.out j hj))
    have lR3 := Lib.hid (Nat.lt_of_lt_of_le lR2.out hk.size)
    have HK3 := Lib.hid (HK2.out.trans hk (by simp))
    clear S2 T2 R2 CS2 lS2 CT2 lT2 CR2 lR2 HK2
    clear hs hk
    go_wp2_with fail
    refine (sameInts_any _ _ _ _ _ _ _ R3.out Y3.out).mono ?_
    rintro e w4 ⟨rfl, hq⟩
    rw [dec_of rfl]
    have hk := hq.kept
    have S4 := Lib.hid (S3.out.stay hk)
    have T4 := Lib.hid (T3.out.stay hk)
    have R4 := Lib.hid (R3.out.stay hk)
    have Y4 := Lib.hid (Y3.out.stay hk)
    have CS4 := Lib.hid (fun j (hj : j < n) => (hk.cell (p := ⟨gS, j, none⟩) lS3.out (by simp)).trans (CS3.out j hj))
    have lS4 := Lib.hid (Nat.lt_of_lt_of_le lS3.out hk.size)
    have CT4 := Lib.hid (fun j (hj : j < n) => (hk.cell (p := ⟨gT, j, none⟩) lT3.out (by simp)).trans (CT3.out j hj))
    have lT4 := Lib.hid (Nat.lt_of_lt_of_le lT3.out hk.size)
    have CR4 := Lib.hid (fun j (hj : j < n) => (hk.cell (p := ⟨gR, j, none⟩) lR3.out (by simp)).trans (CR3.out j hj))
    have lR4 := Lib.hid (Nat.lt_of_lt_of_le lR3.out hk.size)
    have HK4 := Lib.hid (HK3.out.trans hk (by simp))
    clear S3 T3 R3 Y3 CS3 lS3 CT3 lT3 CR3 lR3 HK3
    clear hk hq
    clear Y4
    go_wp2_with fail
    refine (iHeight_any _ _ _ _ _ _ _ S4.out T4.out).mono ?_
    rintro e w5 ⟨u5, rfl, hs, hk⟩
    rw [HB.out]
    rw [HH.out] at hs
    have H5 := Lib.hid hs
    obtain ⟨gH, capH, rfl, _, hgH⟩ := hs.shape HHL.out hp
    have CH5 := Lib.hid (fun j (hj : j < n) => (hs.at j (by rw [HHL.out]; exact hj)).1)
    have lH5 := Lib.hid hgH
    clear hgH
    have S5 := Lib.hid (S4.out.stay hk)
    have T5 := Lib.hid (T4.out.stay hk)
    have R5 := Lib.hid (R4.out.stay hk)
    have CS5 := Lib.hid (fun j (hj : j < n) => (hk.cell (p := ⟨gS, j, none⟩) lS4.out (by simp)).trans (CS4.out j hj))
    have lS5 := Lib.hid (Nat.lt_of_lt_of_le lS4.out hk.size)
    have CT5 := Lib.hid (fun j (hj : j < n) => (hk.cell (p := ⟨gT, j, none⟩) lT4.out (by simp)).trans (CT4.out j hj))
    have lT5 := Lib.hid (Nat.lt_of_lt_of_le lT4.out hk.size)
    have CR5 := Lib.hid (fun j (hj : j < n) => (hk.cell (p := ⟨gR, j, none⟩) lR4.out (by simp)).trans (CR4.out j hj))
    have lR5 := Lib.hid (Nat.lt_of_lt_of_le lR4.out hk.size)
    have HK5 := Lib.hid (HK4.out.trans hk (by simp))
    clear S4 T4 R4 CS4 lS4 CT4 lT4 CR4 lR4 HK4
    clear hs hk
    go_wp2_with fail
    refine (iStands_any _ _ _ _ _ _ _ S5.out T5.out).mono ?_
    rintro e w6 ⟨rfl, hk⟩
    rw [HSO.out]
    have S6 := Lib.hid (S5.out.stay hk)
    have T6 := Lib.hid (T5.out.stay hk)
    have R6 := Lib.hid (R5.out.stay hk)
    have H6 := Lib.hid (H5.out.stay hk)
    have CS6 := Lib.hid (fun j (hj : j < n) => (hk.cell (p := ⟨gS, j, none⟩) lS5.out (by simp)).trans (CS5.out j hj))
    have lS6 := Lib.hid (Nat.lt_of_lt_of_le lS5.out hk.size)
    have CT6 := Lib.hid (fun j (hj : j < n) => (hk.cell (p := ⟨gT, j, none⟩) lT5.out (by simp)).trans (CT5.out j hj))
    have lT6 := Lib.hid (Nat.lt_of_lt_of_le lT5.out hk.size)
    have CR6 := Lib.hid (fun j (hj : j < n) => (hk.cell (p := ⟨gR, j, none⟩) lR5.out (by simp)).trans (CR5.out j hj))
    have lR6 := Lib.hid (Nat.lt_of_lt_of_le lR5.out hk.size)
    have CH6 := Lib.hid (fun j (hj : j < n) => (hk.cell (p := ⟨gH, j, none⟩) lH5.out (by simp)).trans (CH5.out j hj))
    have lH6 := Lib.hid (Nat.lt_of_lt_of_le lH5.out hk.size)
    have HK6 := Lib.hid (HK5.out.trans hk (by simp))
    clear S5 T5 R5 H5 CS5 lS5 CT5 lT5 CR5 lR5 CH5 lH5 HK5
    clear hk
    go_wp2_with fail
    all_goals
      refine (iTurnedRow_any _ _ _ _ _ _ _ _ S6.out T6.out).mono ?_
      rintro e w7 ⟨u7, rfl, hs, hk⟩
      rw [HTU.out] at hs
      have U7 := Lib.hid hs
      obtain ⟨gU, capU, rfl, hgU, hcU⟩ := hs.row HRL.out hp
      have CU7 := Lib.hid hcU
      have lU7 := Lib.hid hgU
      clear hgU hcU
      have S7 := Lib.hid (S6.out.stay hk)
      have T7 := Lib.hid (T6.out.stay hk)
      have R7 := Lib.hid (R6.out.stay hk)
      have H7 := Lib.hid (H6.out.stay hk)
      have CS7 := Lib.hid (fun j (hj : j < n) => (hk.cell (p := ⟨gS, j, none⟩) lS6.out (by simp)).trans (CS6.out j hj))
      have lS7 := Lib.hid (Nat.lt_of_lt_of_le lS6.out hk.size)
      have CT7 := Lib.hid (fun j (hj : j < n) => (hk.cell (p := ⟨gT, j, none⟩) lT6.out (by simp)).trans (CT6.out j hj))
      have lT7 := Lib.hid (Nat.lt_of_lt_of_le lT6.out hk.size)
      have CR7 := Lib.hid (fun j (hj : j < n) => (hk.cell (p := ⟨gR, j, none⟩) lR6.out (by simp)).trans (CR6.out j hj))
      have lR7 := Lib.hid (Nat.lt_of_lt_of_le lR6.out hk.size)
      have CH7 := Lib.hid (fun j (hj : j < n) => (hk.cell (p := ⟨gH, j, none⟩) lH6.out (by simp)).trans (CH6.out j hj))
      have lH7 := Lib.hid (Nat.lt_of_lt_of_le lH6.out hk.size)
      have HK7 := Lib.hid (HK6.out.trans hk (by simp))
      clear S6 T6 R6 H6 CS6 lS6 CT6 lT6 CR6 lR6 CH6 lH6 HK6
      clear hs hk
      go_wp2_with fail
      go_loopw [9] (fun i wr => ∃ k : Nat, k ≤ n ∧ i = .int .i64 k ∧ Qt w7 wr) (fun i _ => n - (intOf i).toNat)
      case atStart => exact ⟨0, Nat.zero_le _, rfl, Qt.refl _⟩
      case round =>
        obtain ⟨k, hk, rfl, hq⟩ := hrel
        have HQ := Lib.hid hq
        by_cases hlt : k < n
        · have kR := (hq.cell _).trans (CR7.out k hlt)
          have kH := (hq.cell _).trans (CH7.out k hlt)
          have kU := (hq.cell _).trans (CU7.out k hlt)
          have b1 := HSM.out k hlt
          have b2 := HTL.out k hlt
          have hsu := HSU.out k hlt
          clear hq
          generalize hg.getD k 0 = x at *
          generalize (Nt.turnedL ns ks T).getD k 0 = r at *
          generalize pk.getD k 0 = p at *
          have s1 : IntKind.i64.wrap (x + (r : Int)) = x + (r : Int) := IntWalk.i64_in _ (by omega)
          have d1 : (x + (r : Int) != p) = false := by simp [hsu]
          clear hsu
          go_wp2_with fail
          go_quiet (fail)
          go_wp2
          go_roundw
          case rel => exact ⟨k + 1, by omega, by go_num, HQ.out.draw _⟩
          case measure => simp [intOf]; omega
        · have hk' : k = n := by omega
          subst hk'
          clear hq hlt
          go_wp2
          go_ret
          exact ⟨rfl, HK7.out.trans HQ.out.kept (by simp)⟩
end Go.Proofs.Ytjpnepjpkgffpaa
