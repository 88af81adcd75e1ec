/-
  The law HeightRow, walked.
-/
import Derived.Test.YtjpnepjpkgffpaaD22
import Derived.Test.YtjpnepjpkgffpaaL1
import Derived.Test.YtjpnepjpkgffpaaXP
import Derived.Test.YtjpnepjpkgffpaaXM
import Derived.Test.YtjpnepjpkgffpaaPureXV
import Derived.Test.YtjpnepjpkgffpaaTI
import Derived.Test.YtjpnepjpkgffpaaNC
import Derived.Test.YtjpnepjpkgffpaaH1
namespace Go.Proofs.Ytjpnepjpkgffpaa
open Go.RowKit

set_option maxHeartbeats 4000000 in
set_option maxRecDepth 100000 in
theorem FnHeightRow_calls (w : World) (v : Value) (ha : ArgB w v) :
    Calls Try.prog 4 #[v] w fun e w' => e = .returned (.bool true) ∧ Kept [] w w' := by
  have HA := Lib.hid ha
  obtain ⟨a, len, cap, rfl, hlc, hcm, _⟩ := ha
  by_cases hbig : 1048576 < len
  · have hb : (1048576 : Int) < (len : Int) := by omega
    clear hbig
    go_enter Try.func4, Try.ntmps4
    go_wp2
    go_ret
    exact ⟨rfl, Kept.refl _ _⟩
  have hb : ¬ (1048576 : Int) < (len : Int) := by omega
  clear hbig
  go_enter Try.func4, Try.ntmps4
  go_wp2_with fail
  refine (drawHeightRow_any _ _ HA.out).mono ?_
  rintro e w1 ⟨u, xs, v, ys, rfl, hs, ht, hl1, hl2, hk⟩
  have S1 := Lib.hid hs
  have T1 := Lib.hid ht
  have HK := Lib.hid hk
  clear hk hb
  cases h1 : Nt.flatOf xs ys
  · have HB := Lib.hid h1
    have HH := Lib.hid (Nt.heightsOf_no h1)
    clear h1
    obtain ⟨bS, capS, rfl, _, _, _⟩ := hs.any
    obtain ⟨bT, capT, rfl, _, _, _⟩ := ht.any
    clear hs ht hl1 hl2
    go_wp2_with fail
    refine (iHeight_any _ _ _ _ _ _ _ S1.out T1.out).mono ?_
    rintro e w2 ⟨u2, rfl, hs, hk⟩
    rw [HB.out]
    rw [HH.out] at hs
    have R2 := Lib.hid hs
    obtain ⟨bR, capR, rfl, _, _, _⟩ := hs.any
    have S2 := Lib.hid (S1.out.stay hk)
    have T2 := Lib.hid (T1.out.stay hk)
    have HK2 := Lib.hid (HK.out.trans hk (by simp))
    clear S1 T1 HK
    clear hs hk
    go_wp2_with fail
    refine (sHeight_any _ _ _ _ _ _ _ S2.out T2.out).mono ?_
    rintro e w3 ⟨u3, rfl, hs, hk⟩
    rw [HB.out]
    rw [HH.out] at hs
    have Y3 := Lib.hid hs
    obtain ⟨bY, capY, rfl, _, _, _⟩ := hs.any
    have S3 := Lib.hid (S2.out.stay hk)
    have T3 := Lib.hid (T2.out.stay hk)
    have R3 := Lib.hid (R2.out.stay hk)
    have HK3 := Lib.hid (HK2.out.trans hk (by simp))
    clear S2 T2 R2 HK2
    clear hs hk
    go_wp2_with fail
    refine (sameInts_any _ _ _ _ _ _ _ R3.out Y3.out).mono ?_
    rintro e w4 ⟨rfl, hq⟩
    rw [dec_of rfl]
    have hk := hq.kept
    have S4 := Lib.hid (S3.out.stay hk)
    have T4 := Lib.hid (T3.out.stay hk)
    have R4 := Lib.hid (R3.out.stay hk)
    have Y4 := Lib.hid (Y3.out.stay hk)
    have HK4 := Lib.hid (HK3.out.trans hk (by simp))
    clear S3 T3 R3 Y3 HK3
    clear hk hq
    clear Y4
    go_wp2_with fail
    refine (iFlat_any _ _ _ _ _ _ _ S4.out T4.out).mono ?_
    rintro e w5 ⟨rfl, hk⟩
    rw [HB.out]
    have S5 := Lib.hid (S4.out.stay hk)
    have T5 := Lib.hid (T4.out.stay hk)
    have R5 := Lib.hid (R4.out.stay hk)
    have HK5 := Lib.hid (HK4.out.trans hk (by simp))
    clear S4 T4 R4 HK4
    clear hk
    go_wp2_with fail
    refine (alive_any _).mono ?_
    rintro e w6 ⟨rfl, hk⟩
    have S6 := Lib.hid (S5.out.stay hk)
    have T6 := Lib.hid (T5.out.stay hk)
    have R6 := Lib.hid (R5.out.stay hk)
    have HK6 := Lib.hid (HK5.out.trans hk (by simp))
    clear S5 T5 R5 HK5
    clear hk
    go_wp2
    go_ret
    exact ⟨rfl, HK6.out⟩
  · obtain ⟨ns, ks, rfl, rfl, ok, st, hl, hf⟩ := Nt.flatOf_is h1
    obtain ⟨n, hn⟩ : ∃ n, n = ks.length := ⟨_, rfl⟩
    have hp := st.some
    have h6 := st.few
    have HOK := Lib.hid ok
    have HST := Lib.hid st
    have HL := Lib.hid hl
    have HN := Lib.hid hn
    have HF := Lib.hid hf
    have HB := Lib.hid h1
    have HH := Lib.hid (Nt.heightsOf_yes h1)
    have HHL : Hid ((Nt.hgtL ns ks).length = n) := Lib.hid (by rw [Nt.hgtL_length, hn])
    have HTU : Hid (Nt.tturnedOf (Nt.nats ns) (Nt.nats ks) 1 = Nt.nats (Nt.turnedL ns ks 1)) := Lib.hid (Nt.tturnedOf_ok (t := 1) ok st hl (by omega))
    have HRL : Hid ((Nt.turnedL ns ks 1).length = n) := Lib.hid (by rw [Nt.turnedL_length, hn])
    have HPO := Lib.hid (Nt.partsOf_ok ok)
    have HPL : Hid ((Nt.parts ns).length = n) := Lib.hid (by rw [Nt.parts_length ok]; omega)
    have HRO : Hid (∀ k, k < n → (Nt.parts ns).getD k 0 = k → (Nt.hgtL ns ks).getD k 0 = 0) := Lib.hid (fun k hk e => Nt.hgtL_root (by omega) e)
    have HSM : Hid (∀ k, k < n → -5 ≤ (Nt.hgtL ns ks).getD k 0 ∧ (Nt.hgtL ns ks).getD k 0 ≤ 5) := Lib.hid (fun k hk => by rw [Nt.hgtL_get ns ks (by omega)]; exact Nt.hgt_small ok st hl hf (by omega))
    have HRI : Hid (∀ k j, k < n → j < n → (ns.getD k 0).testBit j = true → (Nt.hgtL ns ks).getD j 0 - (Nt.hgtL ns ks).getD k 0 = Nt.riseOf (Nt.nats ks) (k : Int) (j : Int)) := Lib.hid (fun k j hk hj hb => Nt.hgtL_rise ok st hl hf (by omega) (by omega) hb)
    have HUP : Hid (∀ k, k < n → (Nt.turnedL ns ks 1).getD k 0 = if Nt.upTo ns (Nt.hgtL ns ks) k n = true then 1 else 0) := Lib.hid (fun k hk => by
      have h := Nt.up_pull ok st hl hf (k := k) (by omega)
      rw [← hn] at h
      rw [h]; exact Nt.turnedL_one (by omega))
    have HUS : Hid (∀ k j, Nt.upTo ns (Nt.hgtL ns ks) k (j + 1) = (Nt.upTo ns (Nt.hgtL ns ks) k j || ((ns.getD k 0).testBit j && decide ((Nt.hgtL ns ks).getD k 0 < (Nt.hgtL ns ks).getD j 0)))) := Lib.hid (fun _ _ => rfl)
    have HU0 : Hid (∀ k, Nt.upTo ns (Nt.hgtL ns ks) k 0 = false) := Lib.hid (fun _ => rfl)
    rw [← hn] at hp h6
    obtain ⟨gS, capS, rfl, hgS, hcS⟩ := hs.row (n := n) (by omega) hp
    obtain ⟨gT, capT, rfl, hgT, hcT⟩ := ht.row hn.symm hp
    have CS1 := Lib.hid hcS
    have lS1 := Lib.hid hgS
    have CT1 := Lib.hid hcT
    have lT1 := Lib.hid hgT
    clear hcS hgS hcT hgT hs ht ok st hl hn hf h1 hl1 hl2
    generalize Nt.hgtL ns ks = hg at *
    go_wp2_with fail
    refine (iHeight_any _ _ _ _ _ _ _ S1.out T1.out).mono ?_
    rintro e w2 ⟨u2, rfl, hs, hk⟩
    rw [HB.out]
    rw [HH.out] at hs
    have R2 := Lib.hid hs
    obtain ⟨gR, capR, rfl, _, hgR⟩ := hs.shape HHL.out hp
    have CR2 := Lib.hid (fun j (hj : j < n) => (hs.at j (by rw [HHL.out]; exact hj)).1)
    have lR2 := Lib.hid hgR
    clear hgR
    have S2 := Lib.hid (S1.out.stay hk)
    have T2 := Lib.hid (T1.out.stay hk)
    have CS2 := Lib.hid (fun j (hj : j < n) => (hk.cell (p := ⟨gS, j, none⟩) lS1.out (by simp)).trans (CS1.out j hj))
    have lS2 := Lib.hid (Nat.lt_of_lt_of_le lS1.out hk.size)
    have CT2 := Lib.hid (fun j (hj : j < n) => (hk.cell (p := ⟨gT, j, none⟩) lT1.out (by simp)).trans (CT1.out j hj))
    have lT2 := Lib.hid (Nat.lt_of_lt_of_le lT1.out hk.size)
    have HK2 := Lib.hid (HK.out.trans hk (by simp))
    clear S1 T1 CS1 lS1 CT1 lT1 HK
    clear hs hk
    go_wp2_with fail
    refine (sHeight_any _ _ _ _ _ _ _ S2.out T2.out).mono ?_
    rintro e w3 ⟨u3, rfl, hs, hk⟩
    rw [HB.out]
    rw [HH.out] at hs
    have Y3 := Lib.hid hs
    obtain ⟨bY, capY, rfl, _, _, _⟩ := hs.any
    have S3 := Lib.hid (S2.out.stay hk)
    have T3 := Lib.hid (T2.out.stay hk)
    have R3 := Lib.hid (R2.out.stay hk)
    have CS3 := Lib.hid (fun j (hj : j < n) => (hk.cell (p := ⟨gS, j, none⟩) lS2.out (by simp)).trans (CS2.out j hj))
    have lS3 := Lib.hid (Nat.lt_of_lt_of_le lS2.out hk.size)
    have CT3 := Lib.hid (fun j (hj : j < n) => (hk.cell (p := ⟨gT, j, none⟩) lT2.out (by simp)).trans (CT2.out j hj))
    have lT3 := Lib.hid (Nat.lt_of_lt_of_le lT2.out hk.size)
    have CR3 := Lib.hid (fun j (hj : j < n) => (hk.cell (p := ⟨gR, j, none⟩) lR2.out (by simp)).trans (CR2.out j hj))
    have lR3 := Lib.hid (Nat.lt_of_lt_of_le lR2.out hk.size)
    have HK3 := Lib.hid (HK2.out.trans hk (by simp))
    clear S2 T2 R2 CS2 lS2 CT2 lT2 CR2 lR2 HK2
    clear hs hk
    go_wp2_with fail
    refine (sameInts_any _ _ _ _ _ _ _ R3.out Y3.out).mono ?_
    rintro e w4 ⟨rfl, hq⟩
    rw [dec_of rfl]
    have hk := hq.kept
    have S4 := Lib.hid (S3.out.stay hk)
    have T4 := Lib.hid (T3.out.stay hk)
    have R4 := Lib.hid (R3.out.stay hk)
    have Y4 := Lib.hid (Y3.out.stay hk)
    have CS4 := Lib.hid (fun j (hj : j < n) => (hk.cell (p := ⟨gS, j, none⟩) lS3.out (by simp)).trans (CS3.out j hj))
    have lS4 := Lib.hid (Nat.lt_of_lt_of_le lS3.out hk.size)
    have CT4 := Lib.hid (fun j (hj : j < n) => (hk.cell (p := ⟨gT, j, none⟩) lT3.out (by simp)).trans (CT3.out j hj))
    have lT4 := Lib.hid (Nat.lt_of_lt_of_le lT3.out hk.size)
    have CR4 := Lib.hid (fun j (hj : j < n) => (hk.cell (p := ⟨gR, j, none⟩) lR3.out (by simp)).trans (CR3.out j hj))
    have lR4 := Lib.hid (Nat.lt_of_lt_of_le lR3.out hk.size)
    have HK4 := Lib.hid (HK3.out.trans hk (by simp))
    clear S3 T3 R3 Y3 CS3 lS3 CT3 lT3 CR3 lR3 HK3
    clear hk hq
    clear Y4
    go_wp2_with fail
    refine (iTurnedRow_any _ _ _ _ _ _ _ _ S4.out T4.out).mono ?_
    rintro e w5 ⟨u5, rfl, hs, hk⟩
    rw [HTU.out] at hs
    have U5 := Lib.hid hs
    obtain ⟨gU, capU, rfl, hgU, hcU⟩ := hs.row HRL.out hp
    have CU5 := Lib.hid hcU
    have lU5 := Lib.hid hgU
    clear hgU hcU
    have S5 := Lib.hid (S4.out.stay hk)
    have T5 := Lib.hid (T4.out.stay hk)
    have R5 := Lib.hid (R4.out.stay hk)
    have CS5 := Lib.hid (fun j (hj : j < n) => (hk.cell (p := ⟨gS, j, none⟩) lS4.out (by simp)).trans (CS4.out j hj))
    have lS5 := Lib.hid (Nat.lt_of_lt_of_le lS4.out hk.size)
    have CT5 := Lib.hid (fun j (hj : j < n) => (hk.cell (p := ⟨gT, j, none⟩) lT4.out (by simp)).trans (CT4.out j hj))
    have lT5 := Lib.hid (Nat.lt_of_lt_of_le lT4.out hk.size)
    have CR5 := Lib.hid (fun j (hj : j < n) => (hk.cell (p := ⟨gR, j, none⟩) lR4.out (by simp)).trans (CR4.out j hj))
    have lR5 := Lib.hid (Nat.lt_of_lt_of_le lR4.out hk.size)
    have HK5 := Lib.hid (HK4.out.trans hk (by simp))
    clear S4 T4 R4 CS4 lS4 CT4 lT4 CR4 lR4 HK4
    clear hs hk
    go_wp2_with fail
    refine (iParts_any _ _ _ _ S5.out).mono ?_
    rintro e w6 ⟨u6, rfl, hs, hk⟩
    rw [HPO.out] at hs
    have P6 := Lib.hid hs
    obtain ⟨gP, capP, rfl, hgP, hcP⟩ := hs.row HPL.out hp
    have CP6 := Lib.hid hcP
    have lP6 := Lib.hid hgP
    clear hgP hcP
    have S6 := Lib.hid (S5.out.stay hk)
    have T6 := Lib.hid (T5.out.stay hk)
    have R6 := Lib.hid (R5.out.stay hk)
    have U6 := Lib.hid (U5.out.stay hk)
    have CS6 := Lib.hid (fun j (hj : j < n) => (hk.cell (p := ⟨gS, j, none⟩) lS5.out (by simp)).trans (CS5.out j hj))
    have lS6 := Lib.hid (Nat.lt_of_lt_of_le lS5.out hk.size)
    have CT6 := Lib.hid (fun j (hj : j < n) => (hk.cell (p := ⟨gT, j, none⟩) lT5.out (by simp)).trans (CT5.out j hj))
    have lT6 := Lib.hid (Nat.lt_of_lt_of_le lT5.out hk.size)
    have CR6 := Lib.hid (fun j (hj : j < n) => (hk.cell (p := ⟨gR, j, none⟩) lR5.out (by simp)).trans (CR5.out j hj))
    have lR6 := Lib.hid (Nat.lt_of_lt_of_le lR5.out hk.size)
    have CU6 := Lib.hid (fun j (hj : j < n) => (hk.cell (p := ⟨gU, j, none⟩) lU5.out (by simp)).trans (CU5.out j hj))
    have lU6 := Lib.hid (Nat.lt_of_lt_of_le lU5.out hk.size)
    have HK6 := Lib.hid (HK5.out.trans hk (by simp))
    clear S5 T5 R5 U5 CS5 lS5 CT5 lT5 CR5 lR5 CU5 lU5 HK5
    clear hs hk
    have hnn : ((n : Int) == (n : Int)) = true := by simp
    go_wp2_with fail
    go_loopw [11] (fun i wr => ∃ k : Nat, k ≤ n ∧ i = .int .i64 k ∧ Qt w6 wr) (fun i _ => n - (intOf i).toNat)
    case atStart => exact ⟨0, Nat.zero_le _, rfl, Qt.refl _⟩
    case round =>
      obtain ⟨k, hk, rfl, hq⟩ := hrel
      have HQ := Lib.hid hq
      by_cases hlt : k < n
      · have HU00 := Lib.hid (HU0.out k)
        clear hq
        go_wp2_with fail
        go_loopw [12, 13] (fun b i wx => ∃ j : Nat, j ≤ n ∧ i = .int .i64 j ∧ b = .bool (Nt.upTo ns hg k j) ∧ Qt w6 wx) (fun _ i _ => n - (intOf i).toNat)
        case atStart => exact ⟨0, Nat.zero_le _, rfl, by rw [HU00.out], HQ.out⟩
        case round =>
          clear HQ
          obtain ⟨j, hj, rfl, rfl, hq⟩ := hrel
          have HQ := Lib.hid hq
          by_cases hlj : j < n
          · have kR := (hq.cell _).trans (CR6.out k hlt)
            have jR := (hq.cell _).trans (CR6.out j hlj)
            have kS := (hq.cell _).trans (CS6.out k hlt)
            have b1 := HSM.out k hlt
            have b2 := HSM.out j hlj
            have HRK := Lib.hid (HRI.out k j hlt hlj)
            have HUK := Lib.hid (HUS.out k j)
            have HTW := Lib.hid (hq.sl T6.out)
            clear hq
            generalize Nt.upTo ns hg k j = q at *
            generalize hg.getD k 0 = x at *
            generalize hg.getD j 0 = y at *
            generalize ns.getD k 0 = b at *
            have p1 := shr_nonneg b j
            cases hbit : b.testBit j
            · have e1 : (b : Int) / 2 ^ j % 2 = 0 := by rw [shr_bit, hbit]; rfl
              have HV : Hid (Nt.upTo ns hg k (j + 1) = q) := Lib.hid (by rw [HUK.out, hbit]; simp)
              clear hbit HUK HRK
              go_wp2
              go_roundw
              case rel => exact ⟨j + 1, by omega, by go_num, by rw [HV.out], HQ.out⟩
              case measure => simp [intOf]; omega
            · have e1 : (b : Int) / 2 ^ j % 2 = 1 := by rw [shr_bit, hbit]; rfl
              have hri := HRK.out hbit
              have HV : Hid (Nt.upTo ns hg k (j + 1) = (q || decide (x < y))) := Lib.hid (by rw [HUK.out, hbit, Bool.true_and])
              have HRS := Lib.hid (fun d => iRiseOf_any (Nt.nats ks) (k : Int) (j : Int) (wr.drewN d) _ _ (((Qt.refl wr).draw d).sl HTW.out))
              generalize Nt.riseOf (Nt.nats ks) (k : Int) (j : Int) = r at *
              have s1 : IntKind.i64.wrap (y - x) = y - x := IntWalk.i64_in _ (by omega)
              have d1 : (y - x != r) = false := by simp [hri]
              clear hbit HUK HRK hri
              go_wp2_with fail
              go_quiet ((go_at_call 24; exact quietQ (HRS.out _)))
              have HQ2 := Lib.hid (HQ.out.draw nq)
              have kR2 : (wr.drewN nq).cell? ⟨gR, k, none⟩ = some (.int .i64 x) := kR
              have jR2 : (wr.drewN nq).cell? ⟨gR, j, none⟩ = some (.int .i64 y) := jR
              clear kR jR kS HRS HTW HQ d1 s1 e1 p1
              generalize wr.drewN nq = w9 at *
              cases q
              · go_wp2_with fail
                go_quiet (fail)
                go_wp2
                go_roundw
                case rel => exact ⟨j + 1, by omega, by go_num, by rw [HV.out, Bool.false_or], HQ2.out.draw _⟩
                case measure => simp [intOf]; omega
              · go_wp2_with fail
                go_quiet (fail)
                go_wp2
                go_roundw
                case rel => exact ⟨j + 1, by omega, by go_num, by rw [HV.out, Bool.true_or], HQ2.out.draw _⟩
                case measure => simp [intOf]; omega
          · have hj' : j = n := by omega
            subst hj'
            have kR := (hq.cell _).trans (CR6.out k hlt)
            have kU := (hq.cell _).trans (CU6.out k hlt)
            have kP := (hq.cell _).trans (CP6.out k hlt)
            have hup := HUP.out k hlt
            have hro := HRO.out k hlt
            clear hq
            generalize hg.getD k 0 = x at *
            generalize (Nt.turnedL ns ks 1).getD k 0 = r at *
            generalize (Nt.parts ns).getD k 0 = p at *
            generalize Nt.upTo ns hg k j = q at *
            by_cases hpk : p = k
            · have hx0 := hro hpk
              subst hx0 hpk
              have d2 : ((p : Int) == (p : Int)) = true := by simp
              clear hro
              cases q
              · have hr0 : r = 0 := by rw [hup]; rfl
                subst hr0
                clear hup
                go_wp2
                go_roundw
                case rel => exact ⟨p + 1, by omega, by go_num, HQ.out⟩
                case measure => simp [intOf]; omega
              · have hr0 : r = 1 := by rw [hup]; rfl
                subst hr0
                clear hup
                go_wp2
                go_roundw
                case rel => exact ⟨p + 1, by omega, by go_num, HQ.out⟩
                case measure => simp [intOf]; omega
            · have d2 : ((p : Int) == (k : Int)) = false := beq_eq_false_iff_ne.2 (by omega)
              clear hro hpk
              cases q
              · have hr0 : r = 0 := by rw [hup]; rfl
                subst hr0
                clear hup
                go_wp2
                go_roundw
                case rel => exact ⟨k + 1, by omega, by go_num, HQ.out⟩
                case measure => simp [intOf]; omega
              · have hr0 : r = 1 := by rw [hup]; rfl
                subst hr0
                clear hup
                go_wp2
                go_roundw
                case rel => exact ⟨k + 1, by omega, by go_num, HQ.out⟩
                case measure => simp [intOf]; omega
      · have hk' : k = n := by omega
        subst hk'
        have hk := hq.kept
        clear hlt HQ
        obtain ⟨w8, hw8⟩ : ∃ w8, w8 = wr := ⟨_, rfl⟩
        subst hw8
        have S38 := Lib.hid (S6.out.stay hk)
        have T38 := Lib.hid (T6.out.stay hk)
        have R38 := Lib.hid (R6.out.stay hk)
        have U38 := Lib.hid (U6.out.stay hk)
        have P38 := Lib.hid (P6.out.stay hk)
        have HK38 := Lib.hid (HK6.out.trans hk (by simp))
        clear S6 T6 R6 U6 P6 HK6
        clear hk hq
        go_wp2_with fail
        refine (iFlat_any _ _ _ _ _ _ _ S38.out T38.out).mono ?_
        rintro e w39 ⟨rfl, hk⟩
        rw [HB.out]
        have S39 := Lib.hid (S38.out.stay hk)
        have T39 := Lib.hid (T38.out.stay hk)
        have R39 := Lib.hid (R38.out.stay hk)
        have U39 := Lib.hid (U38.out.stay hk)
        have P39 := Lib.hid (P38.out.stay hk)
        have HK39 := Lib.hid (HK38.out.trans hk (by simp))
        clear S38 T38 R38 U38 P38 HK38
        clear hk
        go_wp2
        go_ret
        exact ⟨rfl, HK39.out⟩
end Go.Proofs.Ytjpnepjpkgffpaa
