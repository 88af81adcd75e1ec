/-
  The law FrontStep, walked.
-/
import Derived.Test.YtdpkacpeednnoaaD23
import Derived.Test.YtdpkacpeednnoaaL1
import Derived.Test.YtdpkacpeednnoaaYP
import Derived.Test.YtdpkacpeednnoaaYM
import Derived.Test.YtdpkacpeednnoaaPureRV
import Derived.Test.YtdpkacpeednnoaaNB
import Derived.Test.YtdpkacpeednnoaaTI
namespace Go.Proofs.Ytdpkacpeednnoaa
open Go.RowKit

set_option maxHeartbeats 4000000 in
set_option maxRecDepth 100000 in
theorem FnFrontStep_calls (w : World) (v : Value) (ha : ArgB w v) :
    Calls Try.prog 5 #[v] w fun e w' => e = .returned (.bool true) ∧ Kept [] w w' := by
  have HA := Lib.hid ha
  obtain ⟨a, len, cap, rfl, hlc, hcm, _⟩ := ha
  by_cases hbig : 1048576 < len
  · have hb : (1048576 : Int) < (len : Int) := by omega
    clear hbig
    go_enter Try.func5, Try.ntmps5
    go_wp2
    go_ret
    exact ⟨rfl, Kept.refl _ _⟩
  have hb : ¬ (1048576 : Int) < (len : Int) := by omega
  clear hbig
  go_enter Try.func5, Try.ntmps5
  go_wp2_with fail
  refine (drawFrontStep_any _ _ HA.out).mono ?_
  rintro e w1 ⟨u, xs, rfl, hs, hl, hk⟩
  have S1 := Lib.hid hs
  have HK := Lib.hid hk
  clear hk hb
  cases h1 : Nt.frB xs
  · have HB := Lib.hid h1
    have HF := Lib.hid (Nt.fstepOf_no h1)
    clear h1
    obtain ⟨bS, capS, rfl, _, _, _⟩ := hs.any
    clear hs hl
    go_wp2_with fail
    refine (iFrontStep_any _ _ _ _ S1.out).mono ?_
    rintro e w2 ⟨u2, rfl, hs, hk⟩
    rw [HF.out] at hs
    have R2 := Lib.hid hs
    obtain ⟨bR, capR, rfl, _, _, _⟩ := hs.any
    have S2 := Lib.hid (S1.out.stay hk)
    have HK2 := Lib.hid (HK.out.trans hk (by simp))
    clear S1 HK
    clear hs hk
    go_wp2_with fail
    refine (sFrontStep_any _ _ _ _ S2.out).mono ?_
    rintro e w3 ⟨u3, rfl, hs, hk⟩
    rw [HF.out] at hs
    have Y3 := Lib.hid hs
    obtain ⟨bY, capY, rfl, _, _, _⟩ := hs.any
    have S3 := Lib.hid (S2.out.stay hk)
    have R3 := Lib.hid (R2.out.stay hk)
    have HK3 := Lib.hid (HK2.out.trans hk (by simp))
    clear S2 R2 HK2
    clear hs hk
    go_wp2_with fail
    refine (sameInts_any _ _ _ _ _ _ _ R3.out Y3.out).mono ?_
    rintro e w4 ⟨rfl, hq⟩
    rw [dec_of rfl]
    have hk := hq.kept
    have S4 := Lib.hid (S3.out.stay hk)
    have R4 := Lib.hid (R3.out.stay hk)
    have Y4 := Lib.hid (Y3.out.stay hk)
    have HK4 := Lib.hid (HK3.out.trans hk (by simp))
    clear S3 R3 Y3 HK3
    clear hk hq
    clear Y4
    go_wp2_with fail
    refine (iFrontsOk_any _ _ _ _ S4.out).mono ?_
    rintro e w5 ⟨rfl, hk⟩
    rw [HB.out]
    have S5 := Lib.hid (S4.out.stay hk)
    have R5 := Lib.hid (R4.out.stay hk)
    have HK5 := Lib.hid (HK4.out.trans hk (by simp))
    clear S4 R4 HK4
    clear hk
    go_wp2_with fail
    refine (alive_any _).mono ?_
    rintro e w6 ⟨rfl, hk⟩
    have S6 := Lib.hid (S5.out.stay hk)
    have R6 := Lib.hid (R5.out.stay hk)
    have HK6 := Lib.hid (HK5.out.trans hk (by simp))
    clear S5 R5 HK5
    clear hk
    go_wp2
    go_ret
    exact ⟨rfl, HK6.out⟩
  · have fr := (Nt.frB_iff xs).1 h1
    obtain ⟨n, hn⟩ : ∃ n, n = xs.length := ⟨_, rfl⟩
    have h3 := fr.lo
    have h6 := fr.hi
    have HF := Lib.hid (Nt.fstepOf_ok fr)
    have HFB := Lib.hid (Nt.frB_yes (Nt.fstep_fr fr))
    have HFL : Hid ((Nt.fstep xs).length = n) := Lib.hid (by rw [Nt.fstep_length, hn])
    have HSF := Lib.hid (fun a (ha : a < 3) => Nt.stFrOf_ok (a := a) fr ha)
    have HTF : Hid (∀ a, Nt.frontsOf (Nt.turnOf (Nt.ringOf (n : Int)) (Nt.nats (Nt.stOf a xs))) = Nt.fstep xs) := Lib.hid (fun a => by rw [hn]; exact (Nt.turn_fronts a fr).1)
    have HS1 : Hid (∀ k, k < n → -1 ≤ xs.getD k 0 ∧ xs.getD k 0 ≤ 1) := Lib.hid (fun k hk => fr.sign k (by omega))
    have HS2 : Hid (∀ k, k < n → -1 ≤ (Nt.fstep xs).getD k 0 ∧ (Nt.fstep xs).getD k 0 ≤ 1) := Lib.hid (fun k hk => (Nt.fstep_fr fr).sign k (by rw [Nt.fstep_length]; omega))
    have HB1 : Hid (∀ k, k ≤ n → -(k : Int) ≤ Nt.sumI xs k ∧ Nt.sumI xs k ≤ (k : Int)) := Lib.hid (fun k hk => Nt.sumI_bounds k (fun i hi => fr.sign i (by omega)))
    have HB2 : Hid (∀ k, k ≤ n → -(k : Int) ≤ Nt.sumI (Nt.fstep xs) k ∧ Nt.sumI (Nt.fstep xs) k ≤ (k : Int)) := Lib.hid (fun k hk => Nt.sumI_bounds k (fun i hi => (Nt.fstep_fr fr).sign i (by rw [Nt.fstep_length]; omega)))
    have HQ1 : Hid (∀ k, k ≤ n → 0 ≤ Nt.sqTo xs k ∧ Nt.sqTo xs k ≤ 2 * (k : Int)) := Lib.hid (fun k hk => by
      have h1 := Nt.sqTo_cnt (fs := xs) k (fun i hi => fr.sign i (by omega))
      have h2 := Nt.fcTo_le xs 1 k
      have h3 := Nt.fcTo_le xs (-1) k
      omega)
    have HQ2 : Hid (∀ k, k ≤ n → 0 ≤ Nt.sqTo (Nt.fstep xs) k ∧ Nt.sqTo (Nt.fstep xs) k ≤ 2 * (k : Int)) := Lib.hid (fun k hk => by
      have h1 := Nt.sqTo_cnt (fs := Nt.fstep xs) k (fun i hi => (Nt.fstep_fr fr).sign i (by rw [Nt.fstep_length]; omega))
      have h2 := Nt.fcTo_le (Nt.fstep xs) 1 k
      have h3 := Nt.fcTo_le (Nt.fstep xs) (-1) k
      omega)
    have HE1 : Hid (Nt.sumI (Nt.fstep xs) n - Nt.sumI xs n = 0) := Lib.hid (by rw [hn, Nt.step_sum fr]; omega)
    have HE2 : Hid (Nt.sqTo (Nt.fstep xs) n ≤ Nt.sqTo xs n) := Lib.hid (by rw [hn]; exact Nt.step_sq fr)
    have HN1 : Hid (∀ ys k, Nt.sumI ys (k + 1) = Nt.sumI ys k + ys.getD k 0) := Lib.hid (fun _ _ => rfl)
    have HN2 : Hid (∀ ys k, Nt.sqTo ys (k + 1) = Nt.sqTo ys k + ys.getD k 0 * ys.getD k 0) := Lib.hid (fun _ _ => rfl)
    have hp : 0 < n := by omega
    have h6n : n ≤ 6 := by omega
    have hne0 : ((n : Int) == 0) = false := beq_eq_false_iff_ne.2 (by omega)
    obtain ⟨gS, capS, rfl, _, hgS⟩ := hs.shape hn.symm hp
    have CS1 := Lib.hid (fun j (hj : j < n) => (hs.at j (by rw [← hn]; exact hj)).1)
    have lS1 := Lib.hid hgS
    clear hs fr hn h1 hl hgS h3 h6
    generalize Nt.fstep xs = fs at *
    go_wp2_with fail
    refine (iFrontStep_any _ _ _ _ S1.out).mono ?_
    rintro e w2 ⟨u2, rfl, hs, hk⟩
    rw [HF.out] at hs
    have R2 := Lib.hid hs
    obtain ⟨gR, capR, rfl, _, hgR⟩ := hs.shape HFL.out hp
    have CR2 := Lib.hid (fun j (hj : j < n) => (hs.at j (by rw [HFL.out]; exact hj)).1)
    have lR2 := Lib.hid hgR
    clear hgR
    have S2 := Lib.hid (S1.out.stay hk)
    have CS2 := Lib.hid (fun j (hj : j < n) => (hk.cell (p := ⟨gS, j, none⟩) lS1.out (by simp)).trans (CS1.out j hj))
    have lS2 := Lib.hid (Nat.lt_of_lt_of_le lS1.out hk.size)
    have HK2 := Lib.hid (HK.out.trans hk (by simp))
    clear S1 CS1 lS1 HK
    clear hs hk
    go_wp2_with fail
    refine (sFrontStep_any _ _ _ _ S2.out).mono ?_
    rintro e w3 ⟨u3, rfl, hs, hk⟩
    rw [HF.out] at hs
    have Y3 := Lib.hid hs
    obtain ⟨bY, capY, rfl, _, _, _⟩ := hs.any
    have S3 := Lib.hid (S2.out.stay hk)
    have R3 := Lib.hid (R2.out.stay hk)
    have CS3 := Lib.hid (fun j (hj : j < n) => (hk.cell (p := ⟨gS, j, none⟩) lS2.out (by simp)).trans (CS2.out j hj))
    have lS3 := Lib.hid (Nat.lt_of_lt_of_le lS2.out hk.size)
    have CR3 := Lib.hid (fun j (hj : j < n) => (hk.cell (p := ⟨gR, j, none⟩) lR2.out (by simp)).trans (CR2.out j hj))
    have lR3 := Lib.hid (Nat.lt_of_lt_of_le lR2.out hk.size)
    have HK3 := Lib.hid (HK2.out.trans hk (by simp))
    clear S2 R2 CS2 lS2 CR2 lR2 HK2
    clear hs hk
    go_wp2_with fail
    refine (sameInts_any _ _ _ _ _ _ _ R3.out Y3.out).mono ?_
    rintro e w4 ⟨rfl, hq⟩
    rw [dec_of rfl]
    have hk := hq.kept
    have S4 := Lib.hid (S3.out.stay hk)
    have R4 := Lib.hid (R3.out.stay hk)
    have Y4 := Lib.hid (Y3.out.stay hk)
    have CS4 := Lib.hid (fun j (hj : j < n) => (hk.cell (p := ⟨gS, j, none⟩) lS3.out (by simp)).trans (CS3.out j hj))
    have lS4 := Lib.hid (Nat.lt_of_lt_of_le lS3.out hk.size)
    have CR4 := Lib.hid (fun j (hj : j < n) => (hk.cell (p := ⟨gR, j, none⟩) lR3.out (by simp)).trans (CR3.out j hj))
    have lR4 := Lib.hid (Nat.lt_of_lt_of_le lR3.out hk.size)
    have HK4 := Lib.hid (HK3.out.trans hk (by simp))
    clear S3 R3 Y3 CS3 lS3 CR3 lR3 HK3
    clear hk hq
    clear Y4
    go_wp2_with fail
    go_loopw [5, 6, 7, 8] (fun a b c i wr => ∃ k : Nat, k ≤ n ∧ i = .int .i64 k ∧ a = .int .i64 (Nt.sumI fs k - Nt.sumI xs k) ∧ b = .int .i64 (Nt.sqTo xs k) ∧ c = .int .i64 (Nt.sqTo fs k) ∧ Qt w4 wr) (fun _ _ _ i _ => n - (intOf i).toNat)
    case atStart => exact ⟨0, Nat.zero_le _, rfl, rfl, rfl, rfl, Qt.refl _⟩
    case round =>
      obtain ⟨k, hk, rfl, rfl, rfl, rfl, hq⟩ := hrel
      have HQ := Lib.hid hq
      by_cases hlt : k < n
      · have kS := (hq.cell _).trans (CS4.out k hlt)
        have kR := (hq.cell _).trans (CR4.out k hlt)
        have b1 := HS1.out k hlt
        have b2 := HS2.out k hlt
        have b3 := HB1.out k hk
        have b4 := HB2.out k hk
        have b5 := HQ1.out k hk
        have b6 := HQ2.out k hk
        have HV1 := Lib.hid (HN1.out xs k)
        have HV2 := Lib.hid (HN1.out fs k)
        have HV3 := Lib.hid (HN2.out xs k)
        have HV4 := Lib.hid (HN2.out fs k)
        clear hq
        generalize Nt.sumI xs k = A at *
        generalize Nt.sumI fs k = B at *
        generalize Nt.sqTo xs k = C at *
        generalize Nt.sqTo fs k = D at *
        generalize xs.getD k 0 = x at *
        generalize fs.getD k 0 = y at *
        have q1 := Nt.sq_one b1
        have q2 := Nt.sq_one b2
        obtain ⟨p1, hp1⟩ : ∃ p, p = x * x := ⟨_, rfl⟩
        obtain ⟨p2, hp2⟩ : ∃ p, p = y * y := ⟨_, rfl⟩
        rw [← hp1] at q1 HV3
        rw [← hp2] at q2 HV4
        have m1 : IntKind.i64.wrap (x * x) = p1 := by rw [← hp1]; exact IntWalk.i64_in _ (by omega)
        have m2 : IntKind.i64.wrap (y * y) = p2 := by rw [← hp2]; exact IntWalk.i64_in _ (by omega)
        have s1 : IntKind.i64.wrap (B - A + y) = B - A + y := IntWalk.i64_in _ (by omega)
        have s2 : IntKind.i64.wrap (B - A + y - x) = B - A + y - x := IntWalk.i64_in _ (by omega)
        have s3 : IntKind.i64.wrap (C + p1) = C + p1 := IntWalk.i64_in _ (by omega)
        have s4 : IntKind.i64.wrap (D + p2) = D + p2 := IntWalk.i64_in _ (by omega)
        clear hp1 hp2
        go_wp2_with fail
        go_quiet (fail)
        have HQd := Lib.hid (HQ.out.draw nq)
        have kS2 : (wr.drewN nq).cell? ⟨gS, k, none⟩ = some (.int .i64 x) := kS
        have kR2 : (wr.drewN nq).cell? ⟨gR, k, none⟩ = some (.int .i64 y) := kR
        clear kS kR HQ
        generalize wr.drewN nq = wq at *
        go_wp2_with fail
        go_quiet (fail)
        have HQe := Lib.hid (HQd.out.draw nq)
        have kS3 : (wq.drewN nq).cell? ⟨gS, k, none⟩ = some (.int .i64 x) := kS2
        have kR3 : (wq.drewN nq).cell? ⟨gR, k, none⟩ = some (.int .i64 y) := kR2
        clear kS2 kR2 HQd
        generalize wq.drewN nq = wp at *
        go_wp2_with fail
        go_quiet (fail)
        go_wp2
        go_roundw
        case rel => exact ⟨k + 1, by omega, by go_num, by rw [HV1.out, HV2.out]; congr 1; omega, by rw [HV3.out], by rw [HV4.out], HQe.out.draw _⟩
        case measure => simp [intOf]; omega
      · have hk' : k = n := by omega
        subst hk'
        rw [HE1.out]
        have hle := HE2.out
        generalize Nt.sqTo xs k = C at *
        generalize Nt.sqTo fs k = D at *
        have d7 : decide (D ≤ C) = true := decide_eq_true hle
        have hk := hq.kept
        clear hlt HQ HE1 HE2 HQ1 HQ2
        obtain ⟨w8, hw8⟩ : ∃ w8, w8 = wr := ⟨_, rfl⟩
        subst hw8
        have S28 := Lib.hid (S4.out.stay hk)
        have R28 := Lib.hid (R4.out.stay hk)
        have HK28 := Lib.hid (HK4.out.trans hk (by simp))
        clear S4 R4 HK4
        clear hk hq
        go_wp2_with fail
        go_loopw [9] (fun i wx => ∃ a : Nat, a ≤ 3 ∧ i = .int .i64 a ∧ Kept [] w8 wx) (fun i _ => 3 - (intOf i).toNat)
        case atStart => exact ⟨0, by omega, rfl, Kept.refl _ _⟩
        case round =>
          obtain ⟨a, ha, rfl, hkept⟩ := hrel
          have SI := Lib.hid (S28.out.stay hkept)
          have RI := Lib.hid (R28.out.stay hkept)
          have HKI := Lib.hid hkept
          clear hkept
          by_cases hla : a < 3
          · have HST := Lib.hid (HSF.out a hla)
            have d8 : decide ((a : Int) < 3) = true := decide_eq_true (by omega)
            go_wp2_with fail
            refine (iStFr_any _ _ _ _ _ SI.out).mono ?_
            rintro e w41 ⟨u41, rfl, hs, hk⟩
            rw [HST.out] at hs
            have Z41 := Lib.hid hs
            obtain ⟨bZ, capZ, rfl, _, _, _⟩ := hs.any
            have S41 := Lib.hid (SI.out.stay hk)
            have R41 := Lib.hid (RI.out.stay hk)
            have HK41 := Lib.hid (HKI.out.trans hk (by simp))
            clear SI RI HKI
            clear hs hk
            go_wp2_with fail
            refine (iRing_any _ _).mono ?_
            rintro e w42 ⟨u42, rfl, hs, hk⟩
            have N42 := Lib.hid hs
            obtain ⟨bN, capN, rfl, _, _, _⟩ := hs.any
            have S42 := Lib.hid (S41.out.stay hk)
            have R42 := Lib.hid (R41.out.stay hk)
            have Z42 := Lib.hid (Z41.out.stay hk)
            have HK42 := Lib.hid (HK41.out.trans hk (by simp))
            clear S41 R41 Z41 HK41
            clear hs hk
            go_wp2_with fail
            refine (iTurnStep_any _ _ _ _ _ _ _ N42.out Z42.out).mono ?_
            rintro e w43 ⟨u43, rfl, hs, hk⟩
            have U43 := Lib.hid hs
            obtain ⟨bU, capU, rfl, _, _, _⟩ := hs.any
            have S43 := Lib.hid (S42.out.stay hk)
            have R43 := Lib.hid (R42.out.stay hk)
            have Z43 := Lib.hid (Z42.out.stay hk)
            have N43 := Lib.hid (N42.out.stay hk)
            have HK43 := Lib.hid (HK42.out.trans hk (by simp))
            clear S42 R42 Z42 N42 HK42
            clear hs hk
            go_wp2_with fail
            refine (iFrontRow_any _ _ _ _ U43.out).mono ?_
            rintro e w44 ⟨u44, rfl, hs, hk⟩
            rw [HTF.out] at hs
            have V44 := Lib.hid hs
            obtain ⟨bV, capV, rfl, _, _, _⟩ := hs.any
            have S44 := Lib.hid (S43.out.stay hk)
            have R44 := Lib.hid (R43.out.stay hk)
            have Z44 := Lib.hid (Z43.out.stay hk)
            have N44 := Lib.hid (N43.out.stay hk)
            have U44 := Lib.hid (U43.out.stay hk)
            have HK44 := Lib.hid (HK43.out.trans hk (by simp))
            clear S43 R43 Z43 N43 U43 HK43
            clear hs hk
            go_wp2_with fail
            refine (sameInts_any _ _ _ _ _ _ _ V44.out R44.out).mono ?_
            rintro e w45 ⟨rfl, hq⟩
            rw [dec_of rfl]
            have hk := hq.kept
            have S45 := Lib.hid (S44.out.stay hk)
            have R45 := Lib.hid (R44.out.stay hk)
            have Z45 := Lib.hid (Z44.out.stay hk)
            have N45 := Lib.hid (N44.out.stay hk)
            have U45 := Lib.hid (U44.out.stay hk)
            have V45 := Lib.hid (V44.out.stay hk)
            have HK45 := Lib.hid (HK44.out.trans hk (by simp))
            clear S44 R44 Z44 N44 U44 V44 HK44
            clear hk hq
            go_wp2
            go_roundw
            case rel => exact ⟨a + 1, by omega, by go_num, HK45.out⟩
            case measure => simp [intOf]; omega
          · have ha' : a = 3 := by omega
            subst ha'
            have KE := Lib.hid (HK28.out.trans HKI.out (by simp))
            clear HKI hla
            go_wp2_with fail
            refine (iFrontsOk_any _ _ _ _ RI.out).mono ?_
            rintro e w61 ⟨rfl, hk⟩
            rw [HFB.out]
            have R61 := Lib.hid (RI.out.stay hk)
            have HK61 := Lib.hid (KE.out.trans hk (by simp))
            clear RI KE
            clear hk
            go_wp2
            go_ret
            exact ⟨by first | rfl | simp, HK61.out⟩
end Go.Proofs.Ytdpkacpeednnoaa
