/-
  The law FrontCount, walked.
-/
import Derived.Test.YtdpkacpeednnoaaD23
import Derived.Test.YtdpkacpeednnoaaL1
import Derived.Test.YtdpkacpeednnoaaYP
import Derived.Test.YtdpkacpeednnoaaYM
import Derived.Test.YtdpkacpeednnoaaPureRV
import Derived.Test.YtdpkacpeednnoaaKA
namespace Go.Proofs.Ytdpkacpeednnoaa
open Go.RowKit

set_option maxHeartbeats 4000000 in
set_option maxRecDepth 100000 in
theorem FnFrontCount_calls (w : World) (v : Value) (ha : ArgB w v) :
    Calls Try.prog 9 #[v] w fun e w' => e = .returned (.bool true) ∧ Kept [] w w' := by
  have HA := Lib.hid ha
  obtain ⟨a, len, cap, rfl, hlc, hcm, _⟩ := ha
  by_cases hbig : 1048576 < len
  · have hb : (1048576 : Int) < (len : Int) := by omega
    clear hbig
    go_enter Try.func9, Try.ntmps9
    go_wp2
    go_ret
    exact ⟨rfl, Kept.refl _ _⟩
  have hb : ¬ (1048576 : Int) < (len : Int) := by omega
  clear hbig
  go_enter Try.func9, Try.ntmps9
  go_wp2_with fail
  refine (drawFrontCount_any _ _ HA.out).mono ?_
  rintro e w1 ⟨u, xs, x0, rfl, hs, hl, hk⟩
  have S1 := Lib.hid hs
  have HK := Lib.hid hk
  clear hk hb
  cases h1 : Nt.frB xs
  · have HB := Lib.hid h1
    have HF := Lib.hid (Nt.fcOf_no1 (s := x0) h1)
    clear h1
    obtain ⟨bS, capS, rfl, _, _, _⟩ := hs.any
    clear hs hl
    go_wp2_with fail
    refine (iFCount_any _ _ _ _ _ S1.out).mono ?_
    rintro e w2 ⟨rfl, hk⟩
    rw [HF.out]
    have S2 := Lib.hid (S1.out.stay hk)
    have HK2 := Lib.hid (HK.out.trans hk (by simp))
    clear S1 HK
    clear hk
    go_wp2_with fail
    refine (sFCount_any _ _ _ _ _ S2.out).mono ?_
    rintro e w' ⟨rfl, rfl⟩
    rw [HF.out]
    go_wp2_with fail
    refine (sFrontsOk_any _ _ _ _ S2.out).mono ?_
    rintro e w' ⟨rfl, rfl⟩
    rw [HB.out]
    go_wp2_with fail
    refine (alive_any _).mono ?_
    rintro e w3 ⟨rfl, hk⟩
    have S3 := Lib.hid (S2.out.stay hk)
    have HK3 := Lib.hid (HK2.out.trans hk (by simp))
    clear S2 HK2
    clear hk
    go_wp2
    go_ret
    exact ⟨rfl, HK3.out⟩
  · have HB := Lib.hid h1
    have fr := (Nt.frB_iff xs).1 h1
    obtain ⟨n, hn⟩ : ∃ n, n = xs.length := ⟨_, rfl⟩
    have h3 := fr.lo
    have h6 := fr.hi
    have HXL : Hid (xs.length = n) := Lib.hid hn.symm
    have HF := Lib.hid (Nt.fstepOf_ok fr)
    have HFC := Lib.hid (fun s (hs : s = 1 ∨ s = -1) => Nt.fcOf_ok fr hs)
    have HFD := Lib.hid (fun s (hs : s = 1 ∨ s = -1) => Nt.fcOf_ok (Nt.fstep_fr fr) hs)
    have HFE := Lib.hid (fun s (hs : s = 1 ∨ s = -1) => Nt.fcOf_ok (Nt.moves_fr fr n) hs)
    have HFZ : Hid (Nt.fcOf xs 0 = -1) := Lib.hid (Nt.fcOf_no2 (by omega) (by omega))
    have HMS : Hid (∀ k, Nt.fstepOf (Nt.moves xs k) = Nt.moves xs (k + 1)) := Lib.hid (fun k => Nt.fstepOf_ok (Nt.moves_fr fr k))
    have hst := Nt.step_cnt fr
    have hmc := Nt.moves_cnt fr n
    have hem := Nt.end_min fr
    rw [← hn] at hem
    have l1 := Nt.cntI_le xs 1
    have l2 := Nt.cntI_le xs (-1)
    have l3 := Nt.cntI_le (Nt.fstep xs) 1
    have l4 := Nt.cntI_le (Nt.fstep xs) (-1)
    have l5 := Nt.cntI_le (Nt.moves xs n) 1
    have l6 := Nt.cntI_le (Nt.moves xs n) (-1)
    rw [Nt.fstep_length] at l3 l4
    rw [Nt.moves_length] at l5 l6
    rw [← hn] at l1 l2 l3 l4 l5 l6 h3 h6
    have hp : 0 < n := by omega
    obtain ⟨gS, capS, rfl, _, _⟩ := hs.shape hn.symm hp
    have HFC1 := Lib.hid (HFC.out 1 (.inl rfl))
    have HFC2 := Lib.hid (HFC.out (-1) (.inr rfl))
    have HFD1 := Lib.hid (HFD.out 1 (.inl rfl))
    have HFD2 := Lib.hid (HFD.out (-1) (.inr rfl))
    have HFE1 := Lib.hid (HFE.out 1 (.inl rfl))
    have HFE2 := Lib.hid (HFE.out (-1) (.inr rfl))
    clear hs fr hn h1 hl HFC HFD HFE
    generalize Nt.fstep xs = ys at *
    generalize hN : Nt.fcOf xs x0 = N at *
    have HN := Lib.hid hN
    have d1 : (N != N) = false := by simp
    generalize Nt.cntI xs 1 = c1 at *
    generalize Nt.cntI xs (-1) = c2 at *
    generalize Nt.cntI ys 1 = c3 at *
    generalize Nt.cntI ys (-1) = c4 at *
    generalize Nt.cntI (Nt.moves xs n) 1 = c5 at *
    generalize Nt.cntI (Nt.moves xs n) (-1) = c6 at *
    obtain ⟨t1, t2, t3⟩ := hst
    have s1 : IntKind.i64.wrap ((c1 : Int) - (c2 : Int)) = (c1 : Int) - (c2 : Int) := IntWalk.i64_in _ (by omega)
    have s2 : IntKind.i64.wrap ((c3 : Int) - (c4 : Int)) = (c3 : Int) - (c4 : Int) := IntWalk.i64_in _ (by omega)
    have s3 : IntKind.i64.wrap ((c5 : Int) - (c6 : Int)) = (c5 : Int) - (c6 : Int) := IntWalk.i64_in _ (by omega)
    have d2 : ((c1 : Int) - (c2 : Int) != (c3 : Int) - (c4 : Int)) = false := by simp [t1]
    have d3 : decide ((c1 : Int) < (c3 : Int)) = false := decide_eq_false (by omega)
    have d4 : decide ((c2 : Int) < (c4 : Int)) = false := decide_eq_false (by omega)
    have d3' : decide (c1 < c3) = false := decide_eq_false (by omega)
    have d4' : decide (c2 < c4) = false := decide_eq_false (by omega)
    have d5 : ((c5 : Int) - (c6 : Int) == (c1 : Int) - (c2 : Int)) = true := by simp [hmc]
    have HEM : Hid (c5 = 0 ∨ c6 = 0) := Lib.hid hem
    have HMC := Lib.hid hmc
    clear hN t1 t2 t3 hmc hem
    go_wp2_with fail
    refine (iFCount_any _ _ _ _ _ S1.out).mono ?_
    rintro e w2 ⟨rfl, hk⟩
    rw [HN.out]
    have S2 := Lib.hid (S1.out.stay hk)
    have HK2 := Lib.hid (HK.out.trans hk (by simp))
    clear S1 HK
    clear hk
    go_wp2_with fail
    refine (sFCount_any _ _ _ _ _ S2.out).mono ?_
    rintro e w' ⟨rfl, rfl⟩
    rw [HN.out]
    go_wp2_with fail
    refine (sFrontsOk_any _ _ _ _ S2.out).mono ?_
    rintro e w' ⟨rfl, rfl⟩
    rw [HB.out]
    go_wp2_with fail
    refine (iFrontStep_any _ _ _ _ S2.out).mono ?_
    rintro e w3 ⟨u3, rfl, hs, hk⟩
    rw [HF.out] at hs
    have Y3 := Lib.hid hs
    obtain ⟨bY, capY, rfl, _, _, _⟩ := hs.any
    have S3 := Lib.hid (S2.out.stay hk)
    have HK3 := Lib.hid (HK2.out.trans hk (by simp))
    clear S2 HK2
    clear hs hk
    go_wp2_with fail
    refine (iFCount_any _ _ _ _ _ S3.out).mono ?_
    rintro e w4 ⟨rfl, hk⟩
    rw [HFC1.out]
    have S4 := Lib.hid (S3.out.stay hk)
    have Y4 := Lib.hid (Y3.out.stay hk)
    have HK4 := Lib.hid (HK3.out.trans hk (by simp))
    clear S3 Y3 HK3
    clear hk
    go_wp2_with fail
    refine (iFCount_any _ _ _ _ _ S4.out).mono ?_
    rintro e w5 ⟨rfl, hk⟩
    rw [HFC2.out]
    have S5 := Lib.hid (S4.out.stay hk)
    have Y5 := Lib.hid (Y4.out.stay hk)
    have HK5 := Lib.hid (HK4.out.trans hk (by simp))
    clear S4 Y4 HK4
    clear hk
    go_wp2_with fail
    refine (iFCount_any _ _ _ _ _ Y5.out).mono ?_
    rintro e w6 ⟨rfl, hk⟩
    rw [HFD1.out]
    have S6 := Lib.hid (S5.out.stay hk)
    have Y6 := Lib.hid (Y5.out.stay hk)
    have HK6 := Lib.hid (HK5.out.trans hk (by simp))
    clear S5 Y5 HK5
    clear hk
    go_wp2_with fail
    refine (iFCount_any _ _ _ _ _ Y6.out).mono ?_
    rintro e w7 ⟨rfl, hk⟩
    rw [HFD2.out]
    have S7 := Lib.hid (S6.out.stay hk)
    have Y7 := Lib.hid (Y6.out.stay hk)
    have HK7 := Lib.hid (HK6.out.trans hk (by simp))
    clear S6 Y6 HK6
    clear hk
    go_wp2_with fail
    refine (iFCount_any _ _ _ _ _ Y7.out).mono ?_
    rintro e w8 ⟨rfl, hk⟩
    rw [HFD1.out]
    have S8 := Lib.hid (S7.out.stay hk)
    have Y8 := Lib.hid (Y7.out.stay hk)
    have HK8 := Lib.hid (HK7.out.trans hk (by simp))
    clear S7 Y7 HK7
    clear hk
    go_wp2_with fail
    refine (iFCount_any _ _ _ _ _ Y8.out).mono ?_
    rintro e w9 ⟨rfl, hk⟩
    rw [HFD2.out]
    have S9 := Lib.hid (S8.out.stay hk)
    have Y9 := Lib.hid (Y8.out.stay hk)
    have HK9 := Lib.hid (HK8.out.trans hk (by simp))
    clear S8 Y8 HK8
    clear hk
    clear Y9
    have HEc := Lib.hid (Sl.empty3 w9)
    have hkc : Kept [] w9 (w9.alloc (.cells #[] 3)) := (Kept.refl _ _).alloc _
    have HSc := Lib.hid (S9.out.stay hkc)
    have HKc := Lib.hid hkc
    clear hkc
    go_wp2_with (at_builtin; refine app_sl rfl _ _ rfl w9.heap.size _ [] HEc.out rfl _ _ xs HSc.out (by rw [HXL.out]; exact hp) rfl (by rw [HXL.out]; simp; omega) (by simp) ?_; intro z w10 hs2 hk2; have HM0 := Lib.hid hs2; have HK0 := Lib.hid (HKc.out.own hk2 (fun g' hg' => by simp [Value.ownBlock] at hg'; omega)); clear hs2 hk2)
    rw [List.nil_append] at HM0
    have HKX := Lib.hid HK0.out.size
    have hk := HK0.out
    have S10 := Lib.hid (S9.out.stay hk)
    have HK10 := Lib.hid (HK9.out.trans hk (by simp))
    clear S9 HK9
    clear hk HK0 HKc HSc HEc
    have HBWw10 : Hid (w9.heap.size ≤ w10.heap.size) := Lib.hid HKX.out
    have HM1 : Hid (Sl w10 w9.heap.size z (Nt.moves xs 0)) := HM0
    clear HM0
    go_loopw [9, 10] (fun u i wr => ∃ k : Nat, k ≤ n ∧ i = .int .i64 k ∧ Sl wr w9.heap.size u (Nt.moves xs k) ∧ Kept [] w10 wr) (fun _ i _ => n - (intOf i).toNat)
    case atStart => exact ⟨0, Nat.zero_le _, rfl, HM1.out, Kept.refl _ _⟩
    case round =>
      clear HM1
      obtain ⟨k, hk, rfl, hsl, hkept⟩ := hrel
      have HSL := Lib.hid hsl
      have HK9 := Lib.hid hkept
      clear hsl hkept
      by_cases hlt : k < n
      · have HMV := Lib.hid (HMS.out k)
        have hbase := Nat.le_trans HBWw10.out HK9.out.size
        go_wp2_with fail
        refine (iFrontStep_any _ _ _ _ HSL.out).mono ?_
        rintro e w9 ⟨u9, rfl, hs9, hk9⟩
        rw [HMV.out] at hs9
        have HS9 := Lib.hid (hs9.mono hbase)
        have HK10 := Lib.hid (HK9.out.trans hk9 (by simp))
        clear hs9 hk9
        go_wp2_with fail
        go_roundw
        case rel => exact ⟨k + 1, by omega, by go_num, HS9.out, HK10.out⟩
        case measure => simp [intOf]; omega
      · have hk' : k = n := by omega
        subst hk'
        have hk := HK9.out
        have HMI := Lib.hid HSL.out
        clear hlt HSL HK9
        obtain ⟨w18, hw8⟩ : ∃ w18, w18 = wr := ⟨_, rfl⟩
        subst hw8
        have S18 := Lib.hid (S10.out.stay hk)
        have HK18 := Lib.hid (HK10.out.trans hk (by simp))
        clear S10 HK10
        clear hk
        go_wp2_with fail
        refine (iFCount_any _ _ _ _ _ HMI.out).mono ?_
        rintro e w19 ⟨rfl, hk⟩
        rw [HFE1.out]
        have S19 := Lib.hid (S18.out.stay hk)
        have M19 := Lib.hid (HMI.out.stay hk)
        have HK19 := Lib.hid (HK18.out.trans hk (by simp))
        clear S18 HMI HK18
        clear hk
        go_wp2_with fail
        refine (iFCount_any _ _ _ _ _ M19.out).mono ?_
        rintro e w20 ⟨rfl, hk⟩
        rw [HFE2.out]
        have S20 := Lib.hid (S19.out.stay hk)
        have M20 := Lib.hid (M19.out.stay hk)
        have HK20 := Lib.hid (HK19.out.trans hk (by simp))
        clear S19 M19 HK19
        clear hk
        clear M20
        have hem := HEM.out
        clear HEM s3 d5
        rcases hem with hz | hz
        · have e5 : -(c6 : Int) = (c1 : Int) - (c2 : Int) := by have h := HMC.out; omega
          have d5 : (-(c6 : Int) == (c1 : Int) - (c2 : Int)) = true := by rw [e5]; simp
          have s3 : IntKind.i64.wrap (-(c6 : Int)) = -(c6 : Int) := IntWalk.i64_in _ (by omega)
          have HE5 := Lib.hid e5
          clear HMC e5
          subst hz
          go_wp2_with fail
          all_goals first
            | (exfalso; have h5 := HE5.out; omega)
            | skip
          all_goals first
            | (go_ret; exact ⟨by first | rfl | simp, HK20.out⟩)
            | (refine (iFCount_any _ _ _ _ _ S20.out).mono ?_; rintro e w60 ⟨rfl, hk⟩; rw [HFZ.out]; have HK60 := Lib.hid (HK20.out.trans hk (by simp)); clear hk; go_wp2; go_ret; exact ⟨by first | rfl | simp, HK60.out⟩)
        · have e5 : (c5 : Int) = (c1 : Int) - (c2 : Int) := by have h := HMC.out; omega
          have d5 : ((c5 : Int) == (c1 : Int) - (c2 : Int)) = true := by rw [e5]; simp
          have s3 : IntKind.i64.wrap (c5 : Int) = (c5 : Int) := IntWalk.i64_in _ (by omega)
          have HE5 := Lib.hid e5
          clear HMC e5
          subst hz
          go_wp2_with fail
          all_goals first
            | (exfalso; have h5 := HE5.out; omega)
            | skip
          all_goals first
            | (go_ret; exact ⟨by first | rfl | simp, HK20.out⟩)
            | (refine (iFCount_any _ _ _ _ _ S20.out).mono ?_; rintro e w60 ⟨rfl, hk⟩; rw [HFZ.out]; have HK60 := Lib.hid (HK20.out.trans hk (by simp)); clear hk; go_wp2; go_ret; exact ⟨by first | rfl | simp, HK60.out⟩)
end Go.Proofs.Ytdpkacpeednnoaa
