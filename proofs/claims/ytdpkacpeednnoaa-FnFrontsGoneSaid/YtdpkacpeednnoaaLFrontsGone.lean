/-
  The law FrontsGone, walked.
-/
import Derived.Test.YtdpkacpeednnoaaD23
import Derived.Test.YtdpkacpeednnoaaL1
import Derived.Test.YtdpkacpeednnoaaYP
import Derived.Test.YtdpkacpeednnoaaYM
import Derived.Test.YtdpkacpeednnoaaPureRV
import Derived.Test.YtdpkacpeednnoaaKA
namespace Go.Proofs.Ytdpkacpeednnoaa
open Go.RowKit

set_option maxHeartbeats 4000000 in
set_option maxRecDepth 100000 in
theorem FnFrontsGone_calls (w : World) (v : Value) (ha : ArgB w v) :
    Calls Try.prog 10 #[v] w fun e w' => e = .returned (.bool true) ∧ Kept [] w w' := by
  have HA := Lib.hid ha
  obtain ⟨a, len, cap, rfl, hlc, hcm, _⟩ := ha
  by_cases hbig : 1048576 < len
  · have hb : (1048576 : Int) < (len : Int) := by omega
    clear hbig
    go_enter Try.func10, Try.ntmps10
    go_wp2
    go_ret
    exact ⟨rfl, Kept.refl _ _⟩
  have hb : ¬ (1048576 : Int) < (len : Int) := by omega
  clear hbig
  go_enter Try.func10, Try.ntmps10
  go_wp2_with fail
  refine (drawFrontStep_any _ _ HA.out).mono ?_
  rintro e w1 ⟨u, xs, rfl, hs, hl, hk⟩
  have S1 := Lib.hid hs
  have HK := Lib.hid hk
  clear hk hb
  cases h1 : Nt.frB xs
  · have HB := Lib.hid h1
    have HF := Lib.hid (Nt.fstepOf_no h1)
    clear h1
    obtain ⟨bS, capS, rfl, _, _, _⟩ := hs.any
    clear hs hl
    go_wp2_with fail
    refine (sFrontsOk_any _ _ _ _ S1.out).mono ?_
    rintro e w' ⟨rfl, rfl⟩
    rw [HB.out]
    go_wp2_with fail
    refine (iFrontStep_any _ _ _ _ S1.out).mono ?_
    rintro e w2 ⟨u2, rfl, hs, hk⟩
    rw [HF.out] at hs
    have R2 := Lib.hid hs
    obtain ⟨bR, capR, rfl, _, _, _⟩ := hs.any
    have S2 := Lib.hid (S1.out.stay hk)
    have HK2 := Lib.hid (HK.out.trans hk (by simp))
    clear S1 HK
    clear hs hk
    go_wp2_with fail
    refine (alive_any _).mono ?_
    rintro e w3 ⟨rfl, hk⟩
    have S3 := Lib.hid (S2.out.stay hk)
    have R3 := Lib.hid (R2.out.stay hk)
    have HK3 := Lib.hid (HK2.out.trans hk (by simp))
    clear S2 R2 HK2
    clear hk
    go_wp2
    go_ret
    exact ⟨rfl, HK3.out⟩
  · have HB := Lib.hid h1
    have fr := (Nt.frB_iff xs).1 h1
    obtain ⟨n, hn⟩ : ∃ n, n = xs.length := ⟨_, rfl⟩
    have h3 := fr.lo
    have h6 := fr.hi
    have HXL : Hid (xs.length = n) := Lib.hid hn.symm
    have HF := Lib.hid (Nt.fstepOf_ok fr)
    have HFC := Lib.hid (fun s (hs : s = 1 ∨ s = -1) => Nt.fcOf_ok fr hs)
    have HFD := Lib.hid (fun s (hs : s = 1 ∨ s = -1) => Nt.fcOf_ok (Nt.fstep_fr fr) hs)
    have HFE := Lib.hid (fun s (hs : s = 1 ∨ s = -1) => Nt.fcOf_ok (Nt.moves_fr fr n) hs)
    have HFZ : Hid (Nt.fcOf xs 0 = -1) := Lib.hid (Nt.fcOf_no2 (by omega) (by omega))
    have HMS : Hid (∀ k, Nt.fstepOf (Nt.moves xs k) = Nt.moves xs (k + 1)) := Lib.hid (fun k => Nt.fstepOf_ok (Nt.moves_fr fr k))
    have hst := Nt.step_cnt fr
    have hmc := Nt.moves_cnt fr n
    have hem := Nt.end_min fr
    rw [← hn] at hem
    have l1 := Nt.cntI_le xs 1
    have l2 := Nt.cntI_le xs (-1)
    have l3 := Nt.cntI_le (Nt.fstep xs) 1
    have l4 := Nt.cntI_le (Nt.fstep xs) (-1)
    have l5 := Nt.cntI_le (Nt.moves xs n) 1
    have l6 := Nt.cntI_le (Nt.moves xs n) (-1)
    rw [Nt.fstep_length] at l3 l4
    rw [Nt.moves_length] at l5 l6
    rw [← hn] at l1 l2 l3 l4 l5 l6 h3 h6
    have hp : 0 < n := by omega
    obtain ⟨gS, capS, rfl, _, _⟩ := hs.shape hn.symm hp
    have HFC1 := Lib.hid (HFC.out 1 (.inl rfl))
    have HFC2 := Lib.hid (HFC.out (-1) (.inr rfl))
    have HG0 : Hid ((Nt.cntI xs 1 : Int) - Nt.cntI xs (-1) = 0 → ∀ k, k < n → (Nt.moves xs n).getD k 0 = 0) := Lib.hid (fun h k hk => by
      have := Nt.end_none fr h (k := k) (by omega)
      rw [← hn] at this; exact this)
    have HG1 : Hid (0 < (Nt.cntI xs 1 : Int) - Nt.cntI xs (-1) → ∀ k, k < n → (Nt.fstep (Nt.moves xs n)).getD k 0 = (Nt.moves xs n).getD ((k + 1) % n) 0) := Lib.hid (fun h k hk => by
      have := Nt.end_more fr h (k := k) (by omega)
      rw [← hn] at this; exact this)
    have HML : Hid ((Nt.moves xs n).length = n) := Lib.hid (by rw [Nt.moves_length, hn])
    have HFM : Hid (Nt.fstepOf (Nt.moves xs n) = Nt.fstep (Nt.moves xs n)) := Lib.hid (Nt.fstepOf_ok (Nt.moves_fr fr n))
    have HXL2 : Hid ((Nt.fstep (Nt.moves xs n)).length = n) := Lib.hid (by rw [Nt.fstep_length, Nt.moves_length, hn])
    clear hs fr hn h1 hl HFC HFD HFE hst hmc hem l3 l4 l5 l6
    generalize Nt.cntI xs 1 = c1 at *
    generalize Nt.cntI xs (-1) = c2 at *
    obtain ⟨m, hm⟩ : ∃ m : Int, m = (c1 : Int) - (c2 : Int) := ⟨_, rfl⟩
    have s1 : IntKind.i64.wrap ((c1 : Int) - (c2 : Int)) = m := by rw [← hm]; exact IntWalk.i64_in _ (by omega)
    have hnn : ((n : Int) != (n : Int)) = false := by simp
    have hn0 : ¬ n = 0 := by omega
    rw [← hm] at HG0 HG1
    clear hm
    go_wp2_with fail
    refine (sFrontsOk_any _ _ _ _ S1.out).mono ?_
    rintro e w' ⟨rfl, rfl⟩
    rw [HB.out]
    go_wp2_with fail
    refine (iFCount_any _ _ _ _ _ S1.out).mono ?_
    rintro e w2 ⟨rfl, hk⟩
    rw [HFC1.out]
    have S2 := Lib.hid (S1.out.stay hk)
    have HK2 := Lib.hid (HK.out.trans hk (by simp))
    clear S1 HK
    clear hk
    go_wp2_with fail
    refine (iFCount_any _ _ _ _ _ S2.out).mono ?_
    rintro e w3 ⟨rfl, hk⟩
    rw [HFC2.out]
    have S3 := Lib.hid (S2.out.stay hk)
    have HK3 := Lib.hid (HK2.out.trans hk (by simp))
    clear S2 HK2
    clear hk
    have HEc := Lib.hid (Sl.empty3 w3)
    have hkc : Kept [] w3 (w3.alloc (.cells #[] 3)) := (Kept.refl _ _).alloc _
    have HSc := Lib.hid (S3.out.stay hkc)
    have HKc := Lib.hid hkc
    clear hkc
    go_wp2_with (at_builtin; refine app_sl rfl _ _ rfl w3.heap.size _ [] HEc.out rfl _ _ xs HSc.out (by rw [HXL.out]; exact hp) rfl (by rw [HXL.out]; simp; omega) (by simp) ?_; intro z w4 hs2 hk2; have HM0 := Lib.hid hs2; have HK0 := Lib.hid (HKc.out.own hk2 (fun g' hg' => by simp [Value.ownBlock] at hg'; omega)); clear hs2 hk2)
    rw [List.nil_append] at HM0
    have HKX := Lib.hid HK0.out.size
    have hk := HK0.out
    have S4 := Lib.hid (S3.out.stay hk)
    have HK4 := Lib.hid (HK3.out.trans hk (by simp))
    clear S3 HK3
    clear hk HK0 HKc HSc HEc
    have HBWw4 : Hid (w3.heap.size ≤ w4.heap.size) := Lib.hid HKX.out
    have HM1 : Hid (Sl w4 w3.heap.size z (Nt.moves xs 0)) := HM0
    clear HM0
    go_loopw [5, 6] (fun u i wr => ∃ k : Nat, k ≤ n ∧ i = .int .i64 k ∧ Sl wr w3.heap.size u (Nt.moves xs k) ∧ Kept [] w4 wr) (fun _ i _ => n - (intOf i).toNat)
    case atStart => exact ⟨0, Nat.zero_le _, rfl, HM1.out, Kept.refl _ _⟩
    case round =>
      clear HM1
      obtain ⟨k, hk, rfl, hsl, hkept⟩ := hrel
      have HSL := Lib.hid hsl
      have HK9 := Lib.hid hkept
      clear hsl hkept
      by_cases hlt : k < n
      · have HMV := Lib.hid (HMS.out k)
        have hbase := Nat.le_trans HBWw4.out HK9.out.size
        go_wp2_with fail
        refine (iFrontStep_any _ _ _ _ HSL.out).mono ?_
        rintro e w9 ⟨u9, rfl, hs9, hk9⟩
        rw [HMV.out] at hs9
        have HS9 := Lib.hid (hs9.mono hbase)
        have HK10 := Lib.hid (HK9.out.trans hk9 (by simp))
        clear hs9 hk9
        go_wp2_with fail
        go_roundw
        case rel => exact ⟨k + 1, by omega, by go_num, HS9.out, HK10.out⟩
        case measure => simp [intOf]; omega
      · have hk' : k = n := by omega
        subst hk'
        have hk := HK9.out
        have HMI := Lib.hid HSL.out
        clear hlt HSL HK9
        obtain ⟨w18, hw8⟩ : ∃ w18, w18 = wr := ⟨_, rfl⟩
        subst hw8
        have S18 := Lib.hid (S4.out.stay hk)
        have HK18 := Lib.hid (HK4.out.trans hk (by simp))
        clear S4 HK4
        clear hk
        obtain ⟨gM, capM, rfl, _, hgM⟩ := HMI.out.shape HML.out hp
        have CM := Lib.hid (fun j (hj : j < k) => (HMI.out.at j (by rw [HML.out]; exact hj)).1)
        have lM := Lib.hid hgM
        clear hgM
        go_wp2_with fail
        refine (iFrontStep_any _ _ _ _ HMI.out).mono ?_
        rintro e w19 ⟨u19, rfl, hs, hk⟩
        rw [HFM.out] at hs
        have X19 := Lib.hid hs
        obtain ⟨gX, capX, rfl, _, hgX⟩ := hs.shape HXL2.out hp
        have CX19 := Lib.hid (fun j (hj : j < k) => (hs.at j (by rw [HXL2.out]; exact hj)).1)
        have lX19 := Lib.hid hgX
        clear hgX
        have S19 := Lib.hid (S18.out.stay hk)
        have M19 := Lib.hid (HMI.out.stay hk)
        have CM19 := Lib.hid (fun j (hj : j < k) => (hk.cell (p := ⟨gM, j, none⟩) lM.out (by simp)).trans (CM.out j hj))
        have lM19 := Lib.hid (Nat.lt_of_lt_of_le lM.out hk.size)
        have HK19 := Lib.hid (HK18.out.trans hk (by simp))
        clear S18 HMI CM lM HK18
        clear hs hk
        generalize Nt.fstep (Nt.moves xs k) = fs at *
        generalize Nt.moves xs k = ms at *
        rcases Int.lt_trichotomy m 0 with hm | hm | hm
        · have d1 : (m == 0) = false := beq_eq_false_iff_ne.2 (by omega)
          have d2 : decide (0 < m) = false := decide_eq_false (by omega)
          clear hm HG0 HG1
          go_wp2_with fail
          go_loopw [8] (fun i wr => ∃ j : Nat, j ≤ k ∧ i = .int .i64 j ∧ Qt w19 wr) (fun i _ => k - (intOf i).toNat)
          case atStart => exact ⟨0, Nat.zero_le _, rfl, Qt.refl _⟩
          case round =>
            obtain ⟨j, hj, rfl, hq⟩ := hrel
            have HQ := Lib.hid hq
            by_cases hlj : j < k
            · have jM := (hq.cell _).trans (CM19.out j hlj)
              have jX := (hq.cell _).trans (CX19.out j hlj)
              have hq2 := Nat.mod_lt (j + 1) (show 0 < k by omega)
              have qM := (hq.cell _).trans (CM19.out _ hq2)
              have e1 : ((j : Int) + 1).tmod (k : Int) = (((j + 1) % k : Nat) : Int) := mod_int (j + 1) k
              have s2 : IntKind.i64.wrap ((j : Int) + 1) = (j : Int) + 1 := IntWalk.i64_in _ (by omega)
              have hkk : ((k : Int) != (k : Int)) = false := by simp

              clear hq
              generalize (j + 1) % k = q at *
              generalize ms.getD q 0 = y at *
              generalize fs.getD j 0 = x at *
              generalize ms.getD j 0 = v at *
              have d5 : (y != y) = false := by simp
              go_wp2_with fail
              go_quiet (fail)
              go_wp2
              go_roundw
              case rel => exact ⟨j + 1, by omega, by go_num, HQ.out.draw _⟩
              case measure => simp [intOf]; omega
            · have hj' : j = k := by omega
              subst hj'
              clear hlj
              have hk := hq.kept
              have KE := Lib.hid (HK19.out.trans hk (by simp))
              clear hk hq HQ
              go_wp2_with fail
              refine (alive_any _).mono ?_
              rintro e w91 ⟨rfl, hk⟩
              have HK91 := Lib.hid (KE.out.trans hk (by simp))
              clear KE
              clear hk
              go_wp2
              go_ret
              exact ⟨rfl, HK91.out⟩
        · have d1 : (m == 0) = true := by simp [hm]
          have d2 : decide (0 < m) = false := decide_eq_false (by omega)
          have HZ := Lib.hid (HG0.out hm)
          clear hm HG0 HG1
          go_wp2_with fail
          go_loopw [8] (fun i wr => ∃ j : Nat, j ≤ k ∧ i = .int .i64 j ∧ Qt w19 wr) (fun i _ => k - (intOf i).toNat)
          case atStart => exact ⟨0, Nat.zero_le _, rfl, Qt.refl _⟩
          case round =>
            obtain ⟨j, hj, rfl, hq⟩ := hrel
            have HQ := Lib.hid hq
            by_cases hlj : j < k
            · have jM := (hq.cell _).trans (CM19.out j hlj)
              have jX := (hq.cell _).trans (CX19.out j hlj)
              have hq2 := Nat.mod_lt (j + 1) (show 0 < k by omega)
              have qM := (hq.cell _).trans (CM19.out _ hq2)
              have e1 : ((j : Int) + 1).tmod (k : Int) = (((j + 1) % k : Nat) : Int) := mod_int (j + 1) k
              have s2 : IntKind.i64.wrap ((j : Int) + 1) = (j : Int) + 1 := IntWalk.i64_in _ (by omega)
              have hkk : ((k : Int) != (k : Int)) = false := by simp
              have hz := HZ.out j hlj
              rw [hz] at jM
              clear hq
              generalize (j + 1) % k = q at *
              generalize ms.getD q 0 = y at *
              generalize fs.getD j 0 = x at *
              generalize ms.getD j 0 = v at *
              have d5 : (y != y) = false := by simp
              go_wp2_with fail
              go_quiet (fail)
              go_wp2
              go_roundw
              case rel => exact ⟨j + 1, by omega, by go_num, HQ.out.draw _⟩
              case measure => simp [intOf]; omega
            · have hj' : j = k := by omega
              subst hj'
              clear hlj
              have hk := hq.kept
              have KE := Lib.hid (HK19.out.trans hk (by simp))
              clear hk hq HQ
              go_wp2_with fail
              refine (alive_any _).mono ?_
              rintro e w91 ⟨rfl, hk⟩
              have HK91 := Lib.hid (KE.out.trans hk (by simp))
              clear KE
              clear hk
              go_wp2
              go_ret
              exact ⟨rfl, HK91.out⟩
        · have d1 : (m == 0) = false := beq_eq_false_iff_ne.2 (by omega)
          have d2 : decide (0 < m) = true := decide_eq_true (by omega)
          have HZ := Lib.hid (HG1.out hm)
          clear hm HG0 HG1
          go_wp2_with fail
          go_loopw [8] (fun i wr => ∃ j : Nat, j ≤ k ∧ i = .int .i64 j ∧ Qt w19 wr) (fun i _ => k - (intOf i).toNat)
          case atStart => exact ⟨0, Nat.zero_le _, rfl, Qt.refl _⟩
          case round =>
            obtain ⟨j, hj, rfl, hq⟩ := hrel
            have HQ := Lib.hid hq
            by_cases hlj : j < k
            · have jM := (hq.cell _).trans (CM19.out j hlj)
              have jX := (hq.cell _).trans (CX19.out j hlj)
              have hq2 := Nat.mod_lt (j + 1) (show 0 < k by omega)
              have qM := (hq.cell _).trans (CM19.out _ hq2)
              have e1 : ((j : Int) + 1).tmod (k : Int) = (((j + 1) % k : Nat) : Int) := mod_int (j + 1) k
              have s2 : IntKind.i64.wrap ((j : Int) + 1) = (j : Int) + 1 := IntWalk.i64_in _ (by omega)
              have hkk : ((k : Int) != (k : Int)) = false := by simp
              have hz := HZ.out j hlj
              rw [hz] at jX
              clear hq
              generalize (j + 1) % k = q at *
              generalize ms.getD q 0 = y at *
              generalize fs.getD j 0 = x at *
              generalize ms.getD j 0 = v at *
              have d5 : (y != y) = false := by simp
              go_wp2_with fail
              go_quiet (fail)
              go_wp2
              go_roundw
              case rel => exact ⟨j + 1, by omega, by go_num, HQ.out.draw _⟩
              case measure => simp [intOf]; omega
            · have hj' : j = k := by omega
              subst hj'
              clear hlj
              have hk := hq.kept
              have KE := Lib.hid (HK19.out.trans hk (by simp))
              clear hk hq HQ
              go_wp2_with fail
              refine (alive_any _).mono ?_
              rintro e w91 ⟨rfl, hk⟩
              have HK91 := Lib.hid (KE.out.trans hk (by simp))
              clear KE
              clear hk
              go_wp2
              go_ret
              exact ⟨rfl, HK91.out⟩
end Go.Proofs.Ytdpkacpeednnoaa
