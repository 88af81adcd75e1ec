/-
  The law TurnedRow, walked.
-/
import Derived.Test.YtoeojopjdeclnaaD15
import Derived.Test.YtoeojopjdeclnaaL1
import Derived.Test.YtoeojopjdeclnaaTB
import Derived.Test.YtoeojopjdeclnaaTI
namespace Go.Proofs.Ytoeojopjdeclnaa
open Go.RowKit

set_option maxHeartbeats 4000000 in
set_option maxRecDepth 100000 in
theorem FnTurnedRow_calls (w : World) (v : Value) (ha : ArgB w v) :
    Calls Try.prog 5 #[v] w fun e w' => e = .returned (.bool true) ∧ Kept [] w w' := by
  have HA := Lib.hid ha
  obtain ⟨a, len, cap, rfl, hlc, hcm, _⟩ := ha
  by_cases hbig : 1048576 < len
  · have hb : (1048576 : Int) < (len : Int) := by omega
    clear hbig
    go_enter Try.func5, Try.ntmps5
    go_wp2
    go_ret
    exact ⟨rfl, Kept.refl _ _⟩
  have hb : ¬ (1048576 : Int) < (len : Int) := by omega
  clear hbig
  go_enter Try.func5, Try.ntmps5
  go_wp2_with fail
  refine (drawTurnedRow_any _ _ HA.out).mono ?_
  rintro e w1 ⟨u, xs, v, ys, s0, rfl, hs, ht, hl1, hl2, hs1, hs2, hk⟩
  have S1 := Lib.hid hs
  have T1 := Lib.hid ht
  have HK := Lib.hid hk
  clear hk hb
  by_cases ho : (Nt.fireB xs 3 ys && Nt.stepsB s0) = true
  · obtain ⟨h1, h2⟩ := (Bool.and_eq_true _ _).mp ho
    obtain ⟨ns, ks, rfl, rfl, ok, st, hl⟩ := Nt.fireB3_ok h1
    obtain ⟨t, rfl, ht60⟩ := Nt.stepsB_ok h2
    clear h1 h2 hs1 hs2
    obtain ⟨n, hn⟩ : ∃ n, n = ks.length := ⟨_, rfl⟩
    have hp := st.some
    have h6 := st.few
    have HOK := Lib.hid ok
    have HST := Lib.hid st
    have HL := Lib.hid hl
    have HN := Lib.hid hn
    have HF := Lib.hid (Nt.tturnedOf_ok ok st hl ht60)
    have HRU := Lib.hid (Nt.trunOf_ok ok st hl ht60)
    have HRL : Hid ((Nt.turnedL ns ks t).length = n) := Lib.hid (by rw [Nt.turnedL_length, hn])
    have HXL : Hid ((Nt.turns ns ks t).length = n) := Lib.hid (by rw [Nt.turns_length, hn])
    have HX : Hid (∀ k, k < n → (Nt.turns ns ks t).getD k 0 = (ks.getD k 0 + (Nt.turnedL ns ks t).getD k 0) % 3) := Lib.hid (fun k hk => by
      rw [Nt.turnedL_get _ _ _ (by omega)]; exact Nt.turns_get st (by omega) t)
    have HLE : Hid (∀ k, k < n → (Nt.turnedL ns ks t).getD k 0 ≤ t) := Lib.hid (fun k hk => by rw [Nt.turnedL_get _ _ _ (by omega)]; exact Nt.turned_le ns ks k t)
    have HNB : Hid (∀ k j, k < n → j < n → (ns.getD k 0).testBit j = true → (Nt.turnedL ns ks t).getD j 0 ≤ (Nt.turnedL ns ks t).getD k 0 + 2) := Lib.hid (fun k j hk hj hb => by
      rw [Nt.turnedL_get _ _ _ (by omega), Nt.turnedL_get _ _ _ (by omega)]; exact Nt.turned_near ok st hl (by omega) (by omega) hb t)
    have HLT : Hid (∀ k, k < n → ks.getD k 0 < 3) := Lib.hid (fun k hk => st.lt k (by omega))
    rw [← hn] at hp h6
    have hne0 : ((n : Int) == 0) = false := beq_eq_false_iff_ne.2 (by omega)
    obtain ⟨gS, capS, rfl, hgS, hcS⟩ := hs.row (n := n) (by omega) hp
    obtain ⟨gT, capT, rfl, hgT, hcT⟩ := ht.row hn.symm hp
    have CS1 := Lib.hid hcS
    have lS1 := Lib.hid hgS
    have CT1 := Lib.hid hcT
    have lT1 := Lib.hid hgT
    clear hcS hgS hcT hgT
    clear hs ht ok st hl hn ho hl1 hl2
    go_wp2_with fail
    refine (iTurnedRow_any _ _ _ _ _ _ _ _ S1.out T1.out).mono ?_
    rintro e w2 ⟨u2, rfl, hs, hk⟩
    rw [HF.out] at hs
    have R2 := Lib.hid hs
    obtain ⟨gR, capR, rfl, hgR, hcR⟩ := hs.row HRL.out hp
    have CR2 := Lib.hid hcR
    have lR2 := Lib.hid hgR
    clear hgR hcR
    have S2 := Lib.hid (S1.out.stay hk)
    have T2 := Lib.hid (T1.out.stay hk)
    have CS2 := Lib.hid (fun j (hj : j < n) => (hk.cell (p := ⟨gS, j, none⟩) lS1.out (by simp)).trans (CS1.out j hj))
    have lS2 := Lib.hid (Nat.lt_of_lt_of_le lS1.out hk.size)
    have CT2 := Lib.hid (fun j (hj : j < n) => (hk.cell (p := ⟨gT, j, none⟩) lT1.out (by simp)).trans (CT1.out j hj))
    have lT2 := Lib.hid (Nat.lt_of_lt_of_le lT1.out hk.size)
    have HK2 := Lib.hid (HK.out.trans hk (by simp))
    clear S1 T1 CS1 lS1 CT1 lT1 HK
    clear hs hk
    go_wp2_with fail
    refine (sTurnedRow_any _ _ _ _ _ _ _ _ S2.out T2.out).mono ?_
    rintro e w3 ⟨u3, rfl, hs, hk⟩
    rw [HF.out] at hs
    have Y3 := Lib.hid hs
    have S3 := Lib.hid (S2.out.stay hk)
    have T3 := Lib.hid (T2.out.stay hk)
    have R3 := Lib.hid (R2.out.stay hk)
    have CS3 := Lib.hid (fun j (hj : j < n) => (hk.cell (p := ⟨gS, j, none⟩) lS2.out (by simp)).trans (CS2.out j hj))
    have lS3 := Lib.hid (Nat.lt_of_lt_of_le lS2.out hk.size)
    have CT3 := Lib.hid (fun j (hj : j < n) => (hk.cell (p := ⟨gT, j, none⟩) lT2.out (by simp)).trans (CT2.out j hj))
    have lT3 := Lib.hid (Nat.lt_of_lt_of_le lT2.out hk.size)
    have CR3 := Lib.hid (fun j (hj : j < n) => (hk.cell (p := ⟨gR, j, none⟩) lR2.out (by simp)).trans (CR2.out j hj))
    have lR3 := Lib.hid (Nat.lt_of_lt_of_le lR2.out hk.size)
    have HK3 := Lib.hid (HK2.out.trans hk (by simp))
    clear S2 T2 R2 CS2 lS2 CT2 lT2 CR2 lR2 HK2
    clear hs hk
    go_wp2_with fail
    refine (sameInts_any _ _ _ _ _ _ _ R3.out Y3.out).mono ?_
    rintro e w4 ⟨rfl, hq⟩
    rw [dec_of rfl]
    have hk := hq.kept
    have S4 := Lib.hid (S3.out.stay hk)
    have T4 := Lib.hid (T3.out.stay hk)
    have R4 := Lib.hid (R3.out.stay hk)
    have Y4 := Lib.hid (Y3.out.stay hk)
    have CS4 := Lib.hid (fun j (hj : j < n) => (hk.cell (p := ⟨gS, j, none⟩) lS3.out (by simp)).trans (CS3.out j hj))
    have lS4 := Lib.hid (Nat.lt_of_lt_of_le lS3.out hk.size)
    have CT4 := Lib.hid (fun j (hj : j < n) => (hk.cell (p := ⟨gT, j, none⟩) lT3.out (by simp)).trans (CT3.out j hj))
    have lT4 := Lib.hid (Nat.lt_of_lt_of_le lT3.out hk.size)
    have CR4 := Lib.hid (fun j (hj : j < n) => (hk.cell (p := ⟨gR, j, none⟩) lR3.out (by simp)).trans (CR3.out j hj))
    have lR4 := Lib.hid (Nat.lt_of_lt_of_le lR3.out hk.size)
    have HK4 := Lib.hid (HK3.out.trans hk (by simp))
    clear S3 T3 R3 Y3 CS3 lS3 CT3 lT3 CR3 lR3 HK3
    clear hk hq
    clear Y4
    go_wp2_with fail
    refine (iTurnRun_any _ _ _ _ _ _ _ _ S4.out T4.out).mono ?_
    rintro e w5 ⟨u5, rfl, hs, hk⟩
    rw [HRU.out] at hs
    have X5 := Lib.hid hs
    obtain ⟨gX, capX, rfl, hgX, hcX⟩ := hs.row HXL.out hp
    have CX5 := Lib.hid hcX
    have lX5 := Lib.hid hgX
    clear hgX hcX
    have S5 := Lib.hid (S4.out.stay hk)
    have T5 := Lib.hid (T4.out.stay hk)
    have R5 := Lib.hid (R4.out.stay hk)
    have CS5 := Lib.hid (fun j (hj : j < n) => (hk.cell (p := ⟨gS, j, none⟩) lS4.out (by simp)).trans (CS4.out j hj))
    have lS5 := Lib.hid (Nat.lt_of_lt_of_le lS4.out hk.size)
    have CT5 := Lib.hid (fun j (hj : j < n) => (hk.cell (p := ⟨gT, j, none⟩) lT4.out (by simp)).trans (CT4.out j hj))
    have lT5 := Lib.hid (Nat.lt_of_lt_of_le lT4.out hk.size)
    have CR5 := Lib.hid (fun j (hj : j < n) => (hk.cell (p := ⟨gR, j, none⟩) lR4.out (by simp)).trans (CR4.out j hj))
    have lR5 := Lib.hid (Nat.lt_of_lt_of_le lR4.out hk.size)
    have HK5 := Lib.hid (HK4.out.trans hk (by simp))
    clear S4 T4 R4 CS4 lS4 CT4 lT4 CR4 lR4 HK4
    clear hs hk
    have hnn : ((n : Int) != (n : Int)) = false := by simp
    go_wp2_with fail
    go_loopw [8] (fun i wr => ∃ k : Nat, k ≤ n ∧ i = .int .i64 k ∧ Qt w5 wr) (fun i _ => n - (intOf i).toNat)
    case atStart => exact ⟨0, Nat.zero_le _, rfl, Qt.refl _⟩
    case round =>
      obtain ⟨k, hk, rfl, hq⟩ := hrel
      have HQ := Lib.hid hq
      by_cases hlt : k < n
      · have kR := (hq.cell _).trans (CR5.out k hlt)
        have kX := (hq.cell _).trans (CX5.out k hlt)
        have kT := (hq.cell _).trans (CT5.out k hlt)
        have hx := HX.out k hlt
        have hle := HLE.out k hlt
        have hs3 := HLT.out k hlt
        have HB := Lib.hid (fun j hj hb => HNB.out k j hlt hj hb)
        have f1 := tmod_nat (ks.getD k 0 + (Nt.turnedL ns ks t).getD k 0) 3
        rw [← hx, Int.natCast_add] at f1
        change (_ : Int).tmod 3 = _ at f1
        clear hq hx
        generalize (Nt.turns ns ks t).getD k 0 = x at *
        generalize hrr : (Nt.turnedL ns ks t).getD k 0 = r at *
        have HRR := Lib.hid hrr
        clear hrr
        generalize ks.getD k 0 = s at *
        have s1 : IntKind.i64.wrap ((s : Int) + (r : Int)) = (s : Int) + (r : Int) := IntWalk.i64_in _ (by omega)
        have d1 : ((x : Int) != (x : Int)) = false := by simp
        have d2 : decide ((r : Int) < 0) = false := dec_not (by omega)
        have d3 : decide ((t : Int) < (r : Int)) = false := dec_not (by omega)
        go_wp2_with fail
        go_quiet (fail)
        go_wp2_with fail
        go_loopw [9] (fun i wx => ∃ j : Nat, j ≤ n ∧ i = .int .i64 j ∧ Qt w5 wx) (fun i _ => n - (intOf i).toNat)
        case atStart => exact ⟨0, Nat.zero_le _, rfl, HQ.out.draw _⟩
        case round =>
          clear HQ
          obtain ⟨j, hj, rfl, hq⟩ := hrel
          have HQ := Lib.hid hq
          by_cases hlj : j < n
          · have jR := (hq.cell _).trans (CR5.out j hlj)
            have kR := (hq.cell _).trans (CR5.out k hlt)
            have kS := (hq.cell _).trans (CS5.out k hlt)
            rw [HRR.out] at kR
            have hb := HB.out j hlj
            have hlj2 := HLE.out j hlj
            clear hq
            generalize (Nt.turnedL ns ks t).getD j 0 = q at *
            generalize ns.getD k 0 = b at *
            have p1 := shr_nonneg b j
            have e1 := shr_rem b j
            have s2 : IntKind.i64.wrap ((r : Int) + 2) = (r : Int) + 2 := IntWalk.i64_in _ (by omega)
            cases hbit : b.testBit j
            · rw [hbit] at e1
              simp only [Bool.false_eq_true, if_false] at e1
              clear hbit hb
              go_wp2_with fail
              go_quiet (fail)
              go_wp2
              go_roundw
              case rel => exact ⟨j + 1, by omega, by go_num, HQ.out.draw _⟩
              case measure => simp [intOf]; omega
            · rw [hbit] at e1
              simp only [if_true] at e1
              have hb2 := hb hbit
              have d4 : decide ((r : Int) + 2 < (q : Int)) = false := dec_not (by omega)
              clear hbit hb
              go_wp2_with fail
              go_quiet (fail)
              go_wp2
              go_roundw
              case rel => exact ⟨j + 1, by omega, by go_num, HQ.out.draw _⟩
              case measure => simp [intOf]; omega
          · have hj' : j = n := by omega
            subst hj'
            clear hq
            go_wp2
            go_roundw
            case rel => exact ⟨k + 1, by omega, by go_num, HQ.out⟩
            case measure => simp [intOf]; omega
      · have hk' : k = n := by omega
        subst hk'
        clear hq hlt
        go_wp2
        go_ret
        exact ⟨rfl, HK5.out.trans HQ.out.kept (by simp)⟩
  · have HF : Hid (Nt.tturnedOf xs ys s0 = []) := Lib.hid (by
      cases h1 : Nt.fireB xs 3 ys
      · exact Nt.tturnedOf_no1 h1
      · exact Nt.tturnedOf_no2 (by rw [h1] at ho; simpa using ho))
    obtain ⟨bS, capS, rfl, _, _, _⟩ := hs.any
    obtain ⟨bT, capT, rfl, _, _, _⟩ := ht.any
    clear hs ht ho hl1 hl2
    go_wp2_with fail
    refine (iTurnedRow_any _ _ _ _ _ _ _ _ S1.out T1.out).mono ?_
    rintro e w2 ⟨u2, rfl, hs, hk⟩
    rw [HF.out] at hs
    have X2 := Lib.hid hs
    obtain ⟨bX, capX, rfl, _, _, _⟩ := hs.any
    have S2 := Lib.hid (S1.out.stay hk)
    have T2 := Lib.hid (T1.out.stay hk)
    have HK2 := Lib.hid (HK.out.trans hk (by simp))
    clear S1 T1 HK
    clear hs hk
    go_wp2_with fail
    refine (sTurnedRow_any _ _ _ _ _ _ _ _ S2.out T2.out).mono ?_
    rintro e w3 ⟨u3, rfl, hs, hk⟩
    rw [HF.out] at hs
    have Y3 := Lib.hid hs
    have S3 := Lib.hid (S2.out.stay hk)
    have T3 := Lib.hid (T2.out.stay hk)
    have X3 := Lib.hid (X2.out.stay hk)
    have HK3 := Lib.hid (HK2.out.trans hk (by simp))
    clear S2 T2 X2 HK2
    clear hs hk
    go_wp2_with fail
    refine (sameInts_any _ _ _ _ _ _ _ X3.out Y3.out).mono ?_
    rintro e w4 ⟨rfl, hq⟩
    rw [dec_of rfl]
    have hk := hq.kept
    have S4 := Lib.hid (S3.out.stay hk)
    have T4 := Lib.hid (T3.out.stay hk)
    have X4 := Lib.hid (X3.out.stay hk)
    have Y4 := Lib.hid (Y3.out.stay hk)
    have HK4 := Lib.hid (HK3.out.trans hk (by simp))
    clear S3 T3 X3 Y3 HK3
    clear hk hq
    go_wp2_with fail
    refine (alive_any _).mono ?_
    rintro e w5 ⟨rfl, hk⟩
    have S5 := Lib.hid (S4.out.stay hk)
    have T5 := Lib.hid (T4.out.stay hk)
    have X5 := Lib.hid (X4.out.stay hk)
    have Y5 := Lib.hid (Y4.out.stay hk)
    have HK5 := Lib.hid (HK4.out.trans hk (by simp))
    clear S4 T4 X4 Y4 HK4
    clear hk
    go_wp2
    go_ret
    exact ⟨rfl, HK5.out⟩
end Go.Proofs.Ytoeojopjdeclnaa
