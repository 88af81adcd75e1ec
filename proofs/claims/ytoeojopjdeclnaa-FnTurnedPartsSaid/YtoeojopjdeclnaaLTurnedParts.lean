/-
  The law TurnedParts, walked.
-/
import Derived.Test.YtoeojopjdeclnaaD15
import Derived.Test.YtoeojopjdeclnaaL1
import Derived.Test.YtoeojopjdeclnaaTB
import Derived.Test.YtoeojopjdeclnaaTI
namespace Go.Proofs.Ytoeojopjdeclnaa
open Go.RowKit

set_option maxHeartbeats 4000000 in
set_option maxRecDepth 100000 in
theorem FnTurnedParts_calls (w : World) (v : Value) (ha : ArgB w v) :
    Calls Try.prog 9 #[v] w fun e w' => e = .returned (.bool true) ∧ Kept [] w w' := by
  have HA := Lib.hid ha
  obtain ⟨a, len, cap, rfl, hlc, hcm, _⟩ := ha
  by_cases hbig : 1048576 < len
  · have hb : (1048576 : Int) < (len : Int) := by omega
    clear hbig
    go_enter Try.func9, Try.ntmps9
    go_wp2
    go_ret
    exact ⟨rfl, Kept.refl _ _⟩
  have hb : ¬ (1048576 : Int) < (len : Int) := by omega
  clear hbig
  go_enter Try.func9, Try.ntmps9
  go_wp2_with fail
  refine (drawTurnedRow_any _ _ HA.out).mono ?_
  rintro e w1 ⟨u, xs, v, ys, s0, rfl, hs, ht, hl1, hl2, hs1, hs2, hk⟩
  have S1 := Lib.hid hs
  have T1 := Lib.hid ht
  have HK := Lib.hid hk
  clear hk hb
  by_cases ho : (Nt.fireB xs 3 ys && Nt.stepsB s0) = true
  · obtain ⟨h1, h2⟩ := (Bool.and_eq_true _ _).mp ho
    obtain ⟨ns, ks, rfl, rfl, ok, st, hl⟩ := Nt.fireB3_ok h1
    obtain ⟨t, rfl, ht60⟩ := Nt.stepsB_ok h2
    clear h1 h2 hs1 hs2
    obtain ⟨n, hn⟩ : ∃ n, n = ks.length := ⟨_, rfl⟩
    have hp := st.some
    have h6 := st.few
    have HOK := Lib.hid ok
    have HST := Lib.hid st
    have HL := Lib.hid hl
    have HN := Lib.hid hn
    have HF := Lib.hid (Nt.tturnedOf_ok ok st hl ht60)
    obtain ⟨h, hh⟩ : ∃ h, h = t / 2 := ⟨_, rfl⟩
    have f1 : (t : Int).tdiv 2 = (h : Int) := by rw [hh]; exact tdiv_nat t 2
    have hht : h ≤ t := by omega
    clear hh
    have HFH := Lib.hid (Nt.tturnedOf_ok (t := h) ok st hl (by omega))
    have HRH := Lib.hid (Nt.trunOf_ok (t := h) ok st hl (by omega))
    have HFR : Hid (Nt.tturnedOf (Nt.nats ns) (Nt.nats (Nt.turns ns ks h)) ((t : Int) - (h : Int)) = Nt.nats (Nt.turnedL ns (Nt.turns ns ks h) (t - h))) := Lib.hid (by
      rw [show (t : Int) - (h : Int) = ((t - h : Nat) : Int) by omega]
      exact Nt.tturnedOf_ok (t := t - h) ok (Nt.turns_st ns st h) (by rw [Nt.turns_length]; exact hl) (by omega))
    have HRL : Hid ((Nt.turnedL ns ks t).length = n) := Lib.hid (by rw [Nt.turnedL_length, hn])
    have HFL : Hid ((Nt.turnedL ns ks h).length = n) := Lib.hid (by rw [Nt.turnedL_length, hn])
    have HGL : Hid ((Nt.turnedL ns (Nt.turns ns ks h) (t - h)).length = n) := Lib.hid (by rw [Nt.turnedL_length, Nt.turns_length, hn])
    have HADD : Hid (∀ k, k < n → (Nt.turnedL ns ks t).getD k 0 = (Nt.turnedL ns ks h).getD k 0 + (Nt.turnedL ns (Nt.turns ns ks h) (t - h)).getD k 0) := Lib.hid (fun k hk => by
      rw [Nt.turnedL_get _ _ _ (by omega), Nt.turnedL_get _ _ _ (by omega), Nt.turnedL_get _ _ _ (by rw [Nt.turns_length]; omega), ← Nt.turned_add, show h + (t - h) = t by omega])
    have HSM : Hid (∀ k, k < n → (Nt.turnedL ns ks t).getD k 0 ≤ 1000) := Lib.hid (fun k hk => turnedL_small ns ks t ht60 k (by omega))
    rw [← hn] at hp h6
    have hne0 : ((n : Int) == 0) = false := beq_eq_false_iff_ne.2 (by omega)
    obtain ⟨gS, capS, rfl, _, _⟩ := hs.row (n := n) (by omega) hp
    obtain ⟨gT, capT, rfl, _, _⟩ := ht.row hn.symm hp
    clear hs ht ok st hl hn ho hl1 hl2
    go_wp2_with fail
    refine (iTurnedRow_any _ _ _ _ _ _ _ _ S1.out T1.out).mono ?_
    rintro e w2 ⟨u2, rfl, hs, hk⟩
    rw [HF.out] at hs
    have R2 := Lib.hid hs
    obtain ⟨gR, capR, rfl, hgR, hcR⟩ := hs.row HRL.out hp
    have CR2 := Lib.hid hcR
    have lR2 := Lib.hid hgR
    clear hgR hcR
    have S2 := Lib.hid (S1.out.stay hk)
    have T2 := Lib.hid (T1.out.stay hk)
    have HK2 := Lib.hid (HK.out.trans hk (by simp))
    clear S1 T1 HK
    clear hs hk
    go_wp2_with fail
    refine (iTurnedRow_any _ _ _ _ _ _ _ _ S2.out T2.out).mono ?_
    rintro e w3 ⟨u3, rfl, hs, hk⟩
    rw [HFH.out] at hs
    have F3 := Lib.hid hs
    obtain ⟨gF, capF, rfl, hgF, hcF⟩ := hs.row HFL.out hp
    have CF3 := Lib.hid hcF
    have lF3 := Lib.hid hgF
    clear hgF hcF
    have S3 := Lib.hid (S2.out.stay hk)
    have T3 := Lib.hid (T2.out.stay hk)
    have R3 := Lib.hid (R2.out.stay hk)
    have CR3 := Lib.hid (fun j (hj : j < n) => (hk.cell (p := ⟨gR, j, none⟩) lR2.out (by simp)).trans (CR2.out j hj))
    have lR3 := Lib.hid (Nat.lt_of_lt_of_le lR2.out hk.size)
    have HK3 := Lib.hid (HK2.out.trans hk (by simp))
    clear S2 T2 R2 CR2 lR2 HK2
    clear hs hk
    go_wp2_with fail
    refine (iTurnRun_any _ _ _ _ _ _ _ _ S3.out T3.out).mono ?_
    rintro e w4 ⟨u4, rfl, hs, hk⟩
    rw [HRH.out] at hs
    have U4 := Lib.hid hs
    have S4 := Lib.hid (S3.out.stay hk)
    have T4 := Lib.hid (T3.out.stay hk)
    have R4 := Lib.hid (R3.out.stay hk)
    have F4 := Lib.hid (F3.out.stay hk)
    have CR4 := Lib.hid (fun j (hj : j < n) => (hk.cell (p := ⟨gR, j, none⟩) lR3.out (by simp)).trans (CR3.out j hj))
    have lR4 := Lib.hid (Nat.lt_of_lt_of_le lR3.out hk.size)
    have CF4 := Lib.hid (fun j (hj : j < n) => (hk.cell (p := ⟨gF, j, none⟩) lF3.out (by simp)).trans (CF3.out j hj))
    have lF4 := Lib.hid (Nat.lt_of_lt_of_le lF3.out hk.size)
    have HK4 := Lib.hid (HK3.out.trans hk (by simp))
    clear S3 T3 R3 F3 CR3 lR3 CF3 lF3 HK3
    clear hs hk
    go_wp2_with fail
    refine (iTurnedRow_any _ _ _ _ _ _ _ _ S4.out U4.out).mono ?_
    rintro e w5 ⟨u5, rfl, hs, hk⟩
    rw [HFR.out] at hs
    have G5 := Lib.hid hs
    obtain ⟨gG, capG, rfl, hgG, hcG⟩ := hs.row HGL.out hp
    have CG5 := Lib.hid hcG
    have lG5 := Lib.hid hgG
    clear hgG hcG
    have S5 := Lib.hid (S4.out.stay hk)
    have T5 := Lib.hid (T4.out.stay hk)
    have R5 := Lib.hid (R4.out.stay hk)
    have F5 := Lib.hid (F4.out.stay hk)
    have U5 := Lib.hid (U4.out.stay hk)
    have CR5 := Lib.hid (fun j (hj : j < n) => (hk.cell (p := ⟨gR, j, none⟩) lR4.out (by simp)).trans (CR4.out j hj))
    have lR5 := Lib.hid (Nat.lt_of_lt_of_le lR4.out hk.size)
    have CF5 := Lib.hid (fun j (hj : j < n) => (hk.cell (p := ⟨gF, j, none⟩) lF4.out (by simp)).trans (CF4.out j hj))
    have lF5 := Lib.hid (Nat.lt_of_lt_of_le lF4.out hk.size)
    have HK5 := Lib.hid (HK4.out.trans hk (by simp))
    clear S4 T4 R4 F4 U4 CR4 lR4 CF4 lF4 HK4
    clear hs hk
    have hnn : ((n : Int) != (n : Int)) = false := by simp
    go_wp2_with fail
    go_loopw [9] (fun i wr => ∃ k : Nat, k ≤ n ∧ i = .int .i64 k ∧ Qt w5 wr) (fun i _ => n - (intOf i).toNat)
    case atStart => exact ⟨0, Nat.zero_le _, rfl, Qt.refl _⟩
    case round =>
      obtain ⟨k, hk, rfl, hq⟩ := hrel
      have HQ := Lib.hid hq
      by_cases hlt : k < n
      · have kR := (hq.cell _).trans (CR5.out k hlt)
        have kF := (hq.cell _).trans (CF5.out k hlt)
        have kG := (hq.cell _).trans (CG5.out k hlt)
        have hadd := HADD.out k hlt
        have hsm := HSM.out k hlt
        clear hq
        generalize (Nt.turnedL ns (Nt.turns ns ks h) (t - h)).getD k 0 = b at *
        generalize (Nt.turnedL ns ks h).getD k 0 = a at *
        generalize (Nt.turnedL ns ks t).getD k 0 = r at *
        have s1 : IntKind.i64.wrap ((a : Int) + (b : Int)) = (a : Int) + (b : Int) := IntWalk.i64_in _ (by omega)
        have d1 : ((a : Int) + (b : Int) != (r : Int)) = false := by simp; omega
        clear hadd
        go_wp2_with fail
        go_quiet (fail)
        go_wp2
        go_roundw
        case rel => exact ⟨k + 1, by omega, by go_num, HQ.out.draw _⟩
        case measure => simp [intOf]; omega
      · have hk' : k = n := by omega
        subst hk'
        have KQ := Lib.hid (HK5.out.trans hq.kept (by simp))
        clear hq hlt hk
        go_wp2_with fail
        refine (alive_any _).mono ?_
        rintro e wz ⟨rfl, hkz⟩
        have KZ := Lib.hid (KQ.out.trans hkz (by simp))
        clear hkz
        go_wp2
        go_ret
        exact ⟨rfl, KZ.out⟩
  · have HF : Hid (Nt.tturnedOf xs ys s0 = []) := Lib.hid (by
      cases h1 : Nt.fireB xs 3 ys
      · exact Nt.tturnedOf_no1 h1
      · exact Nt.tturnedOf_no2 (by rw [h1] at ho; simpa using ho))
    obtain ⟨bS, capS, rfl, _, _, _⟩ := hs.any
    obtain ⟨bT, capT, rfl, _, _, _⟩ := ht.any
    clear hs ht ho hl1 hl2
    go_wp2_with fail
    refine (iTurnedRow_any _ _ _ _ _ _ _ _ S1.out T1.out).mono ?_
    rintro e w2 ⟨u2, rfl, hs, hk⟩
    rw [HF.out] at hs
    have X2 := Lib.hid hs
    obtain ⟨bX, capX, rfl, _, _, _⟩ := hs.any
    have S2 := Lib.hid (S1.out.stay hk)
    have T2 := Lib.hid (T1.out.stay hk)
    have HK2 := Lib.hid (HK.out.trans hk (by simp))
    clear S1 T1 HK
    clear hs hk
    go_wp2_with fail
    refine (sTurnedRow_any _ _ _ _ _ _ _ _ S2.out T2.out).mono ?_
    rintro e w3 ⟨u3, rfl, hs, hk⟩
    rw [HF.out] at hs
    have Y3 := Lib.hid hs
    obtain ⟨bY, capY, rfl, _, _, _⟩ := hs.any
    have S3 := Lib.hid (S2.out.stay hk)
    have T3 := Lib.hid (T2.out.stay hk)
    have X3 := Lib.hid (X2.out.stay hk)
    have HK3 := Lib.hid (HK2.out.trans hk (by simp))
    clear S2 T2 X2 HK2
    clear hs hk
    go_wp2_with fail
    refine (alive_any _).mono ?_
    rintro e w4 ⟨rfl, hk⟩
    have S4 := Lib.hid (S3.out.stay hk)
    have T4 := Lib.hid (T3.out.stay hk)
    have X4 := Lib.hid (X3.out.stay hk)
    have Y4 := Lib.hid (Y3.out.stay hk)
    have HK4 := Lib.hid (HK3.out.trans hk (by simp))
    clear S3 T3 X3 Y3 HK3
    clear hk
    go_wp2
    go_ret
    exact ⟨rfl, HK4.out⟩
end Go.Proofs.Ytoeojopjdeclnaa
