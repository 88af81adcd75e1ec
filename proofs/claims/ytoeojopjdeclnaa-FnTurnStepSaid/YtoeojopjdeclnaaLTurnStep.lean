/-
  The law TurnStep, walked.
-/
import Derived.Test.YtoeojopjdeclnaaD15
import Derived.Test.YtoeojopjdeclnaaL1
import Derived.Test.YtoeojopjdeclnaaTB
import Derived.Test.YtoeojopjdeclnaaTI
import Derived.Test.YtoeojopjdeclnaaNA
namespace Go.Proofs.Ytoeojopjdeclnaa
open Go.RowKit

/-- Whether the first kinds are all as the first one. -/
def sameK (ks : List Nat) (n : Nat) : Bool := (List.range n).all fun k => decide (ks.getD k 0 = ks.getD 0 0)
theorem sameK_succ (ks : List Nat) (k : Nat) : sameK ks (k + 1) = (sameK ks k && decide (ks.getD k 0 = ks.getD 0 0)) := by
  unfold sameK
  rw [List.range_succ, List.all_append]
  simp

set_option maxHeartbeats 4000000 in
set_option maxRecDepth 100000 in
theorem FnTurnStep_calls (w : World) (v : Value) (ha : ArgB w v) :
    Calls Try.prog 3 #[v] w fun e w' => e = .returned (.bool true) ∧ Kept [] w w' := by
  have HA := Lib.hid ha
  obtain ⟨a, len, cap, rfl, hlc, hcm, _⟩ := ha
  by_cases hbig : 1048576 < len
  · have hb : (1048576 : Int) < (len : Int) := by omega
    clear hbig
    go_enter Try.func3, Try.ntmps3
    go_wp2
    go_ret
    exact ⟨rfl, Kept.refl _ _⟩
  have hb : ¬ (1048576 : Int) < (len : Int) := by omega
  clear hbig
  go_enter Try.func3, Try.ntmps3
  go_wp2_with fail
  refine (drawTurnStep_any _ _ HA.out).mono ?_
  rintro e w1 ⟨u, xs, v, ys, rfl, hs, ht, hl1, hl2, hk⟩
  have S1 := Lib.hid hs
  have T1 := Lib.hid ht
  have HK := Lib.hid hk
  clear hk hb
  by_cases ho : Nt.fireB xs 3 ys = true
  · obtain ⟨ns, ks, rfl, rfl, ok, st, hl⟩ := Nt.fireB3_ok ho
    obtain ⟨n, hn⟩ : ∃ n, n = ks.length := ⟨_, rfl⟩
    have hp := st.some
    have h6 := st.few
    have HOK := Lib.hid ok
    have HST := Lib.hid st
    have HL := Lib.hid hl
    have HN := Lib.hid hn
    have HF := Lib.hid (Nt.turnOf_ok ok st hl)
    have HRL : Hid ((Nt.turn ns ks).length = n) := Lib.hid (by rw [Nt.turn_length, hn])
    have HX : Hid (∀ k, k < n → (Nt.turn ns ks).getD k 0 = ks.getD k 0 ∨ (Nt.turn ns ks).getD k 0 = (ks.getD k 0 + 1) % 3) := Lib.hid (fun k hk => by
      rw [Nt.turn_get ns ks (by omega)]
      unfold Nt.turnK
      split
      · exact .inr rfl
      · exact .inl rfl)
    have HLT : Hid (∀ k, k < n → ks.getD k 0 < 3) := Lib.hid (fun k hk => st.lt k (by omega))
    have HRA : Hid (Nt.raisedOf 3 (Nt.nats ks) = Nt.nats (Nt.raised 3 ks)) := Lib.hid (Nt.raisedOf_ok (c := 3) st)
    have HRB : Hid (Nt.raisedOf 3 (Nt.nats (Nt.turn ns ks)) = Nt.nats (Nt.raised 3 (Nt.turn ns ks))) := Lib.hid (Nt.raisedOf_ok (c := 3) (Nt.turn_st ns st))
    have HTR : Hid (Nt.turnOf (Nt.nats ns) (Nt.nats (Nt.raised 3 ks)) = Nt.nats (Nt.raised 3 (Nt.turn ns ks))) := Lib.hid (by
      rw [Nt.turnOf_ok ok (Nt.raised_st st) (by rw [Nt.raised_length]; exact hl), Nt.turn_raised st])
    have HSA : Hid (sameK ks n = true → Nt.turn ns ks = ks) := Lib.hid (fun h => Nt.turn_same st (fun k hk => by
      have h2 := List.all_eq_true.1 h k (List.mem_range.2 (by omega))
      simpa using h2))
    have HS0 : Hid (sameK ks 0 = true) := Lib.hid rfl
    have HSN := Lib.hid (fun k => sameK_succ ks k)
    rw [← hn] at hp h6
    have hne0 : ((n : Int) == 0) = false := beq_eq_false_iff_ne.2 (by omega)
    obtain ⟨gS, capS, rfl, hgS, hcS⟩ := hs.row (n := n) (by omega) hp
    obtain ⟨gT, capT, rfl, hgT, hcT⟩ := ht.row hn.symm hp
    have CS1 := Lib.hid hcS
    have lS1 := Lib.hid hgS
    have CT1 := Lib.hid hcT
    have lT1 := Lib.hid hgT
    clear hcS hgS hcT hgT
    clear hs ht ok st hl hn ho hl1 hl2
    clear CS1 lS1
    go_wp2_with fail
    refine (iTurnStep_any _ _ _ _ _ _ _ S1.out T1.out).mono ?_
    rintro e w2 ⟨u2, rfl, hs, hk⟩
    rw [HF.out] at hs
    have X2 := Lib.hid hs
    obtain ⟨gX, capX, rfl, hgX, hcX⟩ := hs.row HRL.out hp
    have CX2 := Lib.hid hcX
    have lX2 := Lib.hid hgX
    clear hgX hcX
    have S2 := Lib.hid (S1.out.stay hk)
    have T2 := Lib.hid (T1.out.stay hk)
    have CT2 := Lib.hid (fun j (hj : j < n) => (hk.cell (p := ⟨gT, j, none⟩) lT1.out (by simp)).trans (CT1.out j hj))
    have lT2 := Lib.hid (Nat.lt_of_lt_of_le lT1.out hk.size)
    have HK2 := Lib.hid (HK.out.trans hk (by simp))
    clear S1 T1 CT1 lT1 HK
    clear hs hk
    go_wp2_with fail
    refine (sTurnStep_any _ _ _ _ _ _ _ S2.out T2.out).mono ?_
    rintro e w3 ⟨u3, rfl, hs, hk⟩
    rw [HF.out] at hs
    have Y3 := Lib.hid hs
    have S3 := Lib.hid (S2.out.stay hk)
    have T3 := Lib.hid (T2.out.stay hk)
    have X3 := Lib.hid (X2.out.stay hk)
    have CT3 := Lib.hid (fun j (hj : j < n) => (hk.cell (p := ⟨gT, j, none⟩) lT2.out (by simp)).trans (CT2.out j hj))
    have lT3 := Lib.hid (Nat.lt_of_lt_of_le lT2.out hk.size)
    have CX3 := Lib.hid (fun j (hj : j < n) => (hk.cell (p := ⟨gX, j, none⟩) lX2.out (by simp)).trans (CX2.out j hj))
    have lX3 := Lib.hid (Nat.lt_of_lt_of_le lX2.out hk.size)
    have HK3 := Lib.hid (HK2.out.trans hk (by simp))
    clear S2 T2 X2 CT2 lT2 CX2 lX2 HK2
    clear hs hk
    go_wp2_with fail
    refine (sameInts_any _ _ _ _ _ _ _ X3.out Y3.out).mono ?_
    rintro e w4 ⟨rfl, hq⟩
    rw [dec_of rfl]
    have hk := hq.kept
    have S4 := Lib.hid (S3.out.stay hk)
    have T4 := Lib.hid (T3.out.stay hk)
    have X4 := Lib.hid (X3.out.stay hk)
    have Y4 := Lib.hid (Y3.out.stay hk)
    have CT4 := Lib.hid (fun j (hj : j < n) => (hk.cell (p := ⟨gT, j, none⟩) lT3.out (by simp)).trans (CT3.out j hj))
    have lT4 := Lib.hid (Nat.lt_of_lt_of_le lT3.out hk.size)
    have CX4 := Lib.hid (fun j (hj : j < n) => (hk.cell (p := ⟨gX, j, none⟩) lX3.out (by simp)).trans (CX3.out j hj))
    have lX4 := Lib.hid (Nat.lt_of_lt_of_le lX3.out hk.size)
    have HK4 := Lib.hid (HK3.out.trans hk (by simp))
    clear S3 T3 X3 Y3 CT3 lT3 CX3 lX3 HK3
    clear hk hq
    clear Y4
    go_wp2_with fail
    go_loopw [6, 7] (fun b i wr => ∃ k : Nat, k ≤ n ∧ i = .int .i64 k ∧ b = .bool (sameK ks k) ∧ Qt w4 wr) (fun _ i _ => n - (intOf i).toNat)
    case atStart => exact ⟨0, Nat.zero_le _, rfl, by rw [HS0.out], Qt.refl _⟩
    case round =>
      obtain ⟨k, hk, rfl, rfl, hq⟩ := hrel
      have HQ := Lib.hid hq
      by_cases hlt : k < n
      · have kX := (hq.cell _).trans (CX4.out k hlt)
        have kT := (hq.cell _).trans (CT4.out k hlt)
        have k0 := (hq.cell _).trans (CT4.out 0 hp)
        have hx := HX.out k hlt
        have hs3 := HLT.out k hlt
        have f1 := tmod_nat (ks.getD k 0 + 1) 3
        have HB1 := Lib.hid (HSN.out k)
        clear hq
        generalize sameK ks k = b at *
        generalize (Nt.turn ns ks).getD k 0 = x at *
        generalize ks.getD k 0 = s at *
        generalize ks.getD 0 0 = a at *
        have s1 : IntKind.i64.wrap ((s : Int) + 1) = (s : Int) + 1 := IntWalk.i64_in _ (by omega)
        by_cases hxs : x = s
        · have d1 : ((x : Int) != (s : Int)) = false := by simp [hxs]
          clear f1 hx hxs

          cases b
          · have HV : Hid (sameK ks (k + 1) = false) := Lib.hid (by rw [HB1.out]; rfl)
            go_wp2_with fail
            go_quiet (fail)
            go_wp2_with fail
            go_quiet (fail)
            go_wp2
            go_roundw
            case rel => exact ⟨k + 1, by omega, by go_num, by rw [HV.out] <;> rfl, HQ.out.draw _⟩
            case measure => simp [intOf]; omega
          · by_cases hsa : s = a
            · have HV : Hid (sameK ks (k + 1) = true) := Lib.hid (by rw [HB1.out, hsa]; simp)
              have d5 : ((s : Int) == (a : Int)) = true := by simp [hsa]
              clear hsa
              go_wp2_with fail
              go_quiet (fail)
              go_wp2_with fail
              go_quiet (fail)
              go_wp2
              go_roundw
              case rel => exact ⟨k + 1, by omega, by go_num, by rw [HV.out] <;> rfl, HQ.out.draw _⟩
              case measure => simp [intOf]; omega
            · have HV : Hid (sameK ks (k + 1) = false) := Lib.hid (by rw [HB1.out]; simp [hsa])
              have d5 : ((s : Int) == (a : Int)) = false := by simp; omega
              clear hsa
              go_wp2_with fail
              go_quiet (fail)
              go_wp2_with fail
              go_quiet (fail)
              go_wp2
              go_roundw
              case rel => exact ⟨k + 1, by omega, by go_num, by rw [HV.out] <;> rfl, HQ.out.draw _⟩
              case measure => simp [intOf]; omega
        · have hx2 : x = (s + 1) % 3 := by omega
          rw [← hx2] at f1
          have f2 : ((s : Int) + 1).tmod 3 = (x : Int) := by rw [← f1]; congr 1
          have d1 : ((x : Int) != (s : Int)) = true := by simp; omega
          have d2 : ((x : Int) != (x : Int)) = false := by simp
          clear f1 hx hxs hx2

          cases b
          · have HV : Hid (sameK ks (k + 1) = false) := Lib.hid (by rw [HB1.out]; rfl)
            go_wp2_with fail
            go_quiet (fail)
            go_wp2_with fail
            go_quiet (fail)
            go_wp2
            go_roundw
            case rel => exact ⟨k + 1, by omega, by go_num, by rw [HV.out] <;> rfl, HQ.out.draw _⟩
            case measure => simp [intOf]; omega
          · by_cases hsa : s = a
            · have HV : Hid (sameK ks (k + 1) = true) := Lib.hid (by rw [HB1.out, hsa]; simp)
              have d5 : ((s : Int) == (a : Int)) = true := by simp [hsa]
              clear hsa
              go_wp2_with fail
              go_quiet (fail)
              go_wp2_with fail
              go_quiet (fail)
              go_wp2
              go_roundw
              case rel => exact ⟨k + 1, by omega, by go_num, by rw [HV.out] <;> rfl, HQ.out.draw _⟩
              case measure => simp [intOf]; omega
            · have HV : Hid (sameK ks (k + 1) = false) := Lib.hid (by rw [HB1.out]; simp [hsa])
              have d5 : ((s : Int) == (a : Int)) = false := by simp; omega
              clear hsa
              go_wp2_with fail
              go_quiet (fail)
              go_wp2_with fail
              go_quiet (fail)
              go_wp2
              go_roundw
              case rel => exact ⟨k + 1, by omega, by go_num, by rw [HV.out] <;> rfl, HQ.out.draw _⟩
              case measure => simp [intOf]; omega
      · have hk' : k = n := by omega
        subst hk'
        have hkk : ((k : Int) == (k : Int)) = true := by simp
        have KQ := Lib.hid (HK4.out.trans hq.kept (by simp))
        have XQ := Lib.hid (hq.sl X4.out)
        have SQ := Lib.hid (hq.sl S4.out)
        have TQ := Lib.hid (hq.sl T4.out)
        clear hq hlt hk
        go_wp2_with fail
        refine (iRaised_any _ _ _ _ _ TQ.out).mono ?_
        rintro e w21 ⟨u21, rfl, hs, hk⟩
        rw [HRA.out] at hs
        have A21 := Lib.hid hs
        have X21 := Lib.hid (XQ.out.stay hk)
        have S21 := Lib.hid (SQ.out.stay hk)
        have T21 := Lib.hid (TQ.out.stay hk)
        have HK21 := Lib.hid (KQ.out.trans hk (by simp))
        clear XQ SQ TQ KQ
        clear hs hk
        go_wp2_with fail
        refine (iTurnStep_any _ _ _ _ _ _ _ S21.out A21.out).mono ?_
        rintro e w22 ⟨u22, rfl, hs, hk⟩
        rw [HTR.out] at hs
        have B22 := Lib.hid hs
        have X22 := Lib.hid (X21.out.stay hk)
        have S22 := Lib.hid (S21.out.stay hk)
        have T22 := Lib.hid (T21.out.stay hk)
        have A22 := Lib.hid (A21.out.stay hk)
        have HK22 := Lib.hid (HK21.out.trans hk (by simp))
        clear X21 S21 T21 A21 HK21
        clear hs hk
        go_wp2_with fail
        refine (iRaised_any _ _ _ _ _ X22.out).mono ?_
        rintro e w23 ⟨u23, rfl, hs, hk⟩
        rw [HRB.out] at hs
        have C23 := Lib.hid hs
        have X23 := Lib.hid (X22.out.stay hk)
        have S23 := Lib.hid (S22.out.stay hk)
        have T23 := Lib.hid (T22.out.stay hk)
        have A23 := Lib.hid (A22.out.stay hk)
        have B23 := Lib.hid (B22.out.stay hk)
        have HK23 := Lib.hid (HK22.out.trans hk (by simp))
        clear X22 S22 T22 A22 B22 HK22
        clear hs hk
        go_wp2_with fail
        refine (sameInts_any _ _ _ _ _ _ _ B23.out C23.out).mono ?_
        rintro e w24 ⟨rfl, hq⟩
        rw [dec_of rfl]
        have hk := hq.kept
        have X24 := Lib.hid (X23.out.stay hk)
        have S24 := Lib.hid (S23.out.stay hk)
        have T24 := Lib.hid (T23.out.stay hk)
        have A24 := Lib.hid (A23.out.stay hk)
        have B24 := Lib.hid (B23.out.stay hk)
        have C24 := Lib.hid (C23.out.stay hk)
        have HK24 := Lib.hid (HK23.out.trans hk (by simp))
        clear X23 S23 T23 A23 B23 C23 HK23
        clear hk hq
        cases hsm : sameK ks k
        · go_wp2
          go_ret
          exact ⟨rfl, HK24.out⟩
        · have HE := Lib.hid (HSA.out hsm)
          go_wp2_with fail
          refine (sameInts_any _ _ _ _ _ _ _ X24.out T24.out).mono ?_
          rintro e w25 ⟨rfl, hq⟩
          rw [HE.out, dec_of rfl]
          have hk := hq.kept
          have X25 := Lib.hid (X24.out.stay hk)
          have S25 := Lib.hid (S24.out.stay hk)
          have T25 := Lib.hid (T24.out.stay hk)
          have A25 := Lib.hid (A24.out.stay hk)
          have B25 := Lib.hid (B24.out.stay hk)
          have C25 := Lib.hid (C24.out.stay hk)
          have HK25 := Lib.hid (HK24.out.trans hk (by simp))
          clear X24 S24 T24 A24 B24 C24 HK24
          clear hk hq
          go_wp2
          go_ret
          exact ⟨rfl, HK25.out⟩
  · have ho' : Nt.fireB xs 3 ys = false := by simpa using ho
    have HF := Lib.hid (Nt.turnOf_no ho')
    clear ho'
    obtain ⟨bS, capS, rfl, _, _, _⟩ := hs.any
    obtain ⟨bT, capT, rfl, _, _, _⟩ := ht.any
    clear hs ht ho hl1 hl2
    go_wp2_with fail
    refine (iTurnStep_any _ _ _ _ _ _ _ S1.out T1.out).mono ?_
    rintro e w2 ⟨u2, rfl, hs, hk⟩
    rw [HF.out] at hs
    have X2 := Lib.hid hs
    obtain ⟨bX, capX, rfl, _, _, _⟩ := hs.any
    have S2 := Lib.hid (S1.out.stay hk)
    have T2 := Lib.hid (T1.out.stay hk)
    have HK2 := Lib.hid (HK.out.trans hk (by simp))
    clear S1 T1 HK
    clear hs hk
    go_wp2_with fail
    refine (sTurnStep_any _ _ _ _ _ _ _ S2.out T2.out).mono ?_
    rintro e w3 ⟨u3, rfl, hs, hk⟩
    rw [HF.out] at hs
    have Y3 := Lib.hid hs
    have S3 := Lib.hid (S2.out.stay hk)
    have T3 := Lib.hid (T2.out.stay hk)
    have X3 := Lib.hid (X2.out.stay hk)
    have HK3 := Lib.hid (HK2.out.trans hk (by simp))
    clear S2 T2 X2 HK2
    clear hs hk
    go_wp2_with fail
    refine (sameInts_any _ _ _ _ _ _ _ X3.out Y3.out).mono ?_
    rintro e w4 ⟨rfl, hq⟩
    rw [dec_of rfl]
    have hk := hq.kept
    have S4 := Lib.hid (S3.out.stay hk)
    have T4 := Lib.hid (T3.out.stay hk)
    have X4 := Lib.hid (X3.out.stay hk)
    have Y4 := Lib.hid (Y3.out.stay hk)
    have HK4 := Lib.hid (HK3.out.trans hk (by simp))
    clear S3 T3 X3 Y3 HK3
    clear hk hq
    go_wp2_with fail
    refine (alive_any _).mono ?_
    rintro e w5 ⟨rfl, hk⟩
    have S5 := Lib.hid (S4.out.stay hk)
    have T5 := Lib.hid (T4.out.stay hk)
    have X5 := Lib.hid (X4.out.stay hk)
    have Y5 := Lib.hid (Y4.out.stay hk)
    have HK5 := Lib.hid (HK4.out.trans hk (by simp))
    clear S4 T4 X4 Y4 HK4
    clear hk
    go_wp2
    go_ret
    exact ⟨rfl, HK5.out⟩
end Go.Proofs.Ytoeojopjdeclnaa
