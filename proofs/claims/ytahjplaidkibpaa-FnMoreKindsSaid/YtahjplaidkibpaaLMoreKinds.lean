/-
  The law MoreKinds, walked.
-/
import Derived.Test.YtahjplaidkibpaaD14
import Derived.Test.YtahjplaidkibpaaL1
import Derived.Test.YtahjplaidkibpaaF3
namespace Go.Proofs.Ytahjplaidkibpaa
open Go.RowKit

set_option maxHeartbeats 4000000 in
set_option maxRecDepth 100000 in
theorem FnMoreKinds_calls (w : World) (v : Value) (ha : ArgB w v) :
    Calls Try.prog 10 #[v] w fun e w' => e = .returned (.bool true) ∧ Kept [] w w' := by
  have HA := Lib.hid ha
  obtain ⟨a, len, cap, rfl, hlc, hcm, _⟩ := ha
  by_cases hbig : 1048576 < len
  · have hb : (1048576 : Int) < (len : Int) := by omega
    clear hbig
    go_enter Try.func10, Try.ntmps10
    go_wp2
    go_ret
    exact ⟨rfl, Kept.refl _ _⟩
  have hb : ¬ (1048576 : Int) < (len : Int) := by omega
  clear hbig
  go_enter Try.func10, Try.ntmps10
  go_wp2_with fail
  refine (drawFireStep_any _ _ HA.out).mono ?_
  rintro e w1 ⟨u, xs, v, ys, c0, rfl, hc3, hc5, hs, ht, hl1, hl2, hk⟩
  have S1 := Lib.hid hs
  have T1 := Lib.hid ht
  have HK := Lib.hid hk
  clear hk hb
  by_cases ho : Nt.fireB xs c0 ys = true
  · obtain ⟨ns, c, ks, rfl, rfl, rfl, ok, st, hl⟩ := Nt.fireB_ok ho
    obtain ⟨n, hn⟩ : ∃ n, n = ks.length := ⟨_, rfl⟩
    have hp := st.some
    have h6 := st.few
    have c3 := st.c3
    have c5 := st.c5
    have HOK := Lib.hid ok
    have HST := Lib.hid st
    have HL := Lib.hid hl
    have HN := Lib.hid hn
    have HF := Lib.hid (Nt.stepOf_ok ok st hl)
    have HRL : Hid ((Nt.step ns c ks).length = n) := Lib.hid (by rw [Nt.step_length, hn])
    have HYL : Hid ((Nt.step ns (c + 1) ks).length = n) := Lib.hid (by rw [Nt.step_length, hn])
    have HMORE := Lib.hid (fun k (hk : k < n) => Nt.step_more (net := ns) st (k := k) (by omega))
    rw [← hn] at hp h6
    have hne0 : ((n : Int) == 0) = false := beq_eq_false_iff_ne.2 (by omega)
    obtain ⟨gS, capS, rfl, hgS, hcS⟩ := hs.row (n := n) (by omega) hp
    obtain ⟨gT, capT, rfl, hgT, hcT⟩ := ht.row hn.symm hp
    have CS1 := Lib.hid hcS
    have lS1 := Lib.hid hgS
    have CT1 := Lib.hid hcT
    have lT1 := Lib.hid hgT
    clear hcS hgS hcT hgT
    clear hs ht ok st hl hn ho hl1 hl2 hc3 hc5
    clear CS1 lS1
    by_cases hc4 : c ≤ 4
    · have HF2 : Hid (Nt.stepOf (Nt.nats ns) ((c : Int) + 1) (Nt.nats ks) = Nt.nats (Nt.step ns (c + 1) ks)) := Lib.hid (Nt.stepOf_ok (c := c + 1) HOK.out (Nt.more_st HST.out hc4) HL.out)
      go_wp2_with fail
      refine (iFireStep_any _ _ _ _ _ _ _ _ S1.out T1.out).mono ?_
      rintro e w2 ⟨u2, rfl, hs, hk⟩
      rw [HF.out] at hs
      have X2 := Lib.hid hs
      obtain ⟨gX, capX, rfl, hgX, hcX⟩ := hs.row HRL.out hp
      have CX2 := Lib.hid hcX
      have lX2 := Lib.hid hgX
      clear hgX hcX
      have S2 := Lib.hid (S1.out.stay hk)
      have T2 := Lib.hid (T1.out.stay hk)
      have CT2 := Lib.hid (fun j (hj : j < n) => (hk.cell (p := ⟨gT, j, none⟩) lT1.out (by simp)).trans (CT1.out j hj))
      have lT2 := Lib.hid (Nat.lt_of_lt_of_le lT1.out hk.size)
      have HK2 := Lib.hid (HK.out.trans hk (by simp))
      clear S1 T1 CT1 lT1 HK
      clear hs hk
      go_wp2_with fail
      refine (iFireStep_any _ _ _ _ _ _ _ _ S2.out T2.out).mono ?_
      rintro e w3 ⟨u3, rfl, hs, hk⟩
      rw [HF2.out] at hs
      have Y3 := Lib.hid hs
      obtain ⟨gY, capY, rfl, hgY, hcY⟩ := hs.row HYL.out hp
      have CY3 := Lib.hid hcY
      have lY3 := Lib.hid hgY
      clear hgY hcY
      have S3 := Lib.hid (S2.out.stay hk)
      have T3 := Lib.hid (T2.out.stay hk)
      have X3 := Lib.hid (X2.out.stay hk)
      have CT3 := Lib.hid (fun j (hj : j < n) => (hk.cell (p := ⟨gT, j, none⟩) lT2.out (by simp)).trans (CT2.out j hj))
      have lT3 := Lib.hid (Nat.lt_of_lt_of_le lT2.out hk.size)
      have CX3 := Lib.hid (fun j (hj : j < n) => (hk.cell (p := ⟨gX, j, none⟩) lX2.out (by simp)).trans (CX2.out j hj))
      have lX3 := Lib.hid (Nat.lt_of_lt_of_le lX2.out hk.size)
      have HK3 := Lib.hid (HK2.out.trans hk (by simp))
      clear S2 T2 X2 CT2 lT2 CX2 lX2 HK2
      clear hs hk
      go_wp2_with fail
      go_loopw [8] (fun i wr => ∃ k : Nat, k ≤ n ∧ i = .int .i64 k ∧ Qt w3 wr) (fun i _ => n - (intOf i).toNat)
      case atStart => exact ⟨0, Nat.zero_le _, rfl, Qt.refl _⟩
      case round =>
        obtain ⟨k, hk, rfl, hq⟩ := hrel
        have HQ := Lib.hid hq
        by_cases hlt : k < n
        · have cX := (hq.cell _).trans (CX3.out k hlt)
          have cY := (hq.cell _).trans (CY3.out k hlt)
          have cT := (hq.cell _).trans (CT3.out k hlt)
          obtain ⟨hm1, hm2⟩ := HMORE.out k hlt
          have e1 : IntKind.i64.wrap ((c : Int) - 1) = (c : Int) - 1 := IntWalk.i64_in _ (by omega)
          clear hq
          generalize (Nt.step ns c ks).getD k 0 = a at *
          generalize (Nt.step ns (c + 1) ks).getD k 0 = b at *
          generalize ks.getD k 0 = s at *
          have HM1 := Lib.hid hm1
          have HM2 := Lib.hid hm2
          clear hm1 hm2
          by_cases ha : a = 1
          · have hb : b = 1 := HM1.out.1 ha
            subst ha
            subst hb
            by_cases hs : s + 1 < c
            · have d1 : decide ((s : Int) < (c : Int) - 1) = true := dec_of (by omega)
              clear hs
              go_wp2_with fail
              go_quiet (fail)
              go_wp2
              go_roundw
              case rel => exact ⟨k + 1, by omega, by go_num, HQ.out.draw _⟩
              case measure => simp [intOf]; omega
            · have d1 : decide ((s : Int) < (c : Int) - 1) = false := dec_not (by omega)
              clear hs
              go_wp2_with fail
              go_quiet (fail)
              go_wp2
              go_roundw
              case rel => exact ⟨k + 1, by omega, by go_num, HQ.out.draw _⟩
              case measure => simp [intOf]; omega
          · have hb : ¬ b = 1 := fun e => ha (HM1.out.2 e)
            have da : ((a : Int) == 1) = false := by simp; omega
            have db : ((b : Int) == 1) = false := by simp; omega
            by_cases hs : s + 1 < c
            · have hab := HM2.out hs
              subst hab
              have d1 : decide ((s : Int) < (c : Int) - 1) = true := dec_of (by omega)
              have d2 : ((a : Int) != (a : Int)) = false := by simp
              clear hs ha hb
              go_wp2_with fail
              go_quiet (fail)
              go_wp2
              go_roundw
              case rel => exact ⟨k + 1, by omega, by go_num, HQ.out.draw _⟩
              case measure => simp [intOf]; omega
            · have d1 : decide ((s : Int) < (c : Int) - 1) = false := dec_not (by omega)
              clear hs ha hb
              go_wp2_with fail
              go_quiet (fail)
              go_wp2
              go_roundw
              case rel => exact ⟨k + 1, by omega, by go_num, HQ.out.draw _⟩
              case measure => simp [intOf]; omega
        · have hk' : k = n := by omega
          subst hk'
          clear hq hlt
          go_wp2_with fail
          refine (alive_any _).mono ?_
          rintro e wz ⟨rfl, hk⟩
          have HKZ := Lib.hid ((HK3.out.trans HQ.out.kept (by simp)).trans hk (by simp))
          clear hk
          go_wp2
          go_ret
          exact ⟨rfl, HKZ.out⟩
    · have d5 : (5 : Int) ≤ (c : Int) := by omega
      clear hc4
      go_wp2_with fail
      refine (iFireStep_any _ _ _ _ _ _ _ _ S1.out T1.out).mono ?_
      rintro e w2 ⟨u2, rfl, hs, hk⟩
      rw [HF.out] at hs
      have X2 := Lib.hid hs
      obtain ⟨gX, capX, rfl, hgX, hcX⟩ := hs.row HRL.out hp
      clear hgX hcX
      have S2 := Lib.hid (S1.out.stay hk)
      have T2 := Lib.hid (T1.out.stay hk)
      have CT2 := Lib.hid (fun j (hj : j < n) => (hk.cell (p := ⟨gT, j, none⟩) lT1.out (by simp)).trans (CT1.out j hj))
      have lT2 := Lib.hid (Nat.lt_of_lt_of_le lT1.out hk.size)
      have HK2 := Lib.hid (HK.out.trans hk (by simp))
      clear S1 T1 CT1 lT1 HK
      clear hs hk
      go_wp2_with fail
      refine (alive_any _).mono ?_
      rintro e w3 ⟨rfl, hk⟩
      have S3 := Lib.hid (S2.out.stay hk)
      have T3 := Lib.hid (T2.out.stay hk)
      have X3 := Lib.hid (X2.out.stay hk)
      have CT3 := Lib.hid (fun j (hj : j < n) => (hk.cell (p := ⟨gT, j, none⟩) lT2.out (by simp)).trans (CT2.out j hj))
      have lT3 := Lib.hid (Nat.lt_of_lt_of_le lT2.out hk.size)
      have HK3 := Lib.hid (HK2.out.trans hk (by simp))
      clear S2 T2 X2 CT2 lT2 HK2
      clear hk
      go_wp2
      go_ret
      exact ⟨rfl, HK3.out⟩
  · have ho' : Nt.fireB xs c0 ys = false := by simpa using ho
    have HF := Lib.hid (Nt.stepOf_no ho')
    clear ho'
    obtain ⟨bS, capS, rfl, _, _, _⟩ := hs.any
    obtain ⟨bT, capT, rfl, _, _, _⟩ := ht.any
    clear hs ht ho hl1 hl2 hc3 hc5
    go_wp2_with fail
    refine (iFireStep_any _ _ _ _ _ _ _ _ S1.out T1.out).mono ?_
    rintro e w2 ⟨u2, rfl, hs, hk⟩
    rw [HF.out] at hs
    have X2 := Lib.hid hs
    obtain ⟨bX, capX, rfl, _, _, _⟩ := hs.any
    have S2 := Lib.hid (S1.out.stay hk)
    have T2 := Lib.hid (T1.out.stay hk)
    have HK2 := Lib.hid (HK.out.trans hk (by simp))
    clear S1 T1 HK
    clear hs hk
    go_wp2_with fail
    refine (sFireStep_any _ _ _ _ _ _ _ _ S2.out T2.out).mono ?_
    rintro e w3 ⟨u3, rfl, hs, hk⟩
    rw [HF.out] at hs
    have Y3 := Lib.hid hs
    obtain ⟨bY, capY, rfl, _, _, _⟩ := hs.any
    have S3 := Lib.hid (S2.out.stay hk)
    have T3 := Lib.hid (T2.out.stay hk)
    have X3 := Lib.hid (X2.out.stay hk)
    have HK3 := Lib.hid (HK2.out.trans hk (by simp))
    clear S2 T2 X2 HK2
    clear hs hk
    go_wp2_with fail
    refine (alive_any _).mono ?_
    rintro e w4 ⟨rfl, hk⟩
    have S4 := Lib.hid (S3.out.stay hk)
    have T4 := Lib.hid (T3.out.stay hk)
    have X4 := Lib.hid (X3.out.stay hk)
    have Y4 := Lib.hid (Y3.out.stay hk)
    have HK4 := Lib.hid (HK3.out.trans hk (by simp))
    clear S3 T3 X3 Y3 HK3
    clear hk
    go_wp2
    go_ret
    exact ⟨rfl, HK4.out⟩
end Go.Proofs.Ytahjplaidkibpaa
