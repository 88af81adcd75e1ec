/-
  The law FireParts, walked.
-/
import Derived.Test.YtahjplaidkibpaaD14
import Derived.Test.YtahjplaidkibpaaL1
import Derived.Test.YtahjplaidkibpaaF3
import Derived.Test.YtahjplaidkibpaaN3
namespace Go.Proofs.Ytahjplaidkibpaa
open Go.RowKit

set_option maxHeartbeats 4000000 in
set_option maxRecDepth 100000 in
theorem FnFireParts_calls (w : World) (v : Value) (ha : ArgB w v) :
    Calls Try.prog 8 #[v] w fun e w' => e = .returned (.bool true) ∧ Kept [] w w' := by
  have HA := Lib.hid ha
  obtain ⟨a, len, cap, rfl, hlc, hcm, _⟩ := ha
  by_cases hbig : 1048576 < len
  · have hb : (1048576 : Int) < (len : Int) := by omega
    clear hbig
    go_enter Try.func8, Try.ntmps8
    go_wp2
    go_ret
    exact ⟨rfl, Kept.refl _ _⟩
  have hb : ¬ (1048576 : Int) < (len : Int) := by omega
  clear hbig
  go_enter Try.func8, Try.ntmps8
  go_wp2_with fail
  refine (drawFireStep_any _ _ HA.out).mono ?_
  rintro e w1 ⟨u, xs, v, ys, c0, rfl, hc3, hc5, hs, ht, hl1, hl2, hk⟩
  have S1 := Lib.hid hs
  have T1 := Lib.hid ht
  have HK := Lib.hid hk
  clear hk hb
  by_cases ho : Nt.fireB xs c0 ys = true
  · obtain ⟨ns, c, ks, rfl, rfl, rfl, ok, st, hl⟩ := Nt.fireB_ok ho
    obtain ⟨n, hn⟩ : ∃ n, n = ks.length := ⟨_, rfl⟩
    have hp := st.some
    have h6 := st.few
    have c3 := st.c3
    have c5 := st.c5
    have HOK := Lib.hid ok
    have HST := Lib.hid st
    have HL := Lib.hid hl
    have HN := Lib.hid hn
    have HF := Lib.hid (Nt.stepOf_ok ok st hl)
    have HRL : Hid ((Nt.step ns c ks).length = n) := Lib.hid (by rw [Nt.step_length, hn])
    have HPO := Lib.hid (Nt.partsOf_ok ok)
    have HPL : Hid ((Nt.parts ns).length = n) := Lib.hid (by rw [Nt.parts_length ok]; omega)
    have HAS := Lib.hid (Nt.alone_st (net := ns) st)
    have HAL : Hid ((Nt.alone ns ks).length = n) := Lib.hid (by rw [Nt.alone_length, hn])
    have HAN : Hid ((Nt.alone ns ks).length = ns.length) := Lib.hid (by rw [Nt.alone_length]; exact hl)
    have HSA : Hid (Nt.stepOf (Nt.nats ns) (c : Int) (Nt.nats (Nt.alone ns ks)) = Nt.nats (Nt.step ns c (Nt.alone ns ks))) := Lib.hid (Nt.stepOf_ok ok (Nt.alone_st st) (by rw [Nt.alone_length]; exact hl))
    have HYL : Hid ((Nt.step ns c (Nt.alone ns ks)).length = n) := Lib.hid (by rw [Nt.step_length, Nt.alone_length, hn])
    have HSTEP := Lib.hid (fun k (hk : k < n) => Nt.step_alone (c := c) ok hl (k := k) (by omega))
    have HAG := Lib.hid (fun k (hk : k < n) => Nt.alone_get ns ks (k := k) (by omega))
    have HTK := Lib.hid (fun k (hk : k < n) => Nt.take_more (Nt.alone ns ks) k (by rw [Nt.alone_length]; omega))
    rw [← hn] at hp h6
    have hne0 : ((n : Int) == 0) = false := beq_eq_false_iff_ne.2 (by omega)
    obtain ⟨gS, capS, rfl, hgS, hcS⟩ := hs.row (n := n) (by omega) hp
    obtain ⟨gT, capT, rfl, hgT, hcT⟩ := ht.row hn.symm hp
    have CS1 := Lib.hid hcS
    have lS1 := Lib.hid hgS
    have CT1 := Lib.hid hcT
    have lT1 := Lib.hid hgT
    clear hcS hgS hcT hgT
    clear hs ht ok st hl hn ho hl1 hl2 hc3 hc5
    clear CS1 lS1
    go_wp2_with fail
    refine (iFireStep_any _ _ _ _ _ _ _ _ S1.out T1.out).mono ?_
    rintro e w2 ⟨u2, rfl, hs, hk⟩
    rw [HF.out] at hs
    have X2 := Lib.hid hs
    obtain ⟨gX, capX, rfl, hgX, hcX⟩ := hs.row HRL.out hp
    have CX2 := Lib.hid hcX
    have lX2 := Lib.hid hgX
    clear hgX hcX
    have S2 := Lib.hid (S1.out.stay hk)
    have T2 := Lib.hid (T1.out.stay hk)
    have CT2 := Lib.hid (fun j (hj : j < n) => (hk.cell (p := ⟨gT, j, none⟩) lT1.out (by simp)).trans (CT1.out j hj))
    have lT2 := Lib.hid (Nat.lt_of_lt_of_le lT1.out hk.size)
    have HK2 := Lib.hid (HK.out.trans hk (by simp))
    clear S1 T1 CT1 lT1 HK
    clear hs hk
    go_wp2_with fail
    refine (iParts_any _ _ _ _ S2.out).mono ?_
    rintro e w3 ⟨u3, rfl, hs, hk⟩
    rw [HPO.out] at hs
    have P3 := Lib.hid hs
    obtain ⟨gP, capP, rfl, hgP, hcP⟩ := hs.row HPL.out hp
    have CP3 := Lib.hid hcP
    have lP3 := Lib.hid hgP
    clear hgP hcP
    have S3 := Lib.hid (S2.out.stay hk)
    have T3 := Lib.hid (T2.out.stay hk)
    have X3 := Lib.hid (X2.out.stay hk)
    have CT3 := Lib.hid (fun j (hj : j < n) => (hk.cell (p := ⟨gT, j, none⟩) lT2.out (by simp)).trans (CT2.out j hj))
    have lT3 := Lib.hid (Nat.lt_of_lt_of_le lT2.out hk.size)
    have CX3 := Lib.hid (fun j (hj : j < n) => (hk.cell (p := ⟨gX, j, none⟩) lX2.out (by simp)).trans (CX2.out j hj))
    have lX3 := Lib.hid (Nat.lt_of_lt_of_le lX2.out hk.size)
    have HK3 := Lib.hid (HK2.out.trans hk (by simp))
    clear S2 T2 X2 CT2 lT2 CX2 lX2 HK2
    clear hs hk
    go_wp2_with fail
    go_loopw [8, 9] (fun u i wr => ∃ k : Nat, k ≤ n ∧ i = .int .i64 k ∧ Sl wr w3.heap.size u (Nt.nats ((Nt.alone ns ks).take k)) ∧ Kept [] w3 wr) (fun _ i _ => n - (intOf i).toNat)
    case atStart => exact ⟨0, Nat.zero_le _, rfl, Sl.empty3 w3, (Kept.refl _ _).alloc _⟩
    case round =>
      obtain ⟨k, hk, rfl, hsl, hkept⟩ := hrel
      have HSLW := Lib.hid hsl
      have HKW := Lib.hid hkept
      have hsz := hkept.size
      by_cases hlt : k < n
      · have kP := (hkept.cell (p := ⟨gP, k, none⟩) lP3.out (by simp)).trans (CP3.out k hlt)
        have kT := (hkept.cell (p := ⟨gT, k, none⟩) lT3.out (by simp)).trans (CT3.out k hlt)
        have HT := Lib.hid (HTK.out k hlt)
        have HG := Lib.hid (HAG.out k hlt)
        have HLL : Hid ((Nt.nats ((Nt.alone ns ks).take k)).length ≤ 1000000) := Lib.hid (by rw [Nt.nats_length, List.length_take]; omega)
        clear hsl hkept
        generalize (Nt.parts ns).getD k 0 = p at *
        generalize ks.getD k 0 = s at *
        by_cases h0 : p = 0
        · subst h0
          rw [HG.out, if_pos rfl] at HT
          clear HG
          go_wp2_with (at_builtin; refine app_int _ rfl _ _ rfl w3.heap.size _ _ HSLW.out rfl rfl HLL.out (by omega) ?_; intro u' wx hsx hkx; have HSX := Lib.hid hsx; have HKX := Lib.hid hkx; clear hsx hkx)
          go_roundw
          case rel => exact ⟨k + 1, by omega, by go_num, HSX.out.val rfl HT.out, HKW.out.own HKX.out (fun g hg => (HSLW.out.block hg).1)⟩
          case measure => simp [intOf]; omega
        · have d0 : ((p : Int) == 0) = false := by simp; omega
          rw [HG.out, if_neg h0] at HT
          clear HG h0
          go_wp2_with (at_builtin; refine app_int _ rfl _ _ rfl w3.heap.size _ _ HSLW.out rfl rfl HLL.out (by omega) ?_; intro u' wx hsx hkx; have HSX := Lib.hid hsx; have HKX := Lib.hid hkx; clear hsx hkx)
          go_roundw
          case rel => exact ⟨k + 1, by omega, by go_num, HSX.out.val rfl HT.out, HKW.out.own HKX.out (fun g hg => (HSLW.out.block hg).1)⟩
          case measure => simp [intOf]; omega
      · have hk' : k = n := by omega
        subst hk'
        clear hsl hkept hlt hk hsz
        have HAW : Hid (Sl wr w3.heap.size _ (Nt.nats (Nt.alone ns ks))) := Lib.hid (by have h := HSLW.out; rw [List.take_of_length_le (by rw [HAL.out]; exact Nat.le_refl _)] at h; exact h)
        clear HSLW
        have SW := Lib.hid (S3.out.stay HKW.out)
        go_wp2_with fail
        refine (iFireStep_any _ _ _ _ _ _ _ _ SW.out HAW.out).mono ?_
        rintro e wy ⟨uy, rfl, hs, hk⟩
        rw [HSA.out] at hs
        obtain ⟨gY, capY, rfl, hgY, hcY⟩ := hs.row HYL.out hp
        have CY := Lib.hid hcY
        have HKY := Lib.hid (HKW.out.trans hk (by simp))
        have CPY := Lib.hid (fun j (hj : j < k) => (HKY.out.cell (p := ⟨gP, j, none⟩) lP3.out (by simp)).trans (CP3.out j hj))
        have CXY := Lib.hid (fun j (hj : j < k) => (HKY.out.cell (p := ⟨gX, j, none⟩) lX3.out (by simp)).trans (CX3.out j hj))
        have HKZ := Lib.hid (HK3.out.trans HKY.out (by simp))
        clear hs hk hcY hgY
        go_wp2_with fail
        go_loopw [12] (fun i wr => ∃ j : Nat, j ≤ k ∧ i = .int .i64 j ∧ Qt wy wr) (fun i _ => k - (intOf i).toNat)
        case atStart => exact ⟨0, Nat.zero_le _, rfl, Qt.refl _⟩
        case round =>
          obtain ⟨j, hj, rfl, hq⟩ := hrel
          have HQ := Lib.hid hq
          by_cases hlt : j < k
          · have kP := (hq.cell _).trans (CPY.out j hlt)
            have kX := (hq.cell _).trans (CXY.out j hlt)
            have kY := (hq.cell _).trans (CY.out j hlt)
            have hst := HSTEP.out j hlt
            clear hq
            generalize (Nt.step ns c (Nt.alone ns ks)).getD j 0 = y at *
            generalize (Nt.step ns c ks).getD j 0 = x at *
            generalize (Nt.parts ns).getD j 0 = p at *
            by_cases h0 : p = 0
            · rw [if_pos h0] at hst
              subst h0
              subst hst
              have d1 : ((y : Int) != (y : Int)) = false := by simp
              go_wp2_with fail
              go_quiet (fail)
              go_wp2
              go_roundw
              case rel => exact ⟨j + 1, by omega, by go_num, HQ.out.draw _⟩
              case measure => simp [intOf]; omega
            · rw [if_neg h0] at hst
              subst hst
              have d1 : ((p : Int) == 0) = false := by simp; omega
              have d2 : ((p : Int) != 0) = true := by simp; omega
              clear h0
              go_wp2_with fail
              go_quiet (fail)
              go_wp2
              go_roundw
              case rel => exact ⟨j + 1, by omega, by go_num, HQ.out.draw _⟩
              case measure => simp [intOf]; omega
          · have hj' : j = k := by omega
            subst hj'
            clear hq hlt
            go_wp2_with fail
            refine (alive_any _).mono ?_
            rintro e wz ⟨rfl, hk⟩
            have HKE := Lib.hid ((HKZ.out.trans HQ.out.kept (by simp)).trans hk (by simp))
            clear hk
            go_wp2
            go_ret
            exact ⟨rfl, HKE.out⟩
  · have ho' : Nt.fireB xs c0 ys = false := by simpa using ho
    have HF := Lib.hid (Nt.stepOf_no ho')
    clear ho'
    obtain ⟨bS, capS, rfl, _, _, _⟩ := hs.any
    obtain ⟨bT, capT, rfl, _, _, _⟩ := ht.any
    clear hs ht ho hl1 hl2 hc3 hc5
    go_wp2_with fail
    refine (iFireStep_any _ _ _ _ _ _ _ _ S1.out T1.out).mono ?_
    rintro e w2 ⟨u2, rfl, hs, hk⟩
    rw [HF.out] at hs
    have X2 := Lib.hid hs
    obtain ⟨bX, capX, rfl, _, _, _⟩ := hs.any
    have S2 := Lib.hid (S1.out.stay hk)
    have T2 := Lib.hid (T1.out.stay hk)
    have HK2 := Lib.hid (HK.out.trans hk (by simp))
    clear S1 T1 HK
    clear hs hk
    go_wp2_with fail
    refine (sFireStep_any _ _ _ _ _ _ _ _ S2.out T2.out).mono ?_
    rintro e w3 ⟨u3, rfl, hs, hk⟩
    rw [HF.out] at hs
    have Y3 := Lib.hid hs
    obtain ⟨bY, capY, rfl, _, _, _⟩ := hs.any
    have S3 := Lib.hid (S2.out.stay hk)
    have T3 := Lib.hid (T2.out.stay hk)
    have X3 := Lib.hid (X2.out.stay hk)
    have HK3 := Lib.hid (HK2.out.trans hk (by simp))
    clear S2 T2 X2 HK2
    clear hs hk
    go_wp2_with fail
    refine (alive_any _).mono ?_
    rintro e w4 ⟨rfl, hk⟩
    have S4 := Lib.hid (S3.out.stay hk)
    have T4 := Lib.hid (T3.out.stay hk)
    have X4 := Lib.hid (X3.out.stay hk)
    have Y4 := Lib.hid (Y3.out.stay hk)
    have HK4 := Lib.hid (HK3.out.trans hk (by simp))
    clear S3 T3 X3 Y3 HK3
    clear hk
    go_wp2
    go_ret
    exact ⟨rfl, HK4.out⟩
end Go.Proofs.Ytahjplaidkibpaa
