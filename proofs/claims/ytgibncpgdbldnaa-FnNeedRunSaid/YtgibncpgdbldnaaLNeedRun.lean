/-
  The law NeedRun, walked.
-/
import Derived.Test.YtgibncpgdbldnaaDE
import Derived.Test.YtgibncpgdbldnaaL1
import Derived.Test.YtgibncpgdbldnaaZP
import Derived.Test.YtgibncpgdbldnaaZM
import Derived.Test.YtgibncpgdbldnaaPureQV
import Derived.Test.YtgibncpgdbldnaaFA
namespace Go.Proofs.Ytgibncpgdbldnaa
open Go.RowKit

set_option maxHeartbeats 4000000 in
set_option maxRecDepth 100000 in
theorem FnNeedRun_calls (w : World) (v : Value) (ha : ArgB w v) :
    Calls Try.prog 8 #[v] w fun e w' => e = .returned (.bool true) ∧ Kept [] w w' := by
  have HA := Lib.hid ha
  obtain ⟨a, len, cap, rfl, hlc, hcm, _⟩ := ha
  by_cases hbig : 1048576 < len
  · have hb : (1048576 : Int) < (len : Int) := by omega
    clear hbig
    go_enter Try.func8, Try.ntmps8
    go_wp2
    go_ret
    exact ⟨rfl, Kept.refl _ _⟩
  have hb : ¬ (1048576 : Int) < (len : Int) := by omega
  clear hbig
  go_enter Try.func8, Try.ntmps8
  go_wp2_with fail
  refine (drawNeedRun_any _ _ HA.out).mono ?_
  rintro e w1 ⟨u, xs, v2, nds, v3, ys, c, st, rfl, _, _, hs, hd, ht, _, _, _, _, _, hk⟩
  have S1 := Lib.hid hs
  have D1 := Lib.hid hd
  have T1 := Lib.hid ht
  have HK := Lib.hid hk
  clear hk
  cases h1 : Nt.nrunB xs c nds ys st
  · have HF : Hid (Nt.nrunOf xs c nds ys st = []) := Lib.hid (by unfold Nt.nrunOf; rw [h1]; rfl)
    clear h1 hb
    obtain ⟨bS, capS, rfl, _, _, _⟩ := hs.any
    obtain ⟨bD, capD, rfl, _, _, _⟩ := hd.any
    obtain ⟨bT, capT, rfl, _, _, _⟩ := ht.any
    clear hs hd ht
    go_wp2_with fail
    refine (iNeedRun_any _ _ _ _ _ _ _ _ _ _ _ _ S1.out D1.out T1.out).mono ?_
    rintro e w2 ⟨u2, rfl, hs, hk⟩
    rw [HF.out] at hs
    have R2 := Lib.hid hs
    obtain ⟨bR, capR, rfl, _, _, _⟩ := hs.any
    have S2 := Lib.hid (S1.out.stay hk)
    have D2 := Lib.hid (D1.out.stay hk)
    have T2 := Lib.hid (T1.out.stay hk)
    have HK2 := Lib.hid (HK.out.trans hk (by simp))
    clear S1 D1 T1 HK
    clear hs hk
    go_wp2_with fail
    refine (sNeedRun_any _ _ _ _ _ _ _ _ _ _ _ _ S2.out D2.out T2.out).mono ?_
    rintro e w3 ⟨u3, rfl, hs, hk⟩
    rw [HF.out] at hs
    have Y3 := Lib.hid hs
    obtain ⟨bY, capY, rfl, _, _, _⟩ := hs.any
    have S3 := Lib.hid (S2.out.stay hk)
    have D3 := Lib.hid (D2.out.stay hk)
    have T3 := Lib.hid (T2.out.stay hk)
    have R3 := Lib.hid (R2.out.stay hk)
    have HK3 := Lib.hid (HK2.out.trans hk (by simp))
    clear S2 D2 T2 R2 HK2
    clear hs hk
    go_wp2_with fail
    refine (sameInts_any _ _ _ _ _ _ _ R3.out Y3.out).mono ?_
    rintro e w4 ⟨rfl, hq⟩
    rw [dec_of rfl]
    have hk := hq.kept
    have S4 := Lib.hid (S3.out.stay hk)
    have D4 := Lib.hid (D3.out.stay hk)
    have T4 := Lib.hid (T3.out.stay hk)
    have R4 := Lib.hid (R3.out.stay hk)
    have Y4 := Lib.hid (Y3.out.stay hk)
    have HK4 := Lib.hid (HK3.out.trans hk (by simp))
    clear S3 D3 T3 R3 Y3 HK3
    clear hk hq
    clear Y4
    go_wp2_with fail
    refine (alive_any _).mono ?_
    rintro e w5 ⟨rfl, hk⟩
    have S5 := Lib.hid (S4.out.stay hk)
    have D5 := Lib.hid (D4.out.stay hk)
    have T5 := Lib.hid (T4.out.stay hk)
    have R5 := Lib.hid (R4.out.stay hk)
    have HK5 := Lib.hid (HK4.out.trans hk (by simp))
    clear S4 D4 T4 R4 HK4
    clear hk
    go_wp2
    go_ret
    exact ⟨rfl, HK5.out⟩
  · obtain ⟨h2, h3⟩ : Nt.nstB xs c nds ys = true ∧ Nt.stepsB st = true := by
      unfold Nt.nrunB at h1
      rw [Bool.and_eq_true] at h1
      exact h1
    obtain ⟨ns, c, nd, ks, rfl, rfl, rfl, rfl, ok, hn, hst, hl⟩ := Nt.nstB_ok h2
    obtain ⟨t, rfl, ht60⟩ := Nt.stepsB_ok h3
    obtain ⟨n, hnn⟩ : ∃ n, n = ns.length := ⟨_, rfl⟩
    have hp : 0 < n := by have := ok.some; omega
    have h6n : n ≤ 6 := by have := ok.few; omega
    have HF := Lib.hid (Nt.nrunOf_ok ok hn hst hl ht60)
    have HF1 : Hid (Nt.nrunOf (Nt.nats ns) (c : Int) (Nt.nats nd) (Nt.nats ks) ((t / 2 : Nat) : Int) = Nt.nats (Nt.needRun ns nd c ks (t / 2))) := Lib.hid (Nt.nrunOf_ok ok hn hst hl (by omega))
    have HF2 : Hid (Nt.nrunOf (Nt.nats ns) (c : Int) (Nt.nats nd) (Nt.nats (Nt.needRun ns nd c ks (t / 2))) ((t - t / 2 : Nat) : Int) = Nt.nats (Nt.needRun ns nd c ks t)) := Lib.hid (by
      rw [Nt.nrunOf_ok ok hn (Nt.needRun_st ns nd hst _) (by rw [Nt.needRun_length]; exact hl) (by omega), ← Nt.needRun_add, show t / 2 + (t - t / 2) = t by omega])
    have HF3 : Hid (Nt.nrunOf (Nt.nats ns) (c : Int) (Nt.nats (Nt.ones n)) (Nt.nats ks) (t : Int) = Nt.nats (Nt.run ns c ks t)) := Lib.hid (by
      rw [hnn, Nt.nrunOf_ok ok (Nt.Nd.ones ns) hst hl ht60, Nt.needRun_ones hl])
    have HF4 := Lib.hid (Nt.runOf_ok ok hst hl ht60)
    have HFL : Hid ((Nt.needRun ns nd c ks t).length = n) := Lib.hid (by rw [Nt.needRun_length, hl, hnn])
    have HFL1 : Hid ((Nt.needRun ns nd c ks (t / 2)).length = n) := Lib.hid (by rw [Nt.needRun_length, hl, hnn])
    have hne0 : ((n : Int) == 0) = false := beq_eq_false_iff_ne.2 (by omega)
    obtain ⟨gS, capS, rfl, _, _⟩ := hs.row (n := n) hnn.symm hp
    obtain ⟨gD, capD, rfl, _, _⟩ := hd.row (n := n) (by rw [hn.len, hnn]) hp
    obtain ⟨gT, capT, rfl, _, _⟩ := ht.row (n := n) (by rw [hl, hnn]) hp
    have hth : t / 2 ≤ t := Nat.div_le_self t 2
    have HF1D := Lib.hid (tdiv_nat t 2)
    have HF5 : Hid ((t : Int) / 2 = ((t / 2 : Nat) : Int)) := Lib.hid (by omega)
    clear hs hd ht h1 h2 h3 hb ok hn hst hl hnn
    generalize t / 2 = th at *
    have f3 : wrap64 (th : Int) = (th : Int) := IntWalk.wrap64_in _ (by omega)
    have F3 := Lib.hid f3
    clear f3
    have f4 : IntKind.i64.wrap (th : Int) = (th : Int) := IntWalk.i64_in _ (by omega)
    have F4 := Lib.hid f4
    clear f4
    have f2 : IntKind.i64.wrap ((t : Int) - (th : Int)) = ((t - th : Nat) : Int) := by rw [IntWalk.i64_in _ (by omega)]; omega
    have f1 := HF1D.out
    have f5 := HF5.out
    have f3 := F3.out
    have f4 := F4.out
    generalize t - th = tr at *
    go_wp2_with fail
    refine (iNeedRun_any _ _ _ _ _ _ _ _ _ _ _ _ S1.out D1.out T1.out).mono ?_
    rintro e w2 ⟨u2, rfl, hs, hk⟩
    rw [HF.out] at hs
    have R2 := Lib.hid hs
    obtain ⟨gR, capR, rfl, hgR, hcR⟩ := hs.row HFL.out hp
    clear hgR hcR
    have S2 := Lib.hid (S1.out.stay hk)
    have D2 := Lib.hid (D1.out.stay hk)
    have T2 := Lib.hid (T1.out.stay hk)
    have HK2 := Lib.hid (HK.out.trans hk (by simp))
    clear S1 D1 T1 HK
    clear hs hk
    go_wp2_with fail
    refine (sNeedRun_any _ _ _ _ _ _ _ _ _ _ _ _ S2.out D2.out T2.out).mono ?_
    rintro e w3 ⟨u3, rfl, hs, hk⟩
    rw [HF.out] at hs
    have Y3 := Lib.hid hs
    obtain ⟨bY, capY, rfl, _, _, _⟩ := hs.any
    have S3 := Lib.hid (S2.out.stay hk)
    have D3 := Lib.hid (D2.out.stay hk)
    have T3 := Lib.hid (T2.out.stay hk)
    have R3 := Lib.hid (R2.out.stay hk)
    have HK3 := Lib.hid (HK2.out.trans hk (by simp))
    clear S2 D2 T2 R2 HK2
    clear hs hk
    go_wp2_with fail
    refine (sameInts_any _ _ _ _ _ _ _ R3.out Y3.out).mono ?_
    rintro e w4 ⟨rfl, hq⟩
    rw [dec_of rfl]
    have hk := hq.kept
    have S4 := Lib.hid (S3.out.stay hk)
    have D4 := Lib.hid (D3.out.stay hk)
    have T4 := Lib.hid (T3.out.stay hk)
    have R4 := Lib.hid (R3.out.stay hk)
    have Y4 := Lib.hid (Y3.out.stay hk)
    have HK4 := Lib.hid (HK3.out.trans hk (by simp))
    clear S3 D3 T3 R3 Y3 HK3
    clear hk hq
    clear Y4
    go_wp2_with fail
    have HQ0 : Hid (Sl (w4.alloc (.cells #[] 3)) w4.heap.size (.slice (some ⟨w4.heap.size, 0, none⟩) 0 0) (Nt.nats (Nt.ones 0))) := Lib.hid (Sl.empty3 w4)
    go_loopw [9, 10] (fun u i wr => ∃ k : Nat, k ≤ n ∧ i = .int .i64 k ∧ Sl wr w4.heap.size u (Nt.nats (Nt.ones k)) ∧ Kept [] w4 wr) (fun _ i _ => n - (intOf i).toNat)
    case atStart => exact ⟨0, Nat.zero_le _, rfl, HQ0.out, (Kept.refl _ _).alloc _⟩
    case round =>
      clear HQ0
      obtain ⟨k, hk, rfl, hsl, hkept⟩ := hrel
      have HSL := Lib.hid hsl
      have HK9 := Lib.hid hkept
      have hsz := hkept.size
      by_cases hlt : k < n
      · have HL : Hid ((Nt.nats (Nt.ones k)).length ≤ 1000000) := Lib.hid (by rw [Nt.nats_length, Nt.ones_length]; omega)
        clear hsl hkept
        go_wp2_with (at_builtin; refine app_int _ rfl _ _ rfl w4.heap.size _ _ HSL.out rfl rfl HL.out (by omega) ?_; intro u' w9 hs9 hk9; have HS9 := Lib.hid hs9; have HK10 := Lib.hid (HK9.out.own hk9 (fun g hg => (HSL.out.block hg).1)); clear hs9 hk9)
        go_roundw
        case rel => exact ⟨k + 1, by omega, by go_num, HS9.out.val rfl (Nt.ones_more k), HK10.out⟩
        case measure => simp [intOf]; omega
      · have hk' : n = k := by omega
        subst hk'
        have hQL : (Nt.nats (Nt.ones (n))).length = n := by rw [Nt.nats_length, Nt.ones_length]
        have hQQ := HSL.out
        obtain ⟨gQ, capQ, rfl, _, _⟩ := hQQ.shape (n := n) hQL hp
        have NQ := Lib.hid hQQ
        have hk := HK9.out
        clear hlt hsz HSL HK9 hkept hQL hQQ hsl
        obtain ⟨w30, hw30⟩ : ∃ w30, w30 = wr := ⟨_, rfl⟩
        subst hw30
        have S30 := Lib.hid (S4.out.stay hk)
        have D30 := Lib.hid (D4.out.stay hk)
        have T30 := Lib.hid (T4.out.stay hk)
        have R30 := Lib.hid (R4.out.stay hk)
        have HK30 := Lib.hid (HK4.out.trans hk (by simp))
        clear S4 D4 T4 R4 HK4
        clear hk
        go_wp2_with fail
        refine (iNeedRun_any _ _ _ _ _ _ _ _ _ _ _ _ S30.out D30.out T30.out).mono ?_
        rintro e w31 ⟨u31, rfl, hs, hk⟩
        rw [HF1.out] at hs
        have H31 := Lib.hid hs
        obtain ⟨gH, capH, rfl, hgH, hcH⟩ := hs.row HFL1.out hp
        clear hgH hcH
        have S31 := Lib.hid (S30.out.stay hk)
        have D31 := Lib.hid (D30.out.stay hk)
        have T31 := Lib.hid (T30.out.stay hk)
        have R31 := Lib.hid (R30.out.stay hk)
        have Q31 := Lib.hid (NQ.out.stay hk)
        have HK31 := Lib.hid (HK30.out.trans hk (by simp))
        clear S30 D30 T30 R30 NQ HK30
        clear hs hk
        go_wp2_with fail
        refine (iNeedRun_any _ _ _ _ _ _ _ _ _ _ _ _ S31.out D31.out H31.out).mono ?_
        rintro e w32 ⟨u32, rfl, hs, hk⟩
        rw [HF2.out] at hs
        have M32 := Lib.hid hs
        obtain ⟨bM, capM, rfl, _, _, _⟩ := hs.any
        have S32 := Lib.hid (S31.out.stay hk)
        have D32 := Lib.hid (D31.out.stay hk)
        have T32 := Lib.hid (T31.out.stay hk)
        have R32 := Lib.hid (R31.out.stay hk)
        have Q32 := Lib.hid (Q31.out.stay hk)
        have H32 := Lib.hid (H31.out.stay hk)
        have HK32 := Lib.hid (HK31.out.trans hk (by simp))
        clear S31 D31 T31 R31 Q31 H31 HK31
        clear hs hk
        go_wp2_with fail
        refine (sameInts_any _ _ _ _ _ _ _ M32.out R32.out).mono ?_
        rintro e w33 ⟨rfl, hq⟩
        rw [dec_of rfl]
        have hk := hq.kept
        have S33 := Lib.hid (S32.out.stay hk)
        have D33 := Lib.hid (D32.out.stay hk)
        have T33 := Lib.hid (T32.out.stay hk)
        have R33 := Lib.hid (R32.out.stay hk)
        have Q33 := Lib.hid (Q32.out.stay hk)
        have H33 := Lib.hid (H32.out.stay hk)
        have M33 := Lib.hid (M32.out.stay hk)
        have HK33 := Lib.hid (HK32.out.trans hk (by simp))
        clear S32 D32 T32 R32 Q32 H32 M32 HK32
        clear hk hq
        clear M33
        clear R33
        go_wp2_with fail
        refine (iNeedRun_any _ _ _ _ _ _ _ _ _ _ _ _ S33.out Q33.out T33.out).mono ?_
        rintro e w34 ⟨u34, rfl, hs, hk⟩
        rw [HF3.out] at hs
        have N34 := Lib.hid hs
        obtain ⟨bN, capN, rfl, _, _, _⟩ := hs.any
        have S34 := Lib.hid (S33.out.stay hk)
        have D34 := Lib.hid (D33.out.stay hk)
        have T34 := Lib.hid (T33.out.stay hk)
        have Q34 := Lib.hid (Q33.out.stay hk)
        have H34 := Lib.hid (H33.out.stay hk)
        have HK34 := Lib.hid (HK33.out.trans hk (by simp))
        clear S33 D33 T33 Q33 H33 HK33
        clear hs hk
        go_wp2_with fail
        refine (iFireRun_any _ _ _ _ _ _ _ _ _ S34.out T34.out).mono ?_
        rintro e w35 ⟨u35, rfl, hs, hk⟩
        rw [HF4.out] at hs
        have O35 := Lib.hid hs
        obtain ⟨bO, capO, rfl, _, _, _⟩ := hs.any
        have S35 := Lib.hid (S34.out.stay hk)
        have D35 := Lib.hid (D34.out.stay hk)
        have T35 := Lib.hid (T34.out.stay hk)
        have Q35 := Lib.hid (Q34.out.stay hk)
        have H35 := Lib.hid (H34.out.stay hk)
        have N35 := Lib.hid (N34.out.stay hk)
        have HK35 := Lib.hid (HK34.out.trans hk (by simp))
        clear S34 D34 T34 Q34 H34 N34 HK34
        clear hs hk
        go_wp2_with fail
        refine (sameInts_any _ _ _ _ _ _ _ N35.out O35.out).mono ?_
        rintro e w36 ⟨rfl, hq⟩
        rw [dec_of rfl]
        have hk := hq.kept
        have S36 := Lib.hid (S35.out.stay hk)
        have D36 := Lib.hid (D35.out.stay hk)
        have T36 := Lib.hid (T35.out.stay hk)
        have Q36 := Lib.hid (Q35.out.stay hk)
        have H36 := Lib.hid (H35.out.stay hk)
        have N36 := Lib.hid (N35.out.stay hk)
        have O36 := Lib.hid (O35.out.stay hk)
        have HK36 := Lib.hid (HK35.out.trans hk (by simp))
        clear S35 D35 T35 Q35 H35 N35 O35 HK35
        clear hk hq
        go_wp2
        go_ret
        exact ⟨rfl, HK36.out⟩
end Go.Proofs.Ytgibncpgdbldnaa
