/-
  The law NeedStep, walked.
-/
import Derived.Test.YtgibncpgdbldnaaDE
import Derived.Test.YtgibncpgdbldnaaL1
import Derived.Test.YtgibncpgdbldnaaZP
import Derived.Test.YtgibncpgdbldnaaZM
import Derived.Test.YtgibncpgdbldnaaPureQV
import Derived.Test.YtgibncpgdbldnaaFA
namespace Go.Proofs.Ytgibncpgdbldnaa
open Go.RowKit

set_option maxHeartbeats 4000000 in
set_option maxRecDepth 100000 in
theorem FnNeedStep_calls (w : World) (v : Value) (ha : ArgB w v) :
    Calls Try.prog 4 #[v] w fun e w' => e = .returned (.bool true) ∧ Kept [] w w' := by
  have HA := Lib.hid ha
  obtain ⟨a, len, cap, rfl, hlc, hcm, _⟩ := ha
  by_cases hbig : 1048576 < len
  · have hb : (1048576 : Int) < (len : Int) := by omega
    clear hbig
    go_enter Try.func4, Try.ntmps4
    go_wp2
    go_ret
    exact ⟨rfl, Kept.refl _ _⟩
  have hb : ¬ (1048576 : Int) < (len : Int) := by omega
  clear hbig
  go_enter Try.func4, Try.ntmps4
  go_wp2_with fail
  refine (drawNeedStep_any _ _ HA.out).mono ?_
  rintro e w1 ⟨u, xs, v2, nds, v3, ys, c, rfl, _, _, hs, hd, ht, _, _, _, hk⟩
  have S1 := Lib.hid hs
  have D1 := Lib.hid hd
  have T1 := Lib.hid ht
  have HK := Lib.hid hk
  clear hk
  cases h1 : Nt.nstB xs c nds ys
  · have HF := Lib.hid (Nt.nstOf_no h1)
    clear h1 hb
    obtain ⟨bS, capS, rfl, _, _, _⟩ := hs.any
    obtain ⟨bD, capD, rfl, _, _, _⟩ := hd.any
    obtain ⟨bT, capT, rfl, _, _, _⟩ := ht.any
    clear hs hd ht
    go_wp2_with fail
    refine (iNeedStep_any _ _ _ _ _ _ _ _ _ _ _ S1.out D1.out T1.out).mono ?_
    rintro e w2 ⟨u2, rfl, hs, hk⟩
    rw [HF.out] at hs
    have R2 := Lib.hid hs
    obtain ⟨bR, capR, rfl, _, _, _⟩ := hs.any
    have S2 := Lib.hid (S1.out.stay hk)
    have D2 := Lib.hid (D1.out.stay hk)
    have T2 := Lib.hid (T1.out.stay hk)
    have HK2 := Lib.hid (HK.out.trans hk (by simp))
    clear S1 D1 T1 HK
    clear hs hk
    go_wp2_with fail
    refine (sNeedStep_any _ _ _ _ _ _ _ _ _ _ _ S2.out D2.out T2.out).mono ?_
    rintro e w3 ⟨u3, rfl, hs, hk⟩
    rw [HF.out] at hs
    have Y3 := Lib.hid hs
    obtain ⟨bY, capY, rfl, _, _, _⟩ := hs.any
    have S3 := Lib.hid (S2.out.stay hk)
    have D3 := Lib.hid (D2.out.stay hk)
    have T3 := Lib.hid (T2.out.stay hk)
    have R3 := Lib.hid (R2.out.stay hk)
    have HK3 := Lib.hid (HK2.out.trans hk (by simp))
    clear S2 D2 T2 R2 HK2
    clear hs hk
    go_wp2_with fail
    refine (sameInts_any _ _ _ _ _ _ _ R3.out Y3.out).mono ?_
    rintro e w4 ⟨rfl, hq⟩
    rw [dec_of rfl]
    have hk := hq.kept
    have S4 := Lib.hid (S3.out.stay hk)
    have D4 := Lib.hid (D3.out.stay hk)
    have T4 := Lib.hid (T3.out.stay hk)
    have R4 := Lib.hid (R3.out.stay hk)
    have Y4 := Lib.hid (Y3.out.stay hk)
    have HK4 := Lib.hid (HK3.out.trans hk (by simp))
    clear S3 D3 T3 R3 Y3 HK3
    clear hk hq
    clear Y4
    go_wp2_with fail
    refine (alive_any _).mono ?_
    rintro e w5 ⟨rfl, hk⟩
    have S5 := Lib.hid (S4.out.stay hk)
    have D5 := Lib.hid (D4.out.stay hk)
    have T5 := Lib.hid (T4.out.stay hk)
    have R5 := Lib.hid (R4.out.stay hk)
    have HK5 := Lib.hid (HK4.out.trans hk (by simp))
    clear S4 D4 T4 R4 HK4
    clear hk
    go_wp2
    go_ret
    exact ⟨rfl, HK5.out⟩
  · obtain ⟨ns, c, nd, ks, rfl, rfl, rfl, rfl, ok, hn, hst, hl⟩ := Nt.nstB_ok h1
    obtain ⟨n, hnn⟩ : ∃ n, n = ns.length := ⟨_, rfl⟩
    have hp : 0 < n := by have := ok.some; omega
    have h6n : n ≤ 6 := by have := ok.few; omega
    have HF := Lib.hid (Nt.nstOf_ok ok hn hst hl)
    have HF3 : Hid (Nt.nstOf (Nt.nats ns) (c : Int) (Nt.nats (Nt.ones n)) (Nt.nats ks) = Nt.nats (Nt.step ns c ks)) := Lib.hid (by
      rw [hnn, Nt.nstOf_ok ok (Nt.Nd.ones ns) hst hl, Nt.need_ones hl])
    have HF4 := Lib.hid (Nt.stepOf_ok ok hst hl)
    have HFL : Hid ((Nt.needStep ns nd c ks).length = n) := Lib.hid (by rw [Nt.needStep_length, hl, hnn])
    have HFL1 : Hid ((Nt.step ns c ks).length = n) := Lib.hid (by rw [Nt.step_length, hl, hnn])
    have HIMP : Hid (∀ k, k < n → (Nt.needStep ns nd c ks).getD k 0 = 1 → (Nt.step ns c ks).getD k 0 = 1) := Lib.hid (fun k hk e => Nt.need_fires hst hl hn.lo (by omega) e)
    have HST := Lib.hid (Nt.st_stB (Nt.needStep_st ns nd hst))
    have hne0 : ((n : Int) == 0) = false := beq_eq_false_iff_ne.2 (by omega)
    have hee : ((n : Int) == (n : Int)) = true := beq_self_eq_true _
    obtain ⟨gS, capS, rfl, _, _⟩ := hs.row (n := n) hnn.symm hp
    obtain ⟨gD, capD, rfl, _, _⟩ := hd.row (n := n) (by rw [hn.len, hnn]) hp
    obtain ⟨gT, capT, rfl, _, _⟩ := ht.row (n := n) (by rw [hl, hnn]) hp
    clear hs hd ht h1 hb ok hn hst hl hnn
    go_wp2_with fail
    refine (iNeedStep_any _ _ _ _ _ _ _ _ _ _ _ S1.out D1.out T1.out).mono ?_
    rintro e w2 ⟨u2, rfl, hs, hk⟩
    rw [HF.out] at hs
    have R2 := Lib.hid hs
    obtain ⟨gR, capR, rfl, hgR, hcR⟩ := hs.row HFL.out hp
    have CR2 := Lib.hid hcR
    have lR2 := Lib.hid hgR
    clear hgR hcR
    have S2 := Lib.hid (S1.out.stay hk)
    have D2 := Lib.hid (D1.out.stay hk)
    have T2 := Lib.hid (T1.out.stay hk)
    have HK2 := Lib.hid (HK.out.trans hk (by simp))
    clear S1 D1 T1 HK
    clear hs hk
    go_wp2_with fail
    refine (sNeedStep_any _ _ _ _ _ _ _ _ _ _ _ S2.out D2.out T2.out).mono ?_
    rintro e w3 ⟨u3, rfl, hs, hk⟩
    rw [HF.out] at hs
    have Y3 := Lib.hid hs
    obtain ⟨bY, capY, rfl, _, _, _⟩ := hs.any
    have S3 := Lib.hid (S2.out.stay hk)
    have D3 := Lib.hid (D2.out.stay hk)
    have T3 := Lib.hid (T2.out.stay hk)
    have R3 := Lib.hid (R2.out.stay hk)
    have CR3 := Lib.hid (fun j (hj : j < n) => (hk.cell (p := ⟨gR, j, none⟩) lR2.out (by simp)).trans (CR2.out j hj))
    have lR3 := Lib.hid (Nat.lt_of_lt_of_le lR2.out hk.size)
    have HK3 := Lib.hid (HK2.out.trans hk (by simp))
    clear S2 D2 T2 R2 CR2 lR2 HK2
    clear hs hk
    go_wp2_with fail
    refine (sameInts_any _ _ _ _ _ _ _ R3.out Y3.out).mono ?_
    rintro e w4 ⟨rfl, hq⟩
    rw [dec_of rfl]
    have hk := hq.kept
    have S4 := Lib.hid (S3.out.stay hk)
    have D4 := Lib.hid (D3.out.stay hk)
    have T4 := Lib.hid (T3.out.stay hk)
    have R4 := Lib.hid (R3.out.stay hk)
    have Y4 := Lib.hid (Y3.out.stay hk)
    have CR4 := Lib.hid (fun j (hj : j < n) => (hk.cell (p := ⟨gR, j, none⟩) lR3.out (by simp)).trans (CR3.out j hj))
    have lR4 := Lib.hid (Nat.lt_of_lt_of_le lR3.out hk.size)
    have HK4 := Lib.hid (HK3.out.trans hk (by simp))
    clear S3 D3 T3 R3 Y3 CR3 lR3 HK3
    clear hk hq
    clear Y4
    go_wp2_with fail
    have HQ0 : Hid (Sl (w4.alloc (.cells #[] 3)) w4.heap.size (.slice (some ⟨w4.heap.size, 0, none⟩) 0 0) (Nt.nats (Nt.ones 0))) := Lib.hid (Sl.empty3 w4)
    go_loopw [8, 9] (fun u i wr => ∃ k : Nat, k ≤ n ∧ i = .int .i64 k ∧ Sl wr w4.heap.size u (Nt.nats (Nt.ones k)) ∧ Kept [] w4 wr) (fun _ i _ => n - (intOf i).toNat)
    case atStart => exact ⟨0, Nat.zero_le _, rfl, HQ0.out, (Kept.refl _ _).alloc _⟩
    case round =>
      clear HQ0
      obtain ⟨k, hk, rfl, hsl, hkept⟩ := hrel
      have HSL := Lib.hid hsl
      have HK9 := Lib.hid hkept
      have hsz := hkept.size
      by_cases hlt : k < n
      · have HL : Hid ((Nt.nats (Nt.ones k)).length ≤ 1000000) := Lib.hid (by rw [Nt.nats_length, Nt.ones_length]; omega)
        clear hsl hkept
        go_wp2_with (at_builtin; refine app_int _ rfl _ _ rfl w4.heap.size _ _ HSL.out rfl rfl HL.out (by omega) ?_; intro u' w9 hs9 hk9; have HS9 := Lib.hid hs9; have HK10 := Lib.hid (HK9.out.own hk9 (fun g hg => (HSL.out.block hg).1)); clear hs9 hk9)
        go_roundw
        case rel => exact ⟨k + 1, by omega, by go_num, HS9.out.val rfl (Nt.ones_more k), HK10.out⟩
        case measure => simp [intOf]; omega
      · have hk' : n = k := by omega
        subst hk'
        have hQL : (Nt.nats (Nt.ones (n))).length = n := by rw [Nt.nats_length, Nt.ones_length]
        have hQQ := HSL.out
        obtain ⟨gQ, capQ, rfl, _, _⟩ := hQQ.shape (n := n) hQL hp
        have NQ := Lib.hid hQQ
        have hk := HK9.out
        clear hlt hsz HSL HK9 hkept hQL hQQ hsl
        obtain ⟨w30, hw30⟩ : ∃ w30, w30 = wr := ⟨_, rfl⟩
        subst hw30
        have S30 := Lib.hid (S4.out.stay hk)
        have D30 := Lib.hid (D4.out.stay hk)
        have T30 := Lib.hid (T4.out.stay hk)
        have R30 := Lib.hid (R4.out.stay hk)
        have CR30 := Lib.hid (fun j (hj : j < n) => (hk.cell (p := ⟨gR, j, none⟩) lR4.out (by simp)).trans (CR4.out j hj))
        have lR30 := Lib.hid (Nat.lt_of_lt_of_le lR4.out hk.size)
        have HK30 := Lib.hid (HK4.out.trans hk (by simp))
        clear S4 D4 T4 R4 CR4 lR4 HK4
        clear hk
        go_wp2_with fail
        refine (iFireStep_any _ _ _ _ _ _ _ _ S30.out T30.out).mono ?_
        rintro e w31 ⟨u31, rfl, hs, hk⟩
        rw [HF4.out] at hs
        have F31 := Lib.hid hs
        obtain ⟨gF, capF, rfl, hgF, hcF⟩ := hs.row HFL1.out hp
        have CF31 := Lib.hid hcF
        have lF31 := Lib.hid hgF
        clear hgF hcF
        have S31 := Lib.hid (S30.out.stay hk)
        have D31 := Lib.hid (D30.out.stay hk)
        have T31 := Lib.hid (T30.out.stay hk)
        have R31 := Lib.hid (R30.out.stay hk)
        have Q31 := Lib.hid (NQ.out.stay hk)
        have CR31 := Lib.hid (fun j (hj : j < n) => (hk.cell (p := ⟨gR, j, none⟩) lR30.out (by simp)).trans (CR30.out j hj))
        have lR31 := Lib.hid (Nat.lt_of_lt_of_le lR30.out hk.size)
        have HK31 := Lib.hid (HK30.out.trans hk (by simp))
        clear S30 D30 T30 R30 NQ CR30 lR30 HK30
        clear hs hk
        go_wp2_with fail
        go_loop [11] (fun i => ∃ k : Nat, k ≤ n ∧ i = .int .i64 k) (fun i => n - (intOf i).toNat)
        case atStart => exact ⟨0, Nat.zero_le _, rfl⟩
        case round =>
          obtain ⟨k, hk, rfl⟩ := hrel
          by_cases hlt : k < n
          · have kR := CR31.out k hlt
            have kF := CF31.out k hlt
            have himp := HIMP.out k hlt
            generalize (Nt.needStep ns nd c ks).getD k 0 = x at *
            generalize (Nt.step ns c ks).getD k 0 = y at *
            by_cases hx : x = 1
            · have hy : y = 1 := himp hx
              subst hx
              subst hy
              clear himp
              go_wp2
              go_round
              case rel => exact ⟨k + 1, by omega, by go_num⟩
              case measure => simp [intOf]; omega
            · have d1 : ((x : Int) == 1) = false := beq_eq_false_iff_ne.2 (by omega)
              clear himp hx
              go_wp2
              go_round
              case rel => exact ⟨k + 1, by omega, by go_num⟩
              case measure => simp [intOf]; omega
          · have hk' : n = k := by omega
            subst hk'
            clear hlt hk
            go_wp2_with fail
            refine (iStateOk_any _ _ _ _ _ R31.out).mono ?_
            rintro e w' ⟨rfl, rfl⟩
            rw [HST.out]
            go_wp2_with fail
            refine (iNeedStep_any _ _ _ _ _ _ _ _ _ _ _ S31.out Q31.out T31.out).mono ?_
            rintro e w32 ⟨u32, rfl, hs, hk⟩
            rw [HF3.out] at hs
            have M32 := Lib.hid hs
            obtain ⟨bM, capM, rfl, _, _, _⟩ := hs.any
            have S32 := Lib.hid (S31.out.stay hk)
            have D32 := Lib.hid (D31.out.stay hk)
            have T32 := Lib.hid (T31.out.stay hk)
            have R32 := Lib.hid (R31.out.stay hk)
            have Q32 := Lib.hid (Q31.out.stay hk)
            have F32 := Lib.hid (F31.out.stay hk)
            have HK32 := Lib.hid (HK31.out.trans hk (by simp))
            clear S31 D31 T31 R31 Q31 F31 HK31
            clear hs hk
            go_wp2_with fail
            refine (sameInts_any _ _ _ _ _ _ _ M32.out F32.out).mono ?_
            rintro e w33 ⟨rfl, hq⟩
            rw [dec_of rfl]
            have hk := hq.kept
            have S33 := Lib.hid (S32.out.stay hk)
            have D33 := Lib.hid (D32.out.stay hk)
            have T33 := Lib.hid (T32.out.stay hk)
            have R33 := Lib.hid (R32.out.stay hk)
            have Q33 := Lib.hid (Q32.out.stay hk)
            have F33 := Lib.hid (F32.out.stay hk)
            have M33 := Lib.hid (M32.out.stay hk)
            have HK33 := Lib.hid (HK32.out.trans hk (by simp))
            clear S32 D32 T32 R32 Q32 F32 M32 HK32
            clear hk hq
            go_wp2
            go_ret
            exact ⟨rfl, HK33.out⟩
end Go.Proofs.Ytgibncpgdbldnaa
