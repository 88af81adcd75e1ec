/-
  The law NeedsOk, walked.
-/
import Derived.Test.YtgibncpgdbldnaaDE
import Derived.Test.YtgibncpgdbldnaaL1
import Derived.Test.YtgibncpgdbldnaaZP
import Derived.Test.YtgibncpgdbldnaaZM
import Derived.Test.YtgibncpgdbldnaaPureQV
namespace Go.Proofs.Ytgibncpgdbldnaa
open Go.RowKit

set_option maxHeartbeats 4000000 in
set_option maxRecDepth 100000 in
theorem FnNeedsOk_calls (w : World) (v : Value) (ha : ArgB w v) :
    Calls Try.prog 3 #[v] w fun e w' => e = .returned (.bool true) ∧ Kept [] w w' := by
  have HA := Lib.hid ha
  obtain ⟨a, len, cap, rfl, hlc, hcm, _⟩ := ha
  by_cases hbig : 1048576 < len
  · have hb : (1048576 : Int) < (len : Int) := by omega
    clear hbig
    go_enter Try.func3, Try.ntmps3
    go_wp2
    go_ret
    exact ⟨rfl, Kept.refl _ _⟩
  have hb : ¬ (1048576 : Int) < (len : Int) := by omega
  clear hbig
  go_enter Try.func3, Try.ntmps3
  go_wp2_with fail
  refine (drawNeedsOk_any _ _ HA.out).mono ?_
  rintro e w1 ⟨u, xs, v2, nds, rfl, hs, hd, hl, _, hk⟩
  have S1 := Lib.hid hs
  have D1 := Lib.hid hd
  have HK := Lib.hid hk
  clear hk
  cases h1 : Nt.ndB xs nds
  · have HB := Lib.hid h1
    have HO := Lib.hid (Nt.ndB_ones xs)
    obtain ⟨bS, capS, rfl, _, _, _⟩ := hs.any
    obtain ⟨bD, capD, rfl, _, _, _⟩ := hd.any
    generalize hob : Nt.okB xs = o at *
    have HOB := Lib.hid hob
    have d1 : (o == o) = true := by simp
    clear hs hd h1 hb hob
    skip
    go_wp2_with fail
    refine (iNeedsOk_any _ _ _ _ _ _ _ S1.out D1.out).mono ?_
    rintro e w2 ⟨rfl, hk⟩
    rw [HB.out]
    have S2 := Lib.hid (S1.out.stay hk)
    have D2 := Lib.hid (D1.out.stay hk)
    have HK2 := Lib.hid (HK.out.trans hk (by simp))
    clear S1 D1 HK
    clear hk
    go_wp2_with fail
    refine (sNeedsOk_any _ _ _ _ _ _ _ S2.out D2.out).mono ?_
    rintro e w3 ⟨rfl, hq⟩
    rw [HB.out]
    have hk := hq.kept
    have S3 := Lib.hid (S2.out.stay hk)
    have D3 := Lib.hid (D2.out.stay hk)
    have HK3 := Lib.hid (HK2.out.trans hk (by simp))
    clear S2 D2 HK2
    clear hk hq
    go_wp2_with fail
    have HQ0 : Hid (Sl (w3.alloc (.cells #[] 3)) w3.heap.size (.slice (some ⟨w3.heap.size, 0, none⟩) 0 0) (Nt.nats (Nt.ones 0))) := Lib.hid (Sl.empty3 w3)
    go_loopw [6, 7] (fun u i wr => ∃ k : Nat, k ≤ xs.length ∧ i = .int .i64 k ∧ Sl wr w3.heap.size u (Nt.nats (Nt.ones k)) ∧ Kept [] w3 wr) (fun _ i _ => xs.length - (intOf i).toNat)
    case atStart => exact ⟨0, Nat.zero_le _, rfl, HQ0.out, (Kept.refl _ _).alloc _⟩
    case round =>
      clear HQ0
      obtain ⟨k, hk, rfl, hsl, hkept⟩ := hrel
      have HSL := Lib.hid hsl
      have HK9 := Lib.hid hkept
      have hsz := hkept.size
      by_cases hlt : k < xs.length
      · have HL : Hid ((Nt.nats (Nt.ones k)).length ≤ 1000000) := Lib.hid (by rw [Nt.nats_length, Nt.ones_length]; omega)
        clear hsl hkept
        go_wp2_with (at_builtin; refine app_int _ rfl _ _ rfl w3.heap.size _ _ HSL.out rfl rfl HL.out (by omega) ?_; intro u' w9 hs9 hk9; have HS9 := Lib.hid hs9; have HK10 := Lib.hid (HK9.out.own hk9 (fun g hg => (HSL.out.block hg).1)); clear hs9 hk9)
        go_roundw
        case rel => exact ⟨k + 1, by omega, by go_num, HS9.out.val rfl (Nt.ones_more k), HK10.out⟩
        case measure => simp [intOf]; omega
      · have hk' : xs.length = k := by omega
        subst hk'
        have hQL : (Nt.nats (Nt.ones (xs.length))).length = xs.length := by rw [Nt.nats_length, Nt.ones_length]
        have hQQ := HSL.out
        obtain ⟨bQ, capQ, rfl, _, _, _⟩ := hQQ.any
        rw [hQL] at hQQ ⊢
        have NQ := Lib.hid hQQ
        have hk := HK9.out
        clear hlt hsz HSL HK9 hkept hQL hQQ hsl
        obtain ⟨w30, hw30⟩ : ∃ w30, w30 = wr := ⟨_, rfl⟩
        subst hw30
        have S30 := Lib.hid (S3.out.stay hk)
        have D30 := Lib.hid (D3.out.stay hk)
        have HK30 := Lib.hid (HK3.out.trans hk (by simp))
        clear S3 D3 HK3
        clear hk
        go_wp2_with fail
        refine (iNeedsOk_any _ _ _ _ _ _ _ S30.out NQ.out).mono ?_
        rintro e w31 ⟨rfl, hk⟩
        rw [HO.out]
        have S31 := Lib.hid (S30.out.stay hk)
        have D31 := Lib.hid (D30.out.stay hk)
        have Q31 := Lib.hid (NQ.out.stay hk)
        have HK31 := Lib.hid (HK30.out.trans hk (by simp))
        clear S30 D30 NQ HK30
        clear hk
        go_wp2_with fail
        refine (iNetOk_any _ _ _ _ S31.out).mono ?_
        rintro e w' ⟨rfl, rfl⟩
        rw [HOB.out]
        go_wp2_with fail
        refine (alive_any _).mono ?_
        rintro e w32 ⟨rfl, hk⟩
        have S32 := Lib.hid (S31.out.stay hk)
        have D32 := Lib.hid (D31.out.stay hk)
        have Q32 := Lib.hid (Q31.out.stay hk)
        have HK32 := Lib.hid (HK31.out.trans hk (by simp))
        clear S31 D31 Q31 HK31
        clear hk
        go_wp2
        go_ret
        exact ⟨rfl, HK32.out⟩
  · have HB := Lib.hid h1
    have HO := Lib.hid (Nt.ndB_ones xs)
    have hll := Nt.ndB_len h1
    obtain ⟨bS, capS, rfl, _, _, _⟩ := hs.any
    obtain ⟨bD, capD, rfl, _, _, _⟩ := hd.any
    generalize hob : Nt.okB xs = o at *
    have HOB := Lib.hid hob
    have d1 : (o == o) = true := by simp
    rw [hll] at D1
    have d2 : ((xs.length : Int) == (xs.length : Int)) = true := by simp
    clear hs hd h1 hb hob
    rw [hll]
    clear hll
    go_wp2_with fail
    refine (iNeedsOk_any _ _ _ _ _ _ _ S1.out D1.out).mono ?_
    rintro e w2 ⟨rfl, hk⟩
    rw [HB.out]
    have S2 := Lib.hid (S1.out.stay hk)
    have D2 := Lib.hid (D1.out.stay hk)
    have HK2 := Lib.hid (HK.out.trans hk (by simp))
    clear S1 D1 HK
    clear hk
    go_wp2_with fail
    refine (sNeedsOk_any _ _ _ _ _ _ _ S2.out D2.out).mono ?_
    rintro e w3 ⟨rfl, hq⟩
    rw [HB.out]
    have hk := hq.kept
    have S3 := Lib.hid (S2.out.stay hk)
    have D3 := Lib.hid (D2.out.stay hk)
    have HK3 := Lib.hid (HK2.out.trans hk (by simp))
    clear S2 D2 HK2
    clear hk hq
    go_wp2_with fail
    have HQ0 : Hid (Sl (w3.alloc (.cells #[] 3)) w3.heap.size (.slice (some ⟨w3.heap.size, 0, none⟩) 0 0) (Nt.nats (Nt.ones 0))) := Lib.hid (Sl.empty3 w3)
    go_loopw [6, 7] (fun u i wr => ∃ k : Nat, k ≤ xs.length ∧ i = .int .i64 k ∧ Sl wr w3.heap.size u (Nt.nats (Nt.ones k)) ∧ Kept [] w3 wr) (fun _ i _ => xs.length - (intOf i).toNat)
    case atStart => exact ⟨0, Nat.zero_le _, rfl, HQ0.out, (Kept.refl _ _).alloc _⟩
    case round =>
      clear HQ0
      obtain ⟨k, hk, rfl, hsl, hkept⟩ := hrel
      have HSL := Lib.hid hsl
      have HK9 := Lib.hid hkept
      have hsz := hkept.size
      by_cases hlt : k < xs.length
      · have HL : Hid ((Nt.nats (Nt.ones k)).length ≤ 1000000) := Lib.hid (by rw [Nt.nats_length, Nt.ones_length]; omega)
        clear hsl hkept
        go_wp2_with (at_builtin; refine app_int _ rfl _ _ rfl w3.heap.size _ _ HSL.out rfl rfl HL.out (by omega) ?_; intro u' w9 hs9 hk9; have HS9 := Lib.hid hs9; have HK10 := Lib.hid (HK9.out.own hk9 (fun g hg => (HSL.out.block hg).1)); clear hs9 hk9)
        go_roundw
        case rel => exact ⟨k + 1, by omega, by go_num, HS9.out.val rfl (Nt.ones_more k), HK10.out⟩
        case measure => simp [intOf]; omega
      · have hk' : xs.length = k := by omega
        subst hk'
        have hQL : (Nt.nats (Nt.ones (xs.length))).length = xs.length := by rw [Nt.nats_length, Nt.ones_length]
        have hQQ := HSL.out
        obtain ⟨bQ, capQ, rfl, _, _, _⟩ := hQQ.any
        rw [hQL] at hQQ ⊢
        have NQ := Lib.hid hQQ
        have hk := HK9.out
        clear hlt hsz HSL HK9 hkept hQL hQQ hsl
        obtain ⟨w30, hw30⟩ : ∃ w30, w30 = wr := ⟨_, rfl⟩
        subst hw30
        have S30 := Lib.hid (S3.out.stay hk)
        have D30 := Lib.hid (D3.out.stay hk)
        have HK30 := Lib.hid (HK3.out.trans hk (by simp))
        clear S3 D3 HK3
        clear hk
        go_wp2_with fail
        refine (iNeedsOk_any _ _ _ _ _ _ _ S30.out NQ.out).mono ?_
        rintro e w31 ⟨rfl, hk⟩
        rw [HO.out]
        have S31 := Lib.hid (S30.out.stay hk)
        have D31 := Lib.hid (D30.out.stay hk)
        have Q31 := Lib.hid (NQ.out.stay hk)
        have HK31 := Lib.hid (HK30.out.trans hk (by simp))
        clear S30 D30 NQ HK30
        clear hk
        go_wp2_with fail
        refine (iNetOk_any _ _ _ _ S31.out).mono ?_
        rintro e w' ⟨rfl, rfl⟩
        rw [HOB.out]
        go_wp2_with fail
        refine (alive_any _).mono ?_
        rintro e w32 ⟨rfl, hk⟩
        have S32 := Lib.hid (S31.out.stay hk)
        have D32 := Lib.hid (D31.out.stay hk)
        have Q32 := Lib.hid (Q31.out.stay hk)
        have HK32 := Lib.hid (HK31.out.trans hk (by simp))
        clear S31 D31 Q31 HK31
        clear hk
        go_wp2
        go_ret
        exact ⟨rfl, HK32.out⟩
end Go.Proofs.Ytgibncpgdbldnaa
