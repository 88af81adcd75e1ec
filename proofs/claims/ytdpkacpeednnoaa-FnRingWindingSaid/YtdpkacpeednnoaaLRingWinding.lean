/-
  The law RingWinding, walked.
-/
import Derived.Test.YtdpkacpeednnoaaD23
import Derived.Test.YtdpkacpeednnoaaL1
import Derived.Test.YtdpkacpeednnoaaYP
import Derived.Test.YtdpkacpeednnoaaYM
import Derived.Test.YtdpkacpeednnoaaPureRV
import Derived.Test.YtdpkacpeednnoaaNB
import Derived.Test.YtdpkacpeednnoaaFC
import Derived.Test.YtdpkacpeednnoaaXW
namespace Go.Proofs.Ytdpkacpeednnoaa
open Go.RowKit

set_option maxHeartbeats 4000000 in
set_option maxRecDepth 100000 in
theorem FnRingWinding_calls (w : World) (v : Value) (ha : ArgB w v) :
    Calls Try.prog 7 #[v] w fun e w' => e = .returned (.bool true) ∧ Kept [] w w' := by
  have HA := Lib.hid ha
  obtain ⟨a, len, cap, rfl, hlc, hcm, _⟩ := ha
  by_cases hbig : 1048576 < len
  · have hb : (1048576 : Int) < (len : Int) := by omega
    clear hbig
    go_enter Try.func7, Try.ntmps7
    go_wp2
    go_ret
    exact ⟨rfl, Kept.refl _ _⟩
  have hb : ¬ (1048576 : Int) < (len : Int) := by omega
  clear hbig
  go_enter Try.func7, Try.ntmps7
  go_wp2_with fail
  refine (drawRingWinding_any _ _ HA.out).mono ?_
  rintro e w1 ⟨u, xs, rfl, hs, hl, hk⟩
  have S1 := Lib.hid hs
  have HK := Lib.hid hk
  clear hk hb
  cases h1 : Nt.rowB xs
  · have HB := Lib.hid h1
    have HF := Lib.hid (Nt.rwindOf_no h1)
    clear h1
    obtain ⟨bS, capS, rfl, _, _, _⟩ := hs.any
    clear hs hl
    go_wp2_with fail
    refine (iRWind_any _ _ _ _ S1.out).mono ?_
    rintro e w2 ⟨rfl, hk⟩
    rw [HB.out, HF.out]
    have S2 := Lib.hid (S1.out.stay hk)
    have HK2 := Lib.hid (HK.out.trans hk (by simp))
    clear S1 HK
    clear hk
    go_wp2_with fail
    refine (sRWind_any _ _ _ _ S2.out).mono ?_
    rintro e w3 ⟨rfl, hk⟩
    rw [HB.out, HF.out]
    have S3 := Lib.hid (S2.out.stay hk)
    have HK3 := Lib.hid (HK2.out.trans hk (by simp))
    clear S2 HK2
    clear hk
    go_wp2_with fail
    refine (alive_any _).mono ?_
    rintro e w4 ⟨rfl, hk⟩
    have S4 := Lib.hid (S3.out.stay hk)
    have HK4 := Lib.hid (HK3.out.trans hk (by simp))
    clear S3 HK3
    clear hk
    go_wp2
    go_ret
    exact ⟨rfl, HK4.out⟩
  · have HB := Lib.hid h1
    obtain ⟨ks, rfl, st, h3⟩ := Nt.rowB_ok h1
    obtain ⟨n, hn⟩ : ∃ n, n = ks.length := ⟨_, rfl⟩
    have h6 := st.few
    obtain ⟨ra, rb, hLL⟩ := Nt.loopIs_ex (Nt.nats (Nt.ringN ks.length)) 3 (Nt.nats ks)
    have hE := Nt.ends_flat hLL
    have hF := Nt.rwind_flat st h3
    have hW := Nt.rwind_is st h3
    rw [← hn] at hLL hE hF hW
    rw [← hF] at hE
    have HLL := Lib.hid hLL
    have HW := Lib.hid hW
    have HRO : Hid (Nt.ringOf (n : Int) = Nt.nats (Nt.ringN n)) := Lib.hid (ringOf_yes n (by omega))
    have HRL : Hid ((Nt.ringN n).length = n) := Lib.hid (Nt.ringN_length n)
    have HTT := Lib.hid (fun k (hk : k < n + 1) => Nt.tourR_take hk)
    have HTL : Hid ((Nt.nats (Nt.tourR n)).length = n + 1) := Lib.hid (by rw [Nt.nats_length, Nt.tourR_length])
    have hp : 0 < n := by omega
    have hn0 : ¬ n = 0 := by omega
    have h6n : n ≤ 6 := by omega
    obtain ⟨gS, capS, rfl, _, _⟩ := hs.row hn.symm hp
    clear hs st hn h1 h3 h6 hl hLL hF hW
    generalize hr : Nt.rwindOf (Nt.nats ks) = r at *
    have HRR := Lib.hid hr
    clear hr
    have d1 : (r != r) = false := by simp
    have d2 : (r == r) = true := by simp
    have hbe : (r == 0) = decide (r = 0) := by
      by_cases h : r = 0
      · simp [h]
      · simp [h]
    rw [← hbe] at hE
    have HE := Lib.hid hE
    clear hE hbe
    go_wp2_with fail
    refine (iRWind_any _ _ _ _ S1.out).mono ?_
    rintro e w2 ⟨rfl, hk⟩
    rw [HB.out, HRR.out]
    have S2 := Lib.hid (S1.out.stay hk)
    have HK2 := Lib.hid (HK.out.trans hk (by simp))
    clear S1 HK
    clear hk
    go_wp2_with fail
    refine (sRWind_any _ _ _ _ S2.out).mono ?_
    rintro e w3 ⟨rfl, hk⟩
    rw [HB.out, HRR.out]
    have S3 := Lib.hid (S2.out.stay hk)
    have HK3 := Lib.hid (HK2.out.trans hk (by simp))
    clear S2 HK2
    clear hk
    go_wp2_with fail
    refine (iRing_any _ _).mono ?_
    rintro e w4 ⟨u4, rfl, hs, hk⟩
    rw [HRO.out] at hs
    have N4 := Lib.hid hs
    obtain ⟨gN, capN, rfl, hgN, hcN⟩ := hs.row HRL.out hp
    clear hgN hcN
    have S4 := Lib.hid (S3.out.stay hk)
    have HK4 := Lib.hid (HK3.out.trans hk (by simp))
    clear S3 HK3
    clear hs hk
    go_wp2_with fail
    have HE1 : Hid (Sl (w4.alloc (.cells #[] 3)) w4.heap.size (.slice (some ⟨w4.heap.size, 0, none⟩) 0 0) ((Nt.nats (Nt.tourR n)).take 0)) := Lib.hid (by rw [List.take_zero]; exact Sl.empty3 w4)
    go_loopw [9, 10] (fun u i wr => ∃ k : Nat, k ≤ n + 1 ∧ i = .int .i64 k ∧ Sl wr w4.heap.size u ((Nt.nats (Nt.tourR n)).take k) ∧ Kept [] w4 wr) (fun _ i _ => n + 1 - (intOf i).toNat)
    case atStart => exact ⟨0, Nat.zero_le _, rfl, HE1.out, (Kept.refl _ _).alloc _⟩
    case round =>
      clear HE1
      obtain ⟨k, hk, rfl, hsl, hkept⟩ := hrel
      have HSL := Lib.hid hsl
      have HK9 := Lib.hid hkept
      have hsz := hkept.size
      by_cases hlt : k < n + 1
      · have d4 : decide ((k : Int) ≤ (n : Int)) = true := decide_eq_true (by omega)
        have d5 : decide (k ≤ n) = true := decide_eq_true (by omega)
        have e1 : ((k : Int)).tmod (n : Int) = ((k % n : Nat) : Int) := mod_int k n
        have e2 : ((k : Int)) % (n : Int) = ((k % n : Nat) : Int) := by omega
        have HT := Lib.hid (HTT.out k hlt)
        have HL : Hid (((Nt.nats (Nt.tourR n)).take k).length ≤ 1000000) := Lib.hid (by rw [List.length_take, HTL.out]; omega)
        clear hsl hkept
        generalize k % n = q at *
        go_wp2_with (at_builtin; refine app_int _ rfl _ _ rfl w4.heap.size _ _ HSL.out rfl rfl HL.out (by omega) ?_; intro u' w9 hs9 hk9; have HS9 := Lib.hid hs9; have HK10 := Lib.hid (HK9.out.own hk9 (fun g hg => (HSL.out.block hg).1)); clear hs9 hk9)
        go_roundw
        case rel => exact ⟨k + 1, by omega, by go_num, HS9.out.val (by first | rfl | omega) HT.out, HK10.out⟩
        case measure => simp [intOf]; omega
      · have hk' : k = n + 1 := by omega
        subst hk'
        have d4 : decide (((n + 1 : Nat) : Int) ≤ (n : Int)) = false := decide_eq_false (by omega)
        have d5 : decide (n + 1 ≤ n) = false := decide_eq_false (by omega)
        have d6 : decide ((n : Int) + 1 ≤ (n : Int)) = false := decide_eq_false (by omega)
        rw [List.take_of_length_le (by rw [HTL.out]; exact Nat.le_refl _)] at hsl
        have NT := Lib.hid hsl
        have hk := hkept
        clear hlt hsz HSL HK9
        obtain ⟨w8, hw8⟩ : ∃ w8, w8 = wr := ⟨_, rfl⟩
        subst hw8
        have S18 := Lib.hid (S4.out.stay hk)
        have N18 := Lib.hid (N4.out.stay hk)
        have HK18 := Lib.hid (HK4.out.trans hk (by simp))
        clear S4 N4 HK4
        clear hk hkept hsl
        go_wp2_with fail
        refine (iWind_any _ _ _ _ _ _ _ _ _ _ N18.out S18.out NT.out).mono ?_
        rintro e w19 ⟨rfl, hq⟩
        rw [HW.out.1, HW.out.2]
        have hk := hq.kept
        have S19 := Lib.hid (S18.out.stay hk)
        have N19 := Lib.hid (N18.out.stay hk)
        have Q19 := Lib.hid (NT.out.stay hk)
        have HK19 := Lib.hid (HK18.out.trans hk (by simp))
        clear S18 N18 NT HK18
        clear hk hq
        go_wp2_with fail
        refine (iEnds_any _ _ _ HLL.out _ _ _ _ _ N19.out S19.out).mono ?_
        rintro e w20 ⟨rfl, hk⟩
        have S20 := Lib.hid (S19.out.stay hk)
        have N20 := Lib.hid (N19.out.stay hk)
        have Q20 := Lib.hid (Q19.out.stay hk)
        have HK20 := Lib.hid (HK19.out.trans hk (by simp))
        clear S19 N19 Q19 HK19
        clear hk
        go_wp2
        go_ret
        exact ⟨by first | rfl | (simp; exact HE.out.symm), HK20.out⟩
end Go.Proofs.Ytdpkacpeednnoaa
