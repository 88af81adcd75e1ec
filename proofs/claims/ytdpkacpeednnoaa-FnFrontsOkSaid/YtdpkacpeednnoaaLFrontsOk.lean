/-
  The law FrontsOk, walked.
-/
import Derived.Test.YtdpkacpeednnoaaD23
import Derived.Test.YtdpkacpeednnoaaL1
import Derived.Test.YtdpkacpeednnoaaYP
import Derived.Test.YtdpkacpeednnoaaYM
import Derived.Test.YtdpkacpeednnoaaPureRV
namespace Go.Proofs.Ytdpkacpeednnoaa
open Go.RowKit

set_option maxHeartbeats 4000000 in
set_option maxRecDepth 100000 in
theorem FnFrontsOk_calls (w : World) (v : Value) (ha : ArgB w v) :
    Calls Try.prog 4 #[v] w fun e w' => e = .returned (.bool true) ∧ Kept [] w w' := by
  have HA := Lib.hid ha
  obtain ⟨a, len, cap, rfl, hlc, hcm, _⟩ := ha
  by_cases hbig : 1048576 < len
  · have hb : (1048576 : Int) < (len : Int) := by omega
    clear hbig
    go_enter Try.func4, Try.ntmps4
    go_wp2
    go_ret
    exact ⟨rfl, Kept.refl _ _⟩
  have hb : ¬ (1048576 : Int) < (len : Int) := by omega
  clear hbig
  go_enter Try.func4, Try.ntmps4
  go_wp2_with fail
  refine (drawFrontsOk_any _ _ HA.out).mono ?_
  rintro e w1 ⟨u, xs, rfl, hs, hl, hsm, hk⟩
  have HSM := Lib.hid hsm
  clear hsm
  have S1 := Lib.hid hs
  have HK := Lib.hid hk
  clear hk hb
  have HB0 : Hid (Nt.frB (Nt.negs xs) = Nt.frB xs) := Lib.hid (Nt.frB_negs xs)
  have HZ0 := Lib.hid Nt.frB_zero
  have HZ1 := Lib.hid Nt.frB_two
  have HNT := Lib.hid (fun k (hk : k < xs.length) => Nt.negs_take xs hk)
  have HNL := Lib.hid (Nt.negs_length xs)
  obtain ⟨bS, capS, rfl, _, _, hcS⟩ := hs.any
  have hcell := Lib.hid hcS
  generalize hb0 : Nt.frB xs = b at *
  have HB := Lib.hid hb0
  have d1 : (b != b) = false := by simp
  have d2 : (b == b) = true := by simp
  clear hs hcS hb0
  go_wp2_with fail
  refine (iFrontsOk_any _ _ _ _ S1.out).mono ?_
  rintro e w2 ⟨rfl, hk⟩
  rw [HB.out]
  have S2 := Lib.hid (S1.out.stay hk)
  have HK2 := Lib.hid (HK.out.trans hk (by simp))
  clear S1 HK
  clear hk
  go_wp2_with fail
  refine (sFrontsOk_any _ _ _ _ S2.out).mono ?_
  rintro e w' ⟨rfl, rfl⟩
  rw [HB.out]
  go_wp2_with fail
  have HE1 : Hid (Sl (w2.alloc (.cells #[] 3)) w2.heap.size (.slice (some ⟨w2.heap.size, 0, none⟩) 0 0) ((Nt.negs xs).take 0)) := Lib.hid (by rw [List.take_zero]; exact Sl.empty3 w2)
  go_loopw [5, 6] (fun u i wr => ∃ k : Nat, k ≤ xs.length ∧ i = .int .i64 k ∧ Sl wr w2.heap.size u ((Nt.negs xs).take k) ∧ Kept [] w2 wr) (fun _ i _ => xs.length - (intOf i).toNat)
  case atStart => exact ⟨0, Nat.zero_le _, rfl, HE1.out, (Kept.refl _ _).alloc _⟩
  case round =>
    clear HE1
    obtain ⟨k, hk, rfl, hsl, hkept⟩ := hrel
    have HSL := Lib.hid hsl
    have HK9 := Lib.hid hkept
    have hsz := hkept.size
    by_cases hlt : k < xs.length
    · obtain ⟨g, cS, e5, hgS, hgl⟩ := S2.out.shape rfl (show 0 < xs.length by omega)
      simp at e5
      obtain ⟨rfl, rfl⟩ := e5
      have ck := (hkept.cell (p := ⟨g, k, none⟩) hgl (by simp)).trans ((S2.out.at k hlt).1)
      have HT := Lib.hid (HNT.out k hlt)
      have HL : Hid (((Nt.negs xs).take k).length ≤ 1000000) := Lib.hid (by rw [List.length_take, HNL.out]; omega)
      clear hsl hkept
      have bx := HSM.out k
      generalize xs.getD k 0 = x at *
      have s1 : IntKind.i64.wrap (-x) = -x := IntWalk.i64_in _ (by omega)
      have s2 : wrap64 (-x) = -x := IntWalk.wrap64_in _ (by omega)
      go_wp2_with (at_builtin; refine app_int _ rfl _ _ rfl w2.heap.size _ _ HSL.out rfl rfl HL.out (by omega) ?_; intro u' w9 hs9 hk9; have HS9 := Lib.hid hs9; have HK10 := Lib.hid (HK9.out.own hk9 (fun g hg => (HSL.out.block hg).1)); clear hs9 hk9)
      go_roundw
      case rel => exact ⟨k + 1, by omega, by go_num, HS9.out.val rfl HT.out, HK10.out⟩
      case measure => simp [intOf]; omega
    · have hk' : k = xs.length := by omega
      subst hk'
      rw [List.take_of_length_le (by rw [HNL.out]; exact Nat.le_refl _)] at hsl
      have NI := Lib.hid hsl
      have KA := Lib.hid (HK2.out.trans hkept (by simp))
      clear hsl hkept hlt hsz HSL
      obtain ⟨w8, hw8⟩ : ∃ w8, w8 = wr := ⟨_, rfl⟩
      subst hw8
      go_wp2_with fail
      refine (iFrontsOk_any _ _ _ _ NI.out).mono ?_
      rintro e w9 ⟨rfl, hk⟩
      rw [HB0.out]
      have N9 := Lib.hid (NI.out.stay hk)
      have HK9 := Lib.hid (KA.out.trans hk (by simp))
      clear NI KA
      clear hk
      have HQ1 : Hid (Sl (w9.alloc (.cells #[.int .i64 0, .int .i64 0, .int .i64 0] 3)) w9.heap.size (.slice (some ⟨w9.heap.size, 0, none⟩) 3 3) [0, 0, 0]) := Lib.hid (Sl.lit w9 [0, 0, 0] (by simp))
      have hk : Kept [] w9 (w9.alloc (.cells #[.int .i64 0, .int .i64 0, .int .i64 0] 3)) := (Kept.refl _ _).alloc _
      have N10 := Lib.hid (N9.out.stay hk)
      have HK10 := Lib.hid (HK9.out.trans hk (by simp))
      clear N9 HK9
      clear hk
      go_wp2_with fail
      refine (iFrontsOk_any _ _ _ _ HQ1.out).mono ?_
      rintro e w11 ⟨rfl, hk⟩
      rw [HZ0.out]
      have N11 := Lib.hid (N10.out.stay hk)
      have HK11 := Lib.hid (HK10.out.trans hk (by simp))
      clear N10 HK10
      clear hk
      have HQ2 : Hid (Sl (w11.alloc (.cells #[.int .i64 0, .int .i64 0] 3)) w11.heap.size (.slice (some ⟨w11.heap.size, 0, none⟩) 2 2) [0, 0]) := Lib.hid (Sl.lit w11 [0, 0] (by simp))
      have hk : Kept [] w11 (w11.alloc (.cells #[.int .i64 0, .int .i64 0] 3)) := (Kept.refl _ _).alloc _
      have N12 := Lib.hid (N11.out.stay hk)
      have HK12 := Lib.hid (HK11.out.trans hk (by simp))
      clear N11 HK11
      clear hk
      go_wp2_with fail
      refine (iFrontsOk_any _ _ _ _ HQ2.out).mono ?_
      rintro e w13 ⟨rfl, hk⟩
      rw [HZ1.out]
      have N13 := Lib.hid (N12.out.stay hk)
      have HK13 := Lib.hid (HK12.out.trans hk (by simp))
      clear N12 HK12
      clear hk
      go_wp2
      go_ret
      exact ⟨rfl, HK13.out⟩
end Go.Proofs.Ytdpkacpeednnoaa
