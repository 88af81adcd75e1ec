/-
  The law StateOfFronts, walked.
-/
import Derived.Test.YtdpkacpeednnoaaD23
import Derived.Test.YtdpkacpeednnoaaL1
import Derived.Test.YtdpkacpeednnoaaYP
import Derived.Test.YtdpkacpeednnoaaYM
import Derived.Test.YtdpkacpeednnoaaPureRV
namespace Go.Proofs.Ytdpkacpeednnoaa
open Go.RowKit

set_option maxHeartbeats 4000000 in
set_option maxRecDepth 100000 in
theorem FnStateOfFronts_calls (w : World) (v : Value) (ha : ArgB w v) :
    Calls Try.prog 6 #[v] w fun e w' => e = .returned (.bool true) ∧ Kept [] w w' := by
  have HA := Lib.hid ha
  obtain ⟨a, len, cap, rfl, hlc, hcm, _⟩ := ha
  by_cases hbig : 1048576 < len
  · have hb : (1048576 : Int) < (len : Int) := by omega
    clear hbig
    go_enter Try.func6, Try.ntmps6
    go_wp2
    go_ret
    exact ⟨rfl, Kept.refl _ _⟩
  have hb : ¬ (1048576 : Int) < (len : Int) := by omega
  clear hbig
  go_enter Try.func6, Try.ntmps6
  go_wp2_with fail
  refine (drawStateOfFronts_any _ _ HA.out).mono ?_
  rintro e w1 ⟨u, xs, x0, rfl, hx0, hx2, hs, hl, hk⟩
  have S1 := Lib.hid hs
  have HK := Lib.hid hk
  clear hk hb
  obtain ⟨x, rfl⟩ := Int.eq_ofNat_of_zero_le hx0
  cases h1 : Nt.frB xs
  · have HB := Lib.hid h1
    have HF := Lib.hid (Nt.stFrOf_no1 (a := (x : Int)) h1)
    clear h1 hx0 hx2
    obtain ⟨bS, capS, rfl, _, _, _⟩ := hs.any
    clear hs hl
    go_wp2_with fail
    refine (iStFr_any _ _ _ _ _ S1.out).mono ?_
    rintro e w2 ⟨u2, rfl, hs, hk⟩
    rw [HF.out] at hs
    have R2 := Lib.hid hs
    obtain ⟨bR, capR, rfl, _, _, _⟩ := hs.any
    have S2 := Lib.hid (S1.out.stay hk)
    have HK2 := Lib.hid (HK.out.trans hk (by simp))
    clear S1 HK
    clear hs hk
    go_wp2_with fail
    refine (sStFr_any _ _ _ _ _ S2.out).mono ?_
    rintro e w3 ⟨u3, rfl, hs, hk⟩
    rw [HF.out] at hs
    have Y3 := Lib.hid hs
    obtain ⟨bY, capY, rfl, _, _, _⟩ := hs.any
    have S3 := Lib.hid (S2.out.stay hk)
    have R3 := Lib.hid (R2.out.stay hk)
    have HK3 := Lib.hid (HK2.out.trans hk (by simp))
    clear S2 R2 HK2
    clear hs hk
    go_wp2_with fail
    refine (sameInts_any _ _ _ _ _ _ _ R3.out Y3.out).mono ?_
    rintro e w4 ⟨rfl, hq⟩
    rw [dec_of rfl]
    have hk := hq.kept
    have S4 := Lib.hid (S3.out.stay hk)
    have R4 := Lib.hid (R3.out.stay hk)
    have Y4 := Lib.hid (Y3.out.stay hk)
    have HK4 := Lib.hid (HK3.out.trans hk (by simp))
    clear S3 R3 Y3 HK3
    clear hk hq
    clear Y4
    go_wp2_with fail
    refine (iFrontsOk_any _ _ _ _ S4.out).mono ?_
    rintro e w5 ⟨rfl, hk⟩
    rw [HB.out]
    have S5 := Lib.hid (S4.out.stay hk)
    have R5 := Lib.hid (R4.out.stay hk)
    have HK5 := Lib.hid (HK4.out.trans hk (by simp))
    clear S4 R4 HK4
    clear hk
    go_wp2_with fail
    refine (alive_any _).mono ?_
    rintro e w6 ⟨rfl, hk⟩
    have S6 := Lib.hid (S5.out.stay hk)
    have R6 := Lib.hid (R5.out.stay hk)
    have HK6 := Lib.hid (HK5.out.trans hk (by simp))
    clear S5 R5 HK5
    clear hk
    go_wp2
    go_ret
    exact ⟨rfl, HK6.out⟩
  · have fr := (Nt.frB_iff xs).1 h1
    have hx3 : x < 3 := by omega
    obtain ⟨n, hn⟩ : ∃ n, n = xs.length := ⟨_, rfl⟩
    have hp : 0 < n := by have := fr.lo; omega
    have HF := Lib.hid (Nt.stFrOf_ok fr hx3)
    have HBK := Lib.hid (Nt.st_back hx3 fr)
    have HFL : Hid ((Nt.stOf x xs).length = n) := Lib.hid (by rw [Nt.stOf_length, hn])
    have hne0 : ((n : Int) == 0) = false := beq_eq_false_iff_ne.2 (by omega)
    have d1 : ((x : Int) == (x : Int)) = true := by simp
    obtain ⟨gS, capS, rfl, _, _⟩ := hs.shape hn.symm hp
    clear hs fr hn h1 hl hx0 hx2 hx3
    go_wp2_with fail
    refine (iStFr_any _ _ _ _ _ S1.out).mono ?_
    rintro e w2 ⟨u2, rfl, hs, hk⟩
    rw [HF.out] at hs
    have R2 := Lib.hid hs
    obtain ⟨gR, capR, rfl, hgR, hcR⟩ := hs.row HFL.out hp
    have CR2 := Lib.hid hcR
    have lR2 := Lib.hid hgR
    clear hgR hcR
    have S2 := Lib.hid (S1.out.stay hk)
    have HK2 := Lib.hid (HK.out.trans hk (by simp))
    clear S1 HK
    clear hs hk
    go_wp2_with fail
    refine (sStFr_any _ _ _ _ _ S2.out).mono ?_
    rintro e w3 ⟨u3, rfl, hs, hk⟩
    rw [HF.out] at hs
    have Y3 := Lib.hid hs
    obtain ⟨bY, capY, rfl, _, _, _⟩ := hs.any
    have S3 := Lib.hid (S2.out.stay hk)
    have R3 := Lib.hid (R2.out.stay hk)
    have CR3 := Lib.hid (fun j (hj : j < n) => (hk.cell (p := ⟨gR, j, none⟩) lR2.out (by simp)).trans (CR2.out j hj))
    have lR3 := Lib.hid (Nat.lt_of_lt_of_le lR2.out hk.size)
    have HK3 := Lib.hid (HK2.out.trans hk (by simp))
    clear S2 R2 CR2 lR2 HK2
    clear hs hk
    go_wp2_with fail
    refine (sameInts_any _ _ _ _ _ _ _ R3.out Y3.out).mono ?_
    rintro e w4 ⟨rfl, hq⟩
    rw [dec_of rfl]
    have hk := hq.kept
    have S4 := Lib.hid (S3.out.stay hk)
    have R4 := Lib.hid (R3.out.stay hk)
    have Y4 := Lib.hid (Y3.out.stay hk)
    have CR4 := Lib.hid (fun j (hj : j < n) => (hk.cell (p := ⟨gR, j, none⟩) lR3.out (by simp)).trans (CR3.out j hj))
    have lR4 := Lib.hid (Nat.lt_of_lt_of_le lR3.out hk.size)
    have HK4 := Lib.hid (HK3.out.trans hk (by simp))
    clear S3 R3 Y3 CR3 lR3 HK3
    clear hk hq
    clear Y4
    go_wp2_with fail
    refine (iStateOk_any 3 _ _ _ _ R4.out).mono ?_
    rintro e w' ⟨rfl, rfl⟩
    rw [HBK.out.2.1]
    have c0 := CR4.out 0 hp
    rw [HBK.out.2.2] at c0
    go_wp2_with fail
    refine (iFrontRow_any _ _ _ _ R4.out).mono ?_
    rintro e w5 ⟨u5, rfl, hs, hk⟩
    rw [HBK.out.1] at hs
    have Z5 := Lib.hid hs
    obtain ⟨bZ, capZ, rfl, _, _, _⟩ := hs.any
    have S5 := Lib.hid (S4.out.stay hk)
    have R5 := Lib.hid (R4.out.stay hk)
    have CR5 := Lib.hid (fun j (hj : j < n) => (hk.cell (p := ⟨gR, j, none⟩) lR4.out (by simp)).trans (CR4.out j hj))
    have lR5 := Lib.hid (Nat.lt_of_lt_of_le lR4.out hk.size)
    have HK5 := Lib.hid (HK4.out.trans hk (by simp))
    clear S4 R4 CR4 lR4 HK4
    clear hs hk
    go_wp2_with fail
    refine (sameInts_any _ _ _ _ _ _ _ Z5.out S5.out).mono ?_
    rintro e w6 ⟨rfl, hq⟩
    rw [dec_of rfl]
    have hk := hq.kept
    have S6 := Lib.hid (S5.out.stay hk)
    have R6 := Lib.hid (R5.out.stay hk)
    have Z6 := Lib.hid (Z5.out.stay hk)
    have CR6 := Lib.hid (fun j (hj : j < n) => (hk.cell (p := ⟨gR, j, none⟩) lR5.out (by simp)).trans (CR5.out j hj))
    have lR6 := Lib.hid (Nat.lt_of_lt_of_le lR5.out hk.size)
    have HK6 := Lib.hid (HK5.out.trans hk (by simp))
    clear S5 R5 Z5 CR5 lR5 HK5
    clear hk hq
    go_wp2
    go_ret
    exact ⟨rfl, HK6.out⟩
end Go.Proofs.Ytdpkacpeednnoaa
