/-
  The law FrontRow, walked.
-/
import Derived.Test.YtdpkacpeednnoaaD23
import Derived.Test.YtdpkacpeednnoaaL1
import Derived.Test.YtdpkacpeednnoaaYP
import Derived.Test.YtdpkacpeednnoaaYM
import Derived.Test.YtdpkacpeednnoaaPureRV
namespace Go.Proofs.Ytdpkacpeednnoaa
open Go.RowKit

set_option maxHeartbeats 4000000 in
set_option maxRecDepth 100000 in
theorem FnFrontRow_calls (w : World) (v : Value) (ha : ArgB w v) :
    Calls Try.prog 3 #[v] w fun e w' => e = .returned (.bool true) ∧ Kept [] w w' := by
  have HA := Lib.hid ha
  obtain ⟨a, len, cap, rfl, hlc, hcm, _⟩ := ha
  by_cases hbig : 1048576 < len
  · have hb : (1048576 : Int) < (len : Int) := by omega
    clear hbig
    go_enter Try.func3, Try.ntmps3
    go_wp2
    go_ret
    exact ⟨rfl, Kept.refl _ _⟩
  have hb : ¬ (1048576 : Int) < (len : Int) := by omega
  clear hbig
  go_enter Try.func3, Try.ntmps3
  go_wp2_with fail
  refine (drawFrontRow_any _ _ HA.out).mono ?_
  rintro e w1 ⟨u, xs, rfl, hs, hl, hk⟩
  have S1 := Lib.hid hs
  have HK := Lib.hid hk
  clear hk hb
  cases h1 : Nt.rowB xs
  · have HF := Lib.hid (Nt.frontsOf_no h1)
    clear h1
    obtain ⟨bS, capS, rfl, _, _, _⟩ := hs.any
    clear hs hl
    go_wp2_with fail
    refine (iFrontRow_any _ _ _ _ S1.out).mono ?_
    rintro e w2 ⟨u2, rfl, hs, hk⟩
    rw [HF.out] at hs
    have R2 := Lib.hid hs
    obtain ⟨bR, capR, rfl, _, _, _⟩ := hs.any
    have S2 := Lib.hid (S1.out.stay hk)
    have HK2 := Lib.hid (HK.out.trans hk (by simp))
    clear S1 HK
    clear hs hk
    go_wp2_with fail
    refine (sFrontRow_any _ _ _ _ S2.out).mono ?_
    rintro e w3 ⟨u3, rfl, hs, hk⟩
    rw [HF.out] at hs
    have Y3 := Lib.hid hs
    obtain ⟨bY, capY, rfl, _, _, _⟩ := hs.any
    have S3 := Lib.hid (S2.out.stay hk)
    have R3 := Lib.hid (R2.out.stay hk)
    have HK3 := Lib.hid (HK2.out.trans hk (by simp))
    clear S2 R2 HK2
    clear hs hk
    go_wp2_with fail
    refine (sameInts_any _ _ _ _ _ _ _ R3.out Y3.out).mono ?_
    rintro e w4 ⟨rfl, hq⟩
    rw [dec_of rfl]
    have hk := hq.kept
    have S4 := Lib.hid (S3.out.stay hk)
    have R4 := Lib.hid (R3.out.stay hk)
    have Y4 := Lib.hid (Y3.out.stay hk)
    have HK4 := Lib.hid (HK3.out.trans hk (by simp))
    clear S3 R3 Y3 HK3
    clear hk hq
    clear Y4
    go_wp2_with fail
    refine (alive_any _).mono ?_
    rintro e w5 ⟨rfl, hk⟩
    have S5 := Lib.hid (S4.out.stay hk)
    have R5 := Lib.hid (R4.out.stay hk)
    have HK5 := Lib.hid (HK4.out.trans hk (by simp))
    clear S4 R4 HK4
    clear hk
    go_wp2
    go_ret
    exact ⟨rfl, HK5.out⟩
  · obtain ⟨ks, rfl, st, h3⟩ := Nt.rowB_ok h1
    obtain ⟨n, hn⟩ : ∃ n, n = ks.length := ⟨_, rfl⟩
    have HF := Lib.hid (Nt.frontsOf_ok st h3)
    have HFB := Lib.hid (Nt.frB_yes (Nt.frow_fr st h3))
    have HBK := Lib.hid (Nt.row_back st h3)
    have HFL : Hid ((Nt.frow ks).length = n) := Lib.hid (by rw [Nt.frow_length, hn])
    have hp : 0 < n := by omega
    have hne0 : ((n : Int) == 0) = false := beq_eq_false_iff_ne.2 (by omega)
    obtain ⟨gS, capS, rfl, hgS, hcS⟩ := hs.row hn.symm hp
    have CS1 := Lib.hid hcS
    have lS1 := Lib.hid hgS
    clear hs st hn h1 hcS hgS h3 hl
    generalize Nt.frow ks = fs at *
    go_wp2_with fail
    refine (iFrontRow_any _ _ _ _ S1.out).mono ?_
    rintro e w2 ⟨u2, rfl, hs, hk⟩
    rw [HF.out] at hs
    have R2 := Lib.hid hs
    obtain ⟨gR, capR, rfl, _, hgR⟩ := hs.shape HFL.out hp
    have CR2 := Lib.hid (fun j (hj : j < n) => (hs.at j (by rw [HFL.out]; exact hj)).1)
    have lR2 := Lib.hid hgR
    clear hgR
    have S2 := Lib.hid (S1.out.stay hk)
    have CS2 := Lib.hid (fun j (hj : j < n) => (hk.cell (p := ⟨gS, j, none⟩) lS1.out (by simp)).trans (CS1.out j hj))
    have lS2 := Lib.hid (Nat.lt_of_lt_of_le lS1.out hk.size)
    have HK2 := Lib.hid (HK.out.trans hk (by simp))
    clear S1 CS1 lS1 HK
    clear hs hk
    go_wp2_with fail
    refine (sFrontRow_any _ _ _ _ S2.out).mono ?_
    rintro e w3 ⟨u3, rfl, hs, hk⟩
    rw [HF.out] at hs
    have Y3 := Lib.hid hs
    obtain ⟨bY, capY, rfl, _, _, _⟩ := hs.any
    have S3 := Lib.hid (S2.out.stay hk)
    have R3 := Lib.hid (R2.out.stay hk)
    have CS3 := Lib.hid (fun j (hj : j < n) => (hk.cell (p := ⟨gS, j, none⟩) lS2.out (by simp)).trans (CS2.out j hj))
    have lS3 := Lib.hid (Nat.lt_of_lt_of_le lS2.out hk.size)
    have CR3 := Lib.hid (fun j (hj : j < n) => (hk.cell (p := ⟨gR, j, none⟩) lR2.out (by simp)).trans (CR2.out j hj))
    have lR3 := Lib.hid (Nat.lt_of_lt_of_le lR2.out hk.size)
    have HK3 := Lib.hid (HK2.out.trans hk (by simp))
    clear S2 R2 CS2 lS2 CR2 lR2 HK2
    clear hs hk
    go_wp2_with fail
    refine (sameInts_any _ _ _ _ _ _ _ R3.out Y3.out).mono ?_
    rintro e w4 ⟨rfl, hq⟩
    rw [dec_of rfl]
    have hk := hq.kept
    have S4 := Lib.hid (S3.out.stay hk)
    have R4 := Lib.hid (R3.out.stay hk)
    have Y4 := Lib.hid (Y3.out.stay hk)
    have CS4 := Lib.hid (fun j (hj : j < n) => (hk.cell (p := ⟨gS, j, none⟩) lS3.out (by simp)).trans (CS3.out j hj))
    have lS4 := Lib.hid (Nat.lt_of_lt_of_le lS3.out hk.size)
    have CR4 := Lib.hid (fun j (hj : j < n) => (hk.cell (p := ⟨gR, j, none⟩) lR3.out (by simp)).trans (CR3.out j hj))
    have lR4 := Lib.hid (Nat.lt_of_lt_of_le lR3.out hk.size)
    have HK4 := Lib.hid (HK3.out.trans hk (by simp))
    clear S3 R3 Y3 CS3 lS3 CR3 lR3 HK3
    clear hk hq
    clear Y4
    go_wp2_with fail
    refine (iFrontsOk_any _ _ _ _ R4.out).mono ?_
    rintro e w5 ⟨rfl, hk⟩
    rw [HFB.out]
    have S5 := Lib.hid (S4.out.stay hk)
    have R5 := Lib.hid (R4.out.stay hk)
    have CS5 := Lib.hid (fun j (hj : j < n) => (hk.cell (p := ⟨gS, j, none⟩) lS4.out (by simp)).trans (CS4.out j hj))
    have lS5 := Lib.hid (Nat.lt_of_lt_of_le lS4.out hk.size)
    have CR5 := Lib.hid (fun j (hj : j < n) => (hk.cell (p := ⟨gR, j, none⟩) lR4.out (by simp)).trans (CR4.out j hj))
    have lR5 := Lib.hid (Nat.lt_of_lt_of_le lR4.out hk.size)
    have HK5 := Lib.hid (HK4.out.trans hk (by simp))
    clear S4 R4 CS4 lS4 CR4 lR4 HK4
    clear hk
    have c0 := CS5.out 0 hp
    generalize ks.getD 0 0 = x at *
    go_wp2_with fail
    refine (iStFr_any _ _ _ _ _ R5.out).mono ?_
    rintro e w6 ⟨u6, rfl, hs, hk⟩
    rw [HBK.out] at hs
    have Z6 := Lib.hid hs
    obtain ⟨bZ, capZ, rfl, _, _, _⟩ := hs.any
    have S6 := Lib.hid (S5.out.stay hk)
    have R6 := Lib.hid (R5.out.stay hk)
    have CS6 := Lib.hid (fun j (hj : j < n) => (hk.cell (p := ⟨gS, j, none⟩) lS5.out (by simp)).trans (CS5.out j hj))
    have lS6 := Lib.hid (Nat.lt_of_lt_of_le lS5.out hk.size)
    have CR6 := Lib.hid (fun j (hj : j < n) => (hk.cell (p := ⟨gR, j, none⟩) lR5.out (by simp)).trans (CR5.out j hj))
    have lR6 := Lib.hid (Nat.lt_of_lt_of_le lR5.out hk.size)
    have HK6 := Lib.hid (HK5.out.trans hk (by simp))
    clear S5 R5 CS5 lS5 CR5 lR5 HK5
    clear hs hk
    go_wp2_with fail
    refine (sameInts_any _ _ _ _ _ _ _ Z6.out S6.out).mono ?_
    rintro e w7 ⟨rfl, hq⟩
    rw [dec_of rfl]
    have hk := hq.kept
    have S7 := Lib.hid (S6.out.stay hk)
    have R7 := Lib.hid (R6.out.stay hk)
    have Z7 := Lib.hid (Z6.out.stay hk)
    have CS7 := Lib.hid (fun j (hj : j < n) => (hk.cell (p := ⟨gS, j, none⟩) lS6.out (by simp)).trans (CS6.out j hj))
    have lS7 := Lib.hid (Nat.lt_of_lt_of_le lS6.out hk.size)
    have CR7 := Lib.hid (fun j (hj : j < n) => (hk.cell (p := ⟨gR, j, none⟩) lR6.out (by simp)).trans (CR6.out j hj))
    have lR7 := Lib.hid (Nat.lt_of_lt_of_le lR6.out hk.size)
    have HK7 := Lib.hid (HK6.out.trans hk (by simp))
    clear S6 R6 Z6 CS6 lS6 CR6 lR6 HK6
    clear hk hq
    go_wp2
    go_ret
    exact ⟨rfl, HK7.out⟩
end Go.Proofs.Ytdpkacpeednnoaa
