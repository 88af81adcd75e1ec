/-
  The law TwoWaves, walked.
-/
import Derived.Test.YtebbfdpaplkmdaaD16
import Derived.Test.YtebbfdpaplkmdaaL1
import Derived.Test.YtebbfdpaplkmdaaVM
import Derived.Test.YtebbfdpaplkmdaaVN
import Derived.Test.YtebbfdpaplkmdaaVP
namespace Go.Proofs.Ytebbfdpaplkmdaa
open Go.RowKit

set_option maxHeartbeats 4000000 in
set_option maxRecDepth 100000 in
theorem FnTwoWaves_calls (w : World) (v : Value) (ha : ArgB w v) :
    Calls Try.prog 7 #[v] w fun e w' => e = .returned (.bool true) ∧ Kept [] w w' := by
  have HA := Lib.hid ha
  obtain ⟨a, len, cap, rfl, hlc, hcm, _⟩ := ha
  by_cases hbig : 1048576 < len
  · have hb : (1048576 : Int) < (len : Int) := by omega
    clear hbig
    go_enter Try.func7, Try.ntmps7
    go_wp2
    go_ret
    exact ⟨rfl, Kept.refl _ _⟩
  have hb : ¬ (1048576 : Int) < (len : Int) := by omega
  clear hbig
  go_enter Try.func7, Try.ntmps7
  go_wp2_with fail
  refine (drawArrivalRow_any _ _ HA.out).mono ?_
  rintro e w1 ⟨u, xs, c0, s0, rfl, hc3, hc5, hs, hl1, hk⟩
  have S1 := Lib.hid hs
  have HK := Lib.hid hk
  clear hk hb
  by_cases ho : Nt.waveB xs c0 s0 = true
  · obtain ⟨ns, c, s, rfl, rfl, rfl, ok, c3, c5, hset⟩ := Nt.waveB_ok ho
    obtain ⟨n, hn⟩ : ∃ n, n = ns.length := ⟨_, rfl⟩
    have hp := ok.some
    have h6 := ok.few
    have HOK := Lib.hid ok
    have HN := Lib.hid hn
    have HSET := Lib.hid hset
    have h1lt : 1 < 2 ^ ns.length := Nat.one_lt_two_pow (by have := ok.some; omega)
    have hs64 : s < 64 := Nat.lt_of_lt_of_le hset (Nt.pow_le ok.few)
    have HOR : Hid (bits .or .i64 (s : Int) 1 = ((s ||| 1 : Nat) : Int)) := Lib.hid (bits_or_nat s 1 (by omega) (by omega))
    have hor : s ||| 1 < 2 ^ ns.length := Nat.or_lt_two_pow hset h1lt
    have HF := Lib.hid (Nt.arrOf_ok ok c3 c5 hset)
    have HF1 : Hid (Nt.arrOf (Nt.nats ns) (c : Int) 1 = Nt.far ns 1) := Lib.hid (Nt.arrOf_ok (s := 1) ok c3 c5 h1lt)
    have HFB := Lib.hid (Nt.arrOf_ok ok c3 c5 hor)
    have HD : Hid (∀ k, k < n → Nt.dist ns (s ||| 1) 64 k = if min (Nt.dist ns s 64 k) (Nt.dist ns 1 64 k) < 0 then max (Nt.dist ns s 64 k) (Nt.dist ns 1 64 k) else min (Nt.dist ns s 64 k) (Nt.dist ns 1 64 k)) := Lib.hid (fun k hk => Nt.dist_or ok hset h1lt (by omega))
    clear h1lt hor
    rw [← hn] at hp h6
    have hne0 : ((n : Int) == 0) = false := beq_eq_false_iff_ne.2 (by omega)
    obtain ⟨gS, capS, rfl, _, _⟩ := hs.row hn.symm hp
    clear hs ok hset hn ho hl1 hc3 hc5
    go_wp2_with fail
    rw [HOR.out]
    refine (iArr_any _ _ _ _ _ _ S1.out).mono ?_
    rintro e w2 ⟨u2, rfl, hs, hk⟩
    rw [HFB.out] at hs
    have B2 := Lib.hid hs
    obtain ⟨gB, capB, rfl, _, hgB⟩ := hs.shape (n := n) (by rw [Nt.far_length]; exact HN.out.symm) hp
    have CB2 := Lib.hid (fun j (hj : j < n) => ((hs.at j (by rw [Nt.far_length, ← HN.out]; exact hj)).1).trans (by rw [Nt.far_get _ _ (by rw [← HN.out]; exact hj)]))
    have lB2 := Lib.hid hgB
    clear hgB
    have S2 := Lib.hid (S1.out.stay hk)
    have HK2 := Lib.hid (HK.out.trans hk (by simp))
    clear S1 HK
    clear hs hk
    go_wp2_with fail
    refine (iArr_any _ _ _ _ _ _ S2.out).mono ?_
    rintro e w3 ⟨u3, rfl, hs, hk⟩
    rw [HF.out] at hs
    have X3 := Lib.hid hs
    obtain ⟨gX, capX, rfl, _, hgX⟩ := hs.shape (n := n) (by rw [Nt.far_length]; exact HN.out.symm) hp
    have CX3 := Lib.hid (fun j (hj : j < n) => ((hs.at j (by rw [Nt.far_length, ← HN.out]; exact hj)).1).trans (by rw [Nt.far_get _ _ (by rw [← HN.out]; exact hj)]))
    have lX3 := Lib.hid hgX
    clear hgX
    have S3 := Lib.hid (S2.out.stay hk)
    have B3 := Lib.hid (B2.out.stay hk)
    have CB3 := Lib.hid (fun j (hj : j < n) => (hk.cell (p := ⟨gB, j, none⟩) lB2.out (by simp)).trans (CB2.out j hj))
    have lB3 := Lib.hid (Nat.lt_of_lt_of_le lB2.out hk.size)
    have HK3 := Lib.hid (HK2.out.trans hk (by simp))
    clear S2 B2 CB2 lB2 HK2
    clear hs hk
    go_wp2_with fail
    refine (iArr_any _ _ _ _ _ _ S3.out).mono ?_
    rintro e w4 ⟨u4, rfl, hs, hk⟩
    rw [HF1.out] at hs
    have Y4 := Lib.hid hs
    obtain ⟨gY, capY, rfl, _, hgY⟩ := hs.shape (n := n) (by rw [Nt.far_length]; exact HN.out.symm) hp
    have CY4 := Lib.hid (fun j (hj : j < n) => ((hs.at j (by rw [Nt.far_length, ← HN.out]; exact hj)).1).trans (by rw [Nt.far_get _ _ (by rw [← HN.out]; exact hj)]))
    have lY4 := Lib.hid hgY
    clear hgY
    have S4 := Lib.hid (S3.out.stay hk)
    have B4 := Lib.hid (B3.out.stay hk)
    have X4 := Lib.hid (X3.out.stay hk)
    have CB4 := Lib.hid (fun j (hj : j < n) => (hk.cell (p := ⟨gB, j, none⟩) lB3.out (by simp)).trans (CB3.out j hj))
    have lB4 := Lib.hid (Nat.lt_of_lt_of_le lB3.out hk.size)
    have CX4 := Lib.hid (fun j (hj : j < n) => (hk.cell (p := ⟨gX, j, none⟩) lX3.out (by simp)).trans (CX3.out j hj))
    have lX4 := Lib.hid (Nat.lt_of_lt_of_le lX3.out hk.size)
    have HK4 := Lib.hid (HK3.out.trans hk (by simp))
    clear S3 B3 X3 CB3 lB3 CX3 lX3 HK3
    clear hs hk
    have hn1 : ((n : Int) == (n : Int)) = true := by simp
    have hnn : ((n : Int) != (n : Int)) = false := by simp
    go_wp2_with fail
    go_loopw [9, 10] (fun i _ wr => ∃ k : Nat, k ≤ n ∧ i = .int .i64 k ∧ Qt w4 wr) (fun i _ _ => n - (intOf i).toNat)
    case atStart => exact ⟨0, Nat.zero_le _, rfl, Qt.refl _⟩
    case round =>
      obtain ⟨k, hk, rfl, hq⟩ := hrel
      have HQ := Lib.hid hq
      by_cases hlt : k < n
      · have cB := (hq.cell _).trans (CB4.out k hlt)
        have cX := (hq.cell _).trans (CX4.out k hlt)
        have cY := (hq.cell _).trans (CY4.out k hlt)
        have hd := HD.out k hlt
        clear hq
        generalize Nt.dist ns (s ||| 1) 64 k = z at *
        generalize Nt.dist ns s 64 k = x at *
        generalize Nt.dist ns 1 64 k = y at *
        have cXd : wr.drew.cell? ⟨gX, k, none⟩ = some (.int .i64 x) := cX
        have cYd : wr.drew.cell? ⟨gY, k, none⟩ = some (.int .i64 y) := cY
        have cBd : wr.drew.cell? ⟨gB, k, none⟩ = some (.int .i64 z) := cB
        have cXe : wr.drew.drew.cell? ⟨gX, k, none⟩ = some (.int .i64 x) := cX
        have cYe : wr.drew.drew.cell? ⟨gY, k, none⟩ = some (.int .i64 y) := cY
        have cBe : wr.drew.drew.cell? ⟨gB, k, none⟩ = some (.int .i64 z) := cB
        by_cases hxy : y < x
        · by_cases h0 : y < 0
          · have hyx : ¬ x < y := by omega
            obtain rfl : x = z := by (split at hd <;> omega)
            have hzz : (x != x) = false := by simp
            clear hd
            go_wp2_with fail
            go_region
            go_wp2_with fail
            go_region
            go_wp2_with fail
            go_roundw
            case rel => exact ⟨k + 1, by omega, by go_num, HQ.out.trans ⟨2, rfl⟩⟩
            case measure => simp [intOf]; omega
          · have hyx : ¬ x < y := by omega
            obtain rfl : y = z := by (split at hd <;> omega)
            have hzz : (y != y) = false := by simp
            clear hd
            go_wp2_with fail
            go_region
            go_wp2_with fail
            go_roundw
            case rel => exact ⟨k + 1, by omega, by go_num, HQ.out.trans ⟨1, rfl⟩⟩
            case measure => simp [intOf]; omega
        · by_cases h0 : x < 0
          · by_cases h2 : x < y
            · have h3 : ¬ y < x := by omega
              obtain rfl : y = z := by (split at hd <;> omega)
              have hzz : (y != y) = false := by simp
              clear hd
              go_wp2_with fail
              go_region
              go_wp2_with fail
              go_region
              go_wp2_with fail
              go_roundw
              case rel => exact ⟨k + 1, by omega, by go_num, HQ.out.trans ⟨2, rfl⟩⟩
              case measure => simp [intOf]; omega
            · have h3 : ¬ y < x := by omega
              obtain rfl : x = z := by (split at hd <;> omega)
              have hzz : (x != x) = false := by simp
              clear hd
              go_wp2_with fail
              go_region
              go_wp2_with fail
              go_region
              go_wp2_with fail
              go_roundw
              case rel => exact ⟨k + 1, by omega, by go_num, HQ.out.trans ⟨2, rfl⟩⟩
              case measure => simp [intOf]; omega
          · have h3 : ¬ y < x := by omega
            obtain rfl : x = z := by (split at hd <;> omega)
            have hzz : (x != x) = false := by simp
            clear hd
            go_wp2_with fail
            go_region
            go_wp2_with fail
            go_roundw
            case rel => exact ⟨k + 1, by omega, by go_num, HQ.out.trans ⟨1, rfl⟩⟩
            case measure => simp [intOf]; omega
      · have hk' : k = n := by omega
        subst hk'
        have KQ := Lib.hid (HK4.out.trans hq.kept (by simp))
        clear hq hlt hk
        go_wp2_with fail
        refine (alive_any _).mono ?_
        rintro e wz ⟨rfl, hkz⟩
        have KZ := Lib.hid (KQ.out.trans hkz (by simp))
        clear hkz
        go_wp2
        go_ret
        exact ⟨rfl, KZ.out⟩
  · have ho' : Nt.waveB xs c0 s0 = false := by simpa using ho
    have HF := Lib.hid (Nt.arrOf_no ho')
    have HE := Lib.hid (Nt.waveEndOf_no ho')
    obtain ⟨bS, capS, rfl, _, _, _⟩ := hs.any
    clear hs ho ho' hl1 hc3 hc5
    go_wp2_with fail
    refine (iArr_any _ _ _ _ _ _ S1.out).mono ?_
    rintro e w2 ⟨u2, rfl, hs, hk⟩
    have B2 := Lib.hid hs
    obtain ⟨bB, capB, rfl, _, _, _⟩ := hs.any
    have S2 := Lib.hid (S1.out.stay hk)
    have HK2 := Lib.hid (HK.out.trans hk (by simp))
    clear S1 HK
    clear hs hk
    go_wp2_with fail
    refine (iArr_any _ _ _ _ _ _ S2.out).mono ?_
    rintro e w3 ⟨u3, rfl, hs, hk⟩
    rw [HF.out] at hs
    have X3 := Lib.hid hs
    obtain ⟨bX, capX, rfl, _, _, _⟩ := hs.any
    have S3 := Lib.hid (S2.out.stay hk)
    have B3 := Lib.hid (B2.out.stay hk)
    have HK3 := Lib.hid (HK2.out.trans hk (by simp))
    clear S2 B2 HK2
    clear hs hk
    go_wp2_with fail
    refine (iArr_any _ _ _ _ _ _ S3.out).mono ?_
    rintro e w4 ⟨u4, rfl, hs, hk⟩
    have Y4 := Lib.hid hs
    obtain ⟨bY, capY, rfl, _, _, _⟩ := hs.any
    have S4 := Lib.hid (S3.out.stay hk)
    have B4 := Lib.hid (B3.out.stay hk)
    have X4 := Lib.hid (X3.out.stay hk)
    have HK4 := Lib.hid (HK3.out.trans hk (by simp))
    clear S3 B3 X3 HK3
    clear hs hk
    generalize (Nt.arrOf xs c0 (bits .or .i64 s0 1)).length = lB at *
    by_cases hB : lB = 0
    · subst hB
      go_wp2_with fail
      refine (sArr_any _ _ _ _ _ _ S4.out).mono ?_
      rintro e w5 ⟨u5, rfl, hs, hk⟩
      rw [HF.out] at hs
      have Z5 := Lib.hid hs
      obtain ⟨bZ, capZ, rfl, _, _, _⟩ := hs.any
      have S5 := Lib.hid (S4.out.stay hk)
      have B5 := Lib.hid (B4.out.stay hk)
      have X5 := Lib.hid (X4.out.stay hk)
      have Y5 := Lib.hid (Y4.out.stay hk)
      have HK5 := Lib.hid (HK4.out.trans hk (by simp))
      clear S4 B4 X4 Y4 HK4
      clear hs hk
      go_wp2_with fail
      refine (alive_any _).mono ?_
      rintro e w6 ⟨rfl, hk⟩
      have S6 := Lib.hid (S5.out.stay hk)
      have B6 := Lib.hid (B5.out.stay hk)
      have X6 := Lib.hid (X5.out.stay hk)
      have Y6 := Lib.hid (Y5.out.stay hk)
      have Z6 := Lib.hid (Z5.out.stay hk)
      have HK6 := Lib.hid (HK5.out.trans hk (by simp))
      clear S5 B5 X5 Y5 Z5 HK5
      clear hk
      go_wp2
      go_ret
      exact ⟨rfl, HK6.out⟩
    · have hB' : ((lB : Int) == 0) = false := by simp; omega
      go_wp2_with fail
      refine (sArr_any _ _ _ _ _ _ S4.out).mono ?_
      rintro e w5 ⟨u5, rfl, hs, hk⟩
      rw [HF.out] at hs
      have Z5 := Lib.hid hs
      obtain ⟨bZ, capZ, rfl, _, _, _⟩ := hs.any
      have S5 := Lib.hid (S4.out.stay hk)
      have B5 := Lib.hid (B4.out.stay hk)
      have X5 := Lib.hid (X4.out.stay hk)
      have Y5 := Lib.hid (Y4.out.stay hk)
      have HK5 := Lib.hid (HK4.out.trans hk (by simp))
      clear S4 B4 X4 Y4 HK4
      clear hs hk
      go_wp2_with fail
      refine (alive_any _).mono ?_
      rintro e w6 ⟨rfl, hk⟩
      have S6 := Lib.hid (S5.out.stay hk)
      have B6 := Lib.hid (B5.out.stay hk)
      have X6 := Lib.hid (X5.out.stay hk)
      have Y6 := Lib.hid (Y5.out.stay hk)
      have Z6 := Lib.hid (Z5.out.stay hk)
      have HK6 := Lib.hid (HK5.out.trans hk (by simp))
      clear S5 B5 X5 Y5 Z5 HK5
      clear hk
      go_wp2
      go_ret
      exact ⟨rfl, HK6.out⟩
end Go.Proofs.Ytebbfdpaplkmdaa
