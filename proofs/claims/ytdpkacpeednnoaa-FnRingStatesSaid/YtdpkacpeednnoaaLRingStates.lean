/-
  The law RingStates, walked.
-/
import Derived.Test.YtdpkacpeednnoaaD23
import Derived.Test.YtdpkacpeednnoaaL1
import Derived.Test.YtdpkacpeednnoaaYP
import Derived.Test.YtdpkacpeednnoaaYM
import Derived.Test.YtdpkacpeednnoaaPureRV
import Derived.Test.YtdpkacpeednnoaaNA
namespace Go.Proofs.Ytdpkacpeednnoaa
open Go.RowKit

set_option maxHeartbeats 4000000 in
set_option maxRecDepth 100000 in
theorem FnRingStates_calls (w : World) (v : Value) (ha : ArgB w v) :
    Calls Try.prog 8 #[v] w fun e w' => e = .returned (.bool true) ∧ Kept [] w w' := by
  have HA := Lib.hid ha
  obtain ⟨a, len, cap, rfl, hlc, hcm, _⟩ := ha
  by_cases hbig : 1048576 < len
  · have hb : (1048576 : Int) < (len : Int) := by omega
    clear hbig
    go_enter Try.func8, Try.ntmps8
    go_wp2
    go_ret
    exact ⟨rfl, Kept.refl _ _⟩
  have hb : ¬ (1048576 : Int) < (len : Int) := by omega
  clear hbig
  go_enter Try.func8, Try.ntmps8
  go_wp2_with fail
  refine (drawRingStates_any _ _ HA.out).mono ?_
  rintro e w1 ⟨x0, y0, rfl, hx1, hx2, hy1, hy2, hk⟩
  have HK := Lib.hid hk
  clear hk hb
  cases h1 : Nt.rstB x0 y0
  · have HF := Lib.hid (Nt.rstOf_no h1)
    clear h1 hx1 hx2 hy1 hy2
    go_wp2_with fail
    refine (iRStates_any _ _ _).mono ?_
    rintro e w2 ⟨rfl, hk⟩
    rw [HF.out]
    have HK2 := Lib.hid (HK.out.trans hk (by simp))
    clear HK
    clear hk
    go_wp2_with fail
    refine (sRStates_any _ _ _).mono ?_
    rintro e w' ⟨rfl, rfl⟩
    rw [HF.out]
    go_wp2_with fail
    refine (alive_any _).mono ?_
    rintro e w3 ⟨rfl, hk⟩
    have HK3 := Lib.hid (HK2.out.trans hk (by simp))
    clear HK2
    clear hk
    go_wp2
    go_ret
    exact ⟨rfl, HK3.out⟩
  · obtain ⟨n, rfl, b1, b2, b3, b4⟩ := Nt.rstB_ok h1
    have HF := Lib.hid (Nt.rstOf_ok b1 b2 b3 b4)
    have HNG := Lib.hid (Nt.rstOf_neg (n : Int) y0)
    have HWS := Lib.hid (fun i (hi : i < 13) => Nt.rst_way b1 b2 hi)
    have HWA := Lib.hid (Nt.wayW_all n (by omega) b1)
    have HWL := Lib.hid (fun i => Nt.wayW_le n i)
    have HSW : Hid (∀ j, Nt.sumTo (Nt.wayW n) (j + 1) = Nt.sumTo (Nt.wayW n) j + Nt.wayW n j) := Lib.hid (fun _ => rfl)
    have HSL : Hid (∀ j, Nt.sumTo (Nt.wayW n) j ≤ j * (3 * 3 ^ n)) := Lib.hid (fun j => Nt.sumTo_le j (fun i _ => Nt.wayW_le n i))
    have HCA := Lib.hid (Nt.cntW_all b1 b2 y0)
    have HCL := Lib.hid (Nt.cntW_le n y0)
    have HCS : Hid (∀ q, Nt.sumTo (Nt.cntW n y0) (q + 1) = Nt.sumTo (Nt.cntW n y0) q + if Nt.rwindOf (Nt.nats (Nt.digits 3 q n)) = y0 then 1 else 0) := Lib.hid (fun _ => rfl)
    have HRD := Lib.hid (fun q => Nt.row_digits b1 b2 q)
    have HST : Hid (∀ q : Nat, q < 3 ^ n → Nt.stateOf (n : Int) 3 (q : Int) = Nt.nats (Nt.digits 3 q n)) := Lib.hid (fun q hq => Nt.stateOf_ok (n := n) (c := 3) (m := q) (by omega) (by omega) hq)
    have HPW : Hid (∀ k, ((3 ^ (k + 1) : Nat) : Int) = ((3 ^ k : Nat) : Int) * 3) := Lib.hid (fun k => by rw [Nat.pow_succ]; omega)
    have HPL : Hid (∀ k, k ≤ 6 → 3 ^ k ≤ 729) := Lib.hid (fun k hk => by have h : 3 ^ k ≤ 3 ^ 6 := Nat.pow_le_pow_right (by omega) hk; omega)
    have h729 := HPL.out n b2
    have hle := Nt.ways_le n (3 * y0)
    generalize Nt.ways n (3 * y0) = q0 at *
    have s1 : IntKind.i64.wrap (-y0) = -y0 := IntWalk.i64_in _ (by omega)
    have d1 : (((3 * q0 : Nat) : Int) != ((3 * q0 : Nat) : Int)) = false := by simp
    have d2 : decide (((3 * q0 : Nat) : Int) < 0) = false := decide_eq_false (by omega)
    have d3 : (((3 * q0 : Nat) : Int) == ((3 * q0 : Nat) : Int)) = true := by simp
    generalize 3 * q0 = Q at *
    clear h1 hx1 hx2 hy1 hy2 hle
    go_wp2_with fail
    refine (iRStates_any _ _ _).mono ?_
    rintro e w2 ⟨rfl, hk⟩
    rw [HF.out]
    have HK2 := Lib.hid (HK.out.trans hk (by simp))
    clear HK
    clear hk
    go_wp2_with fail
    refine (sRStates_any _ _ _).mono ?_
    rintro e w' ⟨rfl, rfl⟩
    rw [HF.out]
    go_wp2_with fail
    go_loopw [6, 7] (fun s i wr => ∃ j : Nat, j ≤ 13 ∧ i = .int .i64 ((j : Int) - 6) ∧ s = .int .i64 ((Nt.sumTo (Nt.wayW n) j : Nat) : Int) ∧ Kept [] w2 wr) (fun _ i _ => 13 - (intOf i + 6).toNat)
    case atStart => exact ⟨0, by omega, rfl, rfl, Kept.refl _ _⟩
    case round =>
      obtain ⟨j, hj, rfl, rfl, hkept⟩ := hrel
      have HKJ := Lib.hid hkept
      clear hkept
      by_cases hlj : j < 13
      · have HW1 := Lib.hid (HWS.out j hlj)
        have HN := Lib.hid (HSW.out j)
        have c1 := HSL.out j
        have c2 := HWL.out j
        have c3 : j * (3 * 3 ^ n) ≤ 13 * (3 * 729) := Nat.mul_le_mul hj (by omega)
        have d4 : decide ((j : Int) - 6 ≤ 6) = true := decide_eq_true (by omega)
        generalize Nt.sumTo (Nt.wayW n) j = S at *
        generalize Nt.wayW n j = v at *
        have s2 : IntKind.i64.wrap ((S : Int) + (v : Int)) = (S : Int) + (v : Int) := IntWalk.i64_in _ (by omega)
        have s3 : IntKind.i64.wrap ((j : Int) - 6 + 1) = (j : Int) - 6 + 1 := IntWalk.i64_in _ (by omega)
        clear c1 c2 c3
        go_wp2_with fail
        refine (iRStates_any _ _ _).mono ?_
        rintro e w9 ⟨rfl, hk9⟩
        rw [HW1.out]
        have HK9 := Lib.hid (HKJ.out.trans hk9 (by simp))
        clear hk9
        go_wp2_with fail
        go_roundw
        case rel => exact ⟨j + 1, by omega, by congr 1; omega, by rw [HN.out]; congr 1, HK9.out⟩
        case measure => simp [intOf]; omega
      · have hj' : j = 13 := by omega
        subst hj'
        rw [HWA.out, show ((13 : Nat) : Int) - 6 = 7 by decide]
        have d4 : decide ((7 : Int) ≤ 6) = false := by decide
        clear hlj HWS HSW HSL HWL HWA
        obtain ⟨wb, hwb⟩ : ∃ wb, wb = wr := ⟨_, rfl⟩
        subst hwb
        go_wp2_with fail
        go_loopw [8, 9] (fun a i wx => ∃ k : Nat, k ≤ n ∧ i = .int .i64 k ∧ a = .int .i64 ((3 ^ k : Nat) : Int) ∧ wb = wx) (fun _ i _ => n - (intOf i).toNat)
        case atStart => exact ⟨0, Nat.zero_le _, rfl, rfl, rfl⟩
        case round =>
          obtain ⟨k, hk, rfl, rfl, rfl⟩ := hrel
          have hpk := HPL.out k (by omega)
          have HP := Lib.hid (HPW.out k)
          by_cases hlk : k < n
          · generalize hP : 3 ^ k = P at *
            clear hP
            have s4 : IntKind.i64.wrap ((P : Int) * 3) = (P : Int) * 3 := IntWalk.i64_in _ (by omega)
            go_wp2_with fail
            go_roundw
            case rel => exact ⟨k + 1, by omega, by go_num, by rw [HP.out], by first | rfl | trivial⟩
            case measure => simp [intOf]; omega
          · have hk' : k = n := by omega
            subst hk'
            generalize hP : 3 ^ k = P at *
            clear hP HP hlk HPW HPL
            go_wp2_with fail
            go_loopw [10, 11] (fun m i wx => ∃ q : Nat, q ≤ P ∧ i = .int .i64 q ∧ m = .int .i64 ((Nt.sumTo (Nt.cntW k y0) q : Nat) : Int) ∧ Kept [] wb wx) (fun _ i _ => P - (intOf i).toNat)
            case atStart => exact ⟨0, Nat.zero_le _, rfl, rfl, Kept.refl _ _⟩
            case round =>
              obtain ⟨q, hq, rfl, rfl, hkept⟩ := hrel
              have HKQ := Lib.hid hkept
              clear hkept
              by_cases hlq : q < P
              · have HS1 := Lib.hid (HST.out q hlq)
                have HR1 := Lib.hid (HRD.out q)
                have HN := Lib.hid (HCS.out q)
                have c1 := HCL.out q
                generalize Nt.sumTo (Nt.cntW k y0) q = S at *
                have s5 : IntKind.i64.wrap ((S : Int) + 1) = (S : Int) + 1 := IntWalk.i64_in _ (by omega)
                go_wp2_with fail
                refine (iStateOf_any _ _ _ (by omega) _).mono ?_
                rintro e w9 ⟨u9, rfl, hs9, hk9⟩
                rw [HS1.out] at hs9
                have HU9 := Lib.hid hs9
                have HK9 := Lib.hid (HKQ.out.trans hk9 (by simp))
                clear hs9 hk9
                go_wp2_with fail
                refine (iRWind_any _ _ _ _ HU9.out).mono ?_
                rintro e w10 ⟨rfl, hk10⟩
                rw [HR1.out]
                have HK10 := Lib.hid (HK9.out.trans hk10 (by simp))
                clear hk10 HU9
                generalize Nt.rwindOf (Nt.nats (Nt.digits 3 q k)) = r at *
                by_cases hr : r = y0
                · have d5 : (r == y0) = true := by simp [hr]
                  have HV : Hid (((Nt.sumTo (Nt.cntW k y0) (q + 1) : Nat) : Int) = (S : Int) + 1) := Lib.hid (by rw [HN.out, if_pos hr]; omega)
                  clear hr HN c1
                  go_wp2
                  go_roundw
                  case rel => exact ⟨q + 1, by omega, by go_num, by rw [HV.out], HK10.out⟩
                  case measure => simp [intOf]; omega
                · have d5 : (r == y0) = false := beq_eq_false_iff_ne.2 hr
                  have HV : Hid (((Nt.sumTo (Nt.cntW k y0) (q + 1) : Nat) : Int) = (S : Int)) := Lib.hid (by rw [HN.out, if_neg hr]; omega)
                  clear hr HN c1
                  go_wp2
                  go_roundw
                  case rel => exact ⟨q + 1, by omega, by go_num, by rw [HV.out], HK10.out⟩
                  case measure => simp [intOf]; omega
              · have hq' : q = P := by omega
                subst hq'
                rw [HCA.out]
                have d6 : ((q : Int) == (q : Int)) = true := by simp
                have HKE := Lib.hid (HK2.out.trans (HKJ.out.trans HKQ.out (by simp)) (by simp))
                clear hlq HCL HCS HRD HST
                go_wp2_with fail
                refine (iRStates_any _ _ _).mono ?_
                rintro e w12 ⟨rfl, hk12⟩
                rw [HNG.out, HF.out]
                have HK12 := Lib.hid (HKE.out.trans hk12 (by simp))
                clear hk12
                go_wp2_with fail
                go_ret
                exact ⟨rfl, HK12.out⟩
end Go.Proofs.Ytdpkacpeednnoaa
