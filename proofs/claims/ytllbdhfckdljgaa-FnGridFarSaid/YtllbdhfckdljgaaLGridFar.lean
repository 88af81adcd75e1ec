/-
  The law GridFar, walked.
-/
import Derived.Test.YtllbdhfckdljgaaGP
import Derived.Test.YtllbdhfckdljgaaD31
import Derived.Test.YtllbdhfckdljgaaL1
import Derived.Test.YtllbdhfckdljgaaH1
import Derived.Test.YtllbdhfckdljgaaW16
namespace Go.Proofs.Ytllbdhfckdljgaa
open Go.RowKit

theorem far_oneF {ns : List Nat} (ok : Nt.Ok ns) : Nt.farOf (Nt.nats ns) 1 = Nt.far ns 1 := by
  have h := Nt.farOf_ok ok (set := 1) (Nat.one_lt_two_pow (by have := ok.some; omega))
  rw [show ((1 : Nat) : Int) = 1 from rfl] at h
  exact h

set_option maxHeartbeats 4000000 in
set_option maxRecDepth 100000 in
theorem FnGridFar_calls (w : World) (v : Value) (ha : ArgB w v) :
    Calls Try.prog 7 #[v] w fun e w' => e = .returned (.bool true) ∧ Kept [] w w' := by
  have HA := Lib.hid ha
  obtain ⟨a, len, cap, rfl, hlc, hcm, _⟩ := ha
  by_cases hbig : 1048576 < len
  · have hb : (1048576 : Int) < (len : Int) := by omega
    clear hbig
    go_enter Try.func7, Try.ntmps7
    go_wp2
    go_ret
    exact ⟨rfl, Kept.refl _ _⟩
  have hb : ¬ (1048576 : Int) < (len : Int) := by omega
  clear hbig
  go_enter Try.func7, Try.ntmps7
  go_wp2_with fail
  refine (drawGridNet_any _ _ HA.out).mono ?_
  rintro e w1 ⟨x, y, rfl, h1, h2, hk⟩
  have HK1 := Lib.hid hk
  clear hk hb
  go_wp2_with fail
  refine (iGrid_any _ _ _).mono ?_
  rintro e w2 ⟨u2, rfl, hs, hk⟩
  have HI2 := Lib.hid hs
  have HK2 := Lib.hid (HK1.out.trans hk (by simp))
  clear hs hk HK1 h1 h2
  cases hB : Nt.grB (x : Int) (y : Int)
  · have hi := HI2.out
    rw [Nt.gridOf_no hB] at hi
    obtain ⟨a4, cap4, rfl, _, _, _⟩ := hi.any
    have HN := Lib.hid (Nt.gridOf_no hB)
    clear hi
    go_wp2_with fail
    refine (sGrid_any _ _ _).mono ?_
    rintro e w3 ⟨u3, rfl, hs, hk⟩
    rw [HN.out] at hs
    obtain ⟨a3, cap3, rfl, _, _, _⟩ := hs.any
    have HK3 := Lib.hid (HK2.out.trans hk (by simp))
    clear hs hk
    go_wp2_with (go_at_call 16; refine (alive_any _).mono ?_; rintro e w9 ⟨rfl, hk⟩; have HK9 := Lib.hid (HK3.out.trans hk (by simp)); clear hk)
    go_ret
    exact ⟨rfl, HK9.out⟩
  · obtain ⟨p, q, ex, ey, hp, hq, hp6, hq6, hpq⟩ := Nt.grB_ok hB
    have e1 : x = p := by omega
    have e2 : y = q := by omega
    subst e1
    subst e2
    obtain ⟨m, hm⟩ : ∃ m, m = x * y := ⟨_, rfl⟩
    have hm1 : 1 ≤ m := by rw [hm]; exact Nat.mul_le_mul hp hq
    have hm6 : m ≤ 6 := by rw [hm]; exact hpq
    have ok := Nt.grid_ok hp hq hpq
    have h1L := Nt.gridN_length x y
    rw [← hm] at h1L
    have HF1 : Hid (Nt.farOf (Nt.gridOf (x : Int) (y : Int)) 1 = Nt.far (Nt.gridN x y) 1) := Lib.hid (by rw [Nt.gridOf_ok hp hq hpq]; exact far_oneF ok)
    have HL1 : Hid ((Nt.far (Nt.gridN x y) 1).length = m) := Lib.hid (by rw [Nt.far_length, h1L])
    have HV1 := Lib.hid (fun k (hk : k < m) => show (Nt.far (Nt.gridN x y) 1).getD k 0 = ((k / y + k % y : Nat) : Int) from by rw [Nt.far_get _ _ (by omega), Nt.grid_far hp hq hpq (by omega)])
    have HGL : Hid ((Nt.gridOf (x : Int) (y : Int)).length = m) := Lib.hid (by rw [Nt.gridOf_ok hp hq hpq, Nt.nats_length, h1L])
    have hwm : x * (y - 1) ≤ 6 ∧ y * (x - 1) ≤ 6 := ⟨Nat.le_trans (Nat.mul_le_mul_left x (Nat.sub_le y 1)) hpq, Nat.le_trans (Nat.mul_le_mul_left y (Nat.sub_le x 1)) (by rw [Nat.mul_comm]; exact hpq)⟩
    have HW : Hid (Nt.wiresOf (Nt.gridOf (x : Int) (y : Int)) = ((x * (y - 1) + y * (x - 1) : Nat) : Int)) := Lib.hid (by rw [Nt.gridOf_ok hp hq hpq, Nt.wiresOf_ok ok, Nt.grid_wires hp hq hpq])
    have HMUL : Hid (wrap64 ((x : Int) * (y : Int)) = (m : Int)) := Lib.hid (by rw [← Int.natCast_mul, ← hm]; exact IntWalk.wrap64_in _ (by omega))
    have e1 : ((x : Int) * ((y : Int) - 1)) = ((x * (y - 1) : Nat) : Int) := by rw [Int.natCast_mul]; congr 1; omega
    have e2 : ((y : Int) * ((x : Int) - 1)) = ((y * (x - 1) : Nat) : Int) := by rw [Int.natCast_mul]; congr 1; omega
    have HX1 : Hid (wrap64 ((x : Int) * ((y : Int) - 1)) = ((x * (y - 1) : Nat) : Int)) := Lib.hid (by rw [e1]; exact IntWalk.wrap64_in _ (by omega))
    have HY1 : Hid (wrap64 ((y : Int) * ((x : Int) - 1)) = ((y * (x - 1) : Nat) : Int)) := Lib.hid (by rw [e2]; exact IntWalk.wrap64_in _ (by omega))
    obtain ⟨g4, cap4, rfl, _, _⟩ := HI2.out.shape HGL.out (by omega)
    have hm0 : ((m : Int) == 0) = false := by rw [beq_eq_false_iff_ne]; omega
    have hy0 : ¬ (y : Int) = 0 := by omega
    clear hm hpq ok h1L hB ex ey e1 e2
    generalize x * (y - 1) = wa at *
    generalize y * (x - 1) = wb at *
    go_wp2_with fail
    refine (iFar_any _ 1 _ _ _ HI2.out).mono ?_
    rintro e w5 ⟨u5, rfl, hs, hk⟩
    rw [HF1.out] at hs
    obtain ⟨g5, cap5, rfl, _, hg5⟩ := hs.shape HL1.out (by omega)
    have HC5 := Lib.hid (fun k (hk : k < m) => (hs.at k (by rw [HL1.out]; exact hk)).1)
    have HI5 := Lib.hid (HI2.out.stay hk)
    have HK5 := Lib.hid (HK2.out.trans hk (by simp))
    clear hs hk HI2 HK2
    go_wp2
    go_loopw [7] (fun i wr => ∃ k : Nat, k ≤ m ∧ i = .int .i64 k ∧ Qt w5 wr) (fun i _ => m - (intOf i).toNat)
    case atStart => exact ⟨0, Nat.zero_le _, rfl, Qt.refl _⟩
    case round =>
      obtain ⟨k, hk, rfl, hq⟩ := hrel
      have HQ := Lib.hid hq
      clear hq
      by_cases hlt : k < m
      · have hcell := (HQ.out.cell ⟨g5, k, none⟩).trans (HC5.out k hlt)
        rw [HV1.out k hlt] at hcell
        have f1 : (k : Int).tdiv (y : Int) = ((k / y : Nat) : Int) := tdiv_nat k y
        have f2 : (k : Int).tmod (y : Int) = ((k % y : Nat) : Int) := tmod_nat k y
        have b1 : k / y ≤ k := Nat.div_le_self k y
        have b2 : k % y ≤ k := Nat.mod_le k y
        generalize k / y = a1 at *
        generalize k % y = a2 at *
        have f5 : ((a1 : Int) + (a2 : Int) != (a1 : Int) + (a2 : Int)) = false := by simp
        have n0 : (0 : Int) ≤ (k : Int) := by omega
        have n1 : (k : Int) < (m : Int) := by omega
        have F3 := Lib.hid (show IntKind.i64.wrap ((a1 : Int) + (a2 : Int)) = (a1 : Int) + (a2 : Int) from IntWalk.i64_in _ (by omega))
        have F4 := Lib.hid (show IntKind.i64.wrap (a1 : Int) = (a1 : Int) from IntWalk.i64_in _ (by omega))
        have f6 : IntKind.i64.wrap (a2 : Int) = (a2 : Int) := IntWalk.i64_in _ (by omega)
        have f3 := F3.out
        have f4 := F4.out
        clear F3 F4
        rw [Int.natCast_add] at hcell
        go_wp2_with fail
        go_quiet (fail)
        go_wp2
        go_roundw
        case rel => exact ⟨k + 1, by omega, by go_num, HQ.out.draw _⟩
        case measure => simp [intOf]; omega
      · have hk' : k = m := by omega
        subst hk'
        clear hlt hk
        go_wp2_with fail
        refine (alive_any _).mono ?_
        rintro e w8 ⟨rfl, hk⟩
        have HK8 := Lib.hid (HK5.out.trans (HQ.out.kept.trans hk (by simp)) (by simp))
        have HI8 := Lib.hid ((HQ.out.sl HI5.out).stay hk)
        clear hk
        have s2 : (((wa + wb : Nat) : Int) == (wa : Int) + (wb : Int)) = true := by rw [beq_iff_eq]; omega
        have s1 : wrap64 ((wa : Int) + (wb : Int)) = (wa : Int) + (wb : Int) := IntWalk.wrap64_in _ (by omega)
        have S3 := Lib.hid (show wrap64 ((y : Int) - 1) = (y : Int) - 1 from IntWalk.wrap64_in _ (by clear s1; omega))
        have S4 := Lib.hid (show wrap64 ((x : Int) - 1) = (x : Int) - 1 from IntWalk.wrap64_in _ (by clear s1; omega))
        clear hwm hm1 hm6 hp hp6 hq6
        have s3 := S3.out
        have s4 := S4.out
        have hmul := HMUL.out
        have hx1 := HX1.out
        have hy1 := HY1.out
        go_wp2_with (go_at_call 31; refine (iWires_any _ _ _ _ HI8.out).mono ?_; rintro e w' ⟨rfl, rfl⟩; rw [HW.out])
        go_ret
        exact ⟨by first | rfl | simp, HK8.out⟩
end Go.Proofs.Ytllbdhfckdljgaa
