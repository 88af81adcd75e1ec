/-
  The law GridNet, walked.
-/
import Derived.Test.YtllbdhfckdljgaaGP
import Derived.Test.YtllbdhfckdljgaaD31
import Derived.Test.YtllbdhfckdljgaaL1
import Derived.Test.YtllbdhfckdljgaaH1
namespace Go.Proofs.Ytllbdhfckdljgaa
open Go.RowKit

theorem far_one {ns : List Nat} (ok : Nt.Ok ns) : Nt.farOf (Nt.nats ns) 1 = Nt.far ns 1 := by
  have h := Nt.farOf_ok ok (set := 1) (Nat.one_lt_two_pow (by have := ok.some; omega))
  rw [show ((1 : Nat) : Int) = 1 from rfl] at h
  exact h

/-- The last node is as far away as all rows and columns less two. -/
theorem corner {a b l : Nat} (ha : 1 ≤ a) (hb : 1 ≤ b) (hl : l + 1 = a * b) : ((l / b + l % b : Nat) : Int) = (a : Int) + (b : Int) - 2 := by
  obtain ⟨a', rfl⟩ : ∃ a', a = a' + 1 := ⟨a - 1, by omega⟩
  obtain ⟨b', rfl⟩ : ∃ b', b = b' + 1 := ⟨b - 1, by omega⟩
  have e : l = b' + (b' + 1) * a' := by
    have h1 : (a' + 1) * (b' + 1) = (b' + 1) * a' + (b' + 1) := by rw [Nat.add_mul, Nat.one_mul, Nat.mul_comm]
    omega
  have h1 : l / (b' + 1) = a' := by rw [e, Nat.add_mul_div_left _ _ (by omega), Nat.div_eq_of_lt (by omega), Nat.zero_add]
  have h2 : l % (b' + 1) = b' := by rw [e, Nat.add_mul_mod_self_left, Nat.mod_eq_of_lt (by omega)]
  rw [h1, h2]
  omega

set_option maxHeartbeats 4000000 in
set_option maxRecDepth 100000 in
theorem FnGridNet_calls (w : World) (v : Value) (ha : ArgB w v) :
    Calls Try.prog 3 #[v] w fun e w' => e = .returned (.bool true) ∧ Kept [] w w' := by
  have HA := Lib.hid ha
  obtain ⟨a, len, cap, rfl, hlc, hcm, _⟩ := ha
  by_cases hbig : 1048576 < len
  · have hb : (1048576 : Int) < (len : Int) := by omega
    clear hbig
    go_enter Try.func3, Try.ntmps3
    go_wp2
    go_ret
    exact ⟨rfl, Kept.refl _ _⟩
  have hb : ¬ (1048576 : Int) < (len : Int) := by omega
  clear hbig
  go_enter Try.func3, Try.ntmps3
  go_wp2_with fail
  refine (drawGridNet_any _ _ HA.out).mono ?_
  rintro e w1 ⟨x, y, rfl, h1, h2, hk⟩
  have HK1 := Lib.hid hk
  clear hk hb
  go_wp2_with fail
  refine (iGrid_any _ _ _).mono ?_
  rintro e w2 ⟨u2, rfl, hs, hk⟩
  have HI2 := Lib.hid hs
  have HK2 := Lib.hid (HK1.out.trans hk (by simp))
  clear hs hk HK1 h1 h2
  go_wp2_with fail
  refine (sGrid_any _ _ _).mono ?_
  rintro e w3 ⟨u3, rfl, hs, hk⟩
  have HS3 := Lib.hid hs
  have HI3 := Lib.hid (HI2.out.stay hk)
  have HK3 := Lib.hid (HK2.out.trans hk (by simp))
  clear hs hk HI2 HK2
  go_wp2_with fail
  refine (sameInts_any _ _ _ _ _ _ _ HI3.out HS3.out).mono ?_
  rintro e w4 ⟨rfl, hq⟩
  rw [dec_of (rfl : Nt.gridOf (x : Int) (y : Int) = _)]
  have HI4 := Lib.hid (hq.sl HI3.out)
  have HK4 := Lib.hid (HK3.out.trans hq.kept (by simp))
  clear hq HI3 HS3 HK3
  cases hB : Nt.grB (x : Int) (y : Int)
  · have hi := HI4.out
    rw [Nt.gridOf_no hB] at hi
    obtain ⟨a4, cap4, rfl, _, _, _⟩ := hi.any
    clear hi
    go_wp2_with (go_at_call 16; refine (alive_any _).mono ?_; rintro e w9 ⟨rfl, hk⟩; have HK9 := Lib.hid (HK4.out.trans hk (by simp)); clear hk)
    go_ret
    exact ⟨rfl, HK9.out⟩
  · obtain ⟨p, q, ex, ey, hp, hq, hp6, hq6, hpq⟩ := Nt.grB_ok hB
    have e1 : x = p := by omega
    have e2 : y = q := by omega
    subst e1
    subst e2
    obtain ⟨m, hm⟩ : ∃ m, m = x * y := ⟨_, rfl⟩
    have hm1 : 1 ≤ m := by rw [hm]; exact Nat.mul_le_mul hp hq
    have hm6 : m ≤ 6 := by rw [hm]; exact hpq
    have hyx : y * x ≤ 6 := by rw [Nat.mul_comm]; exact hpq
    have hmyx : y * x = m := by rw [Nat.mul_comm, hm]
    have ok := Nt.grid_ok hp hq hpq
    have ok2 := Nt.grid_ok hq hp hyx
    have h1L := Nt.gridN_length x y
    have h2L := Nt.gridN_length y x
    rw [← hm] at h1L
    rw [hmyx] at h2L
    obtain ⟨l, hl⟩ : ∃ l, l + 1 = m := ⟨m - 1, by omega⟩
    have hlast : ((l / y + l % y : Nat) : Int) = (x : Int) + (y : Int) - 2 := corner hp hq (by omega)
    have hlast2 : ((l / x + l % x : Nat) : Int) = (x : Int) + (y : Int) - 2 := by rw [corner hq hp (show l + 1 = y * x by omega)]; omega
    have HF1 : Hid (Nt.farOf (Nt.gridOf (x : Int) (y : Int)) 1 = Nt.far (Nt.gridN x y) 1) := Lib.hid (by rw [Nt.gridOf_ok hp hq hpq]; exact far_one ok)
    have HF2 : Hid (Nt.farOf (Nt.gridOf (y : Int) (x : Int)) 1 = Nt.far (Nt.gridN y x) 1) := Lib.hid (by rw [Nt.gridOf_ok hq hp hyx]; exact far_one ok2)
    have HL1 : Hid ((Nt.far (Nt.gridN x y) 1).length = m) := Lib.hid (by rw [Nt.far_length, h1L])
    have HL2 : Hid ((Nt.far (Nt.gridN y x) 1).length = m) := Lib.hid (by rw [Nt.far_length, h2L])
    have HV1 : Hid ((Nt.far (Nt.gridN x y) 1).getD l 0 = (x : Int) + (y : Int) - 2) := Lib.hid (by rw [Nt.far_get _ _ (by omega), Nt.grid_far hp hq hpq (by omega)]; exact hlast)
    have HV2 : Hid ((Nt.far (Nt.gridN y x) 1).getD l 0 = (x : Int) + (y : Int) - 2) := Lib.hid (by rw [Nt.far_get _ _ (by omega), Nt.grid_far hq hp hyx (by omega)]; exact hlast2)
    have HOK : Hid (Nt.okB (Nt.gridOf (x : Int) (y : Int)) = true) := Lib.hid (by rw [Nt.gridOf_ok hp hq hpq]; exact Nt.ok_okB ok)
    have HGL : Hid ((Nt.gridOf (x : Int) (y : Int)).length = m) := Lib.hid (by rw [Nt.gridOf_ok hp hq hpq, Nt.nats_length, h1L])
    have HMUL : Hid (wrap64 ((x : Int) * (y : Int)) = (m : Int)) := Lib.hid (by rw [← Int.natCast_mul, ← hm]; exact IntWalk.wrap64_in _ (by omega))
    have HMQ := Lib.hid hm
    obtain ⟨g4, cap4, rfl, _, _⟩ := HI4.out.shape HGL.out (by omega)
    have b6 : x ≤ 6 ∧ y ≤ 6 := ⟨hp6, hq6⟩
    have hl6 : l ≤ 5 := by omega
    have HLM := Lib.hid hl
    have hm0 : ((m : Int) == 0) = false := by rw [beq_eq_false_iff_ne]; omega
    clear hm hpq hyx hmyx ok ok2 h1L h2L hlast hlast2 hB ex ey hl
    go_wp2_with fail
    refine (iFar_any _ 1 _ _ _ HI4.out).mono ?_
    rintro e w5 ⟨u5, rfl, hs, hk⟩
    rw [HF1.out] at hs
    obtain ⟨g5, cap5, rfl, _, hg5⟩ := hs.shape HL1.out (by omega)
    have c5 := (hs.at l (by rw [HL1.out]; have := HLM.out; omega)).1
    rw [HV1.out] at c5
    have HC5 := Lib.hid (And.intro c5 hg5)
    have HI5 := Lib.hid (HI4.out.stay hk)
    have HK5 := Lib.hid (HK4.out.trans hk (by simp))
    clear hs hk c5 hg5 HI4 HK4
    go_wp2_with fail
    refine (iGrid_any _ _ _).mono ?_
    rintro e w6 ⟨u6, rfl, hs, hk⟩
    have HJ6 := Lib.hid hs
    have HC6 := Lib.hid (And.intro ((hk.cell (p := ⟨g5, l, none⟩) HC5.out.2 (by simp)).trans HC5.out.1) (Nat.lt_of_lt_of_le HC5.out.2 hk.size))
    have HI6 := Lib.hid (HI5.out.stay hk)
    have HK6 := Lib.hid (HK5.out.trans hk (by simp))
    clear hs hk HC5 HI5 HK5
    go_wp2_with fail
    refine (iFar_any _ 1 _ _ _ HJ6.out).mono ?_
    rintro e w7 ⟨u7, rfl, hs, hk⟩
    rw [HF2.out] at hs
    obtain ⟨g7, cap7, rfl, _, hg7⟩ := hs.shape HL2.out (by omega)
    have c7 := (hs.at l (by rw [HL2.out]; have := HLM.out; omega)).1
    rw [HV2.out] at c7
    have c6 := (hk.cell (p := ⟨g5, l, none⟩) HC6.out.2 (by simp)).trans HC6.out.1
    have HI7 := Lib.hid (HI6.out.stay hk)
    have HK7 := Lib.hid (HK6.out.trans hk (by simp))
    clear hs hk HC6 HI6 HK6 hg7 HJ6
    have n0 : (0 : Int) ≤ (l : Int) := by omega
    have n1 : (l : Int) < (m : Int) := by have := HLM.out; omega
    have n2 : l < m := by have := HLM.out; omega
    have s0h : Hid (wrap64 ((m : Int) - 1) = (l : Int)) := Lib.hid (by rw [IntWalk.wrap64_in _ (by omega)]; have := HLM.out; omega)
    have s1h : Hid (IntKind.i64.wrap ((l : Int) + 1) = (m : Int)) := Lib.hid (by rw [IntWalk.i64_in _ (by omega)]; have := HLM.out; omega)
    have s2h : Hid (IntKind.i64.wrap ((x : Int) + (y : Int)) = (x : Int) + (y : Int)) := Lib.hid (IntWalk.i64_in _ (by omega))
    have s3h : Hid (IntKind.i64.wrap ((x : Int) + (y : Int) - 2) = (x : Int) + (y : Int) - 2) := Lib.hid (IntWalk.i64_in _ (by omega))
    have hmul := HMUL.out
    have s0 := s0h.out
    clear s0h HMUL hm1 hm6 hl6 b6 hp hp6 hq hq6
    have HNET := Lib.hid (fun d => iNetOk_any (Nt.gridOf (x : Int) (y : Int)) (w7.drewN d) _ _ (((Qt.refl w7).draw d).sl HI7.out))
    have ezz : ((x : Int) + (y : Int) - 2 == (x : Int) + (y : Int) - 2) = true := by simp
    have emm : ((m : Int) == (m : Int)) = true := by simp
    rw [HOK.out] at HNET
    go_wp2_with fail
    clear hmul
    have s1 := s1h.out
    have s2 := s2h.out
    have s3 := s3h.out
    go_quiet ((go_at_call 18; exact quietL (HNET.out _)))
    go_wp2
    go_ret
    exact ⟨rfl, HK7.out.trans ((Qt.refl _).draw _).kept (by simp)⟩
end Go.Proofs.Ytllbdhfckdljgaa
