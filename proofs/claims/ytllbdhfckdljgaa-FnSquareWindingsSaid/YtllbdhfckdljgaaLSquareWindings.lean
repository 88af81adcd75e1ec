/-
  The law SquareWindings, walked.
-/
import Derived.Test.YtllbdhfckdljgaaGP
import Derived.Test.YtllbdhfckdljgaaD31
import Derived.Test.YtllbdhfckdljgaaL1
import Derived.Test.YtllbdhfckdljgaaH1
import Derived.Test.YtllbdhfckdljgaaXP
import Derived.Test.YtllbdhfckdljgaaXW
namespace Go.Proofs.Ytllbdhfckdljgaa
open Go.RowKit

theorem nats_back : ∀ {xs : List Int}, (∀ y, y ∈ xs → 0 ≤ y ∧ y < 3) → xs = Nt.nats (xs.map Int.toNat)
  | [], _ => rfl
  | x :: xs, h => by
    have h1 := h x (by simp)
    have h2 := nats_back (xs := xs) fun y hy => h y (by simp [hy])
    have h3 : ((x.toNat : Nat) : Int) = x := by omega
    show x :: xs = ((x.toNat : Nat) : Int) :: Nt.nats (xs.map Int.toNat)
    rw [h3, ← h2]
theorem st_of {xs : List Int} (h : ∀ y, y ∈ xs → 0 ≤ y ∧ y < 3) (h1 : 1 ≤ xs.length) (h6 : xs.length ≤ 6) : ∃ ks, xs = Nt.nats ks ∧ Nt.St 3 ks := by
  refine ⟨xs.map Int.toNat, nats_back h, ⟨by omega, by omega, by simpa using h1, by simpa using h6, fun i hi => ?_⟩⟩
  rw [List.length_map] at hi
  have := h xs[i] (List.getElem_mem hi)
  simp [List.getD_eq_getElem?_getD, hi]
  omega

set_option maxHeartbeats 4000000 in
set_option maxRecDepth 100000 in
theorem FnSquareWindings_calls (w : World) (v : Value) (ha : ArgB w v) :
    Calls Try.prog 5 #[v] w fun e w' => e = .returned (.bool true) ∧ Kept [] w w' := by
  have HA := Lib.hid ha
  obtain ⟨a, len, cap, rfl, hlc, hcm, _⟩ := ha
  by_cases hbig : 1048576 < len
  · have hb : (1048576 : Int) < (len : Int) := by omega
    clear hbig
    go_enter Try.func5, Try.ntmps5
    go_wp2
    go_ret
    exact ⟨rfl, Kept.refl _ _⟩
  have hb : ¬ (1048576 : Int) < (len : Int) := by omega
  clear hbig
  go_enter Try.func5, Try.ntmps5
  go_wp2_with fail
  refine (drawSquareWindings_any _ _ HA.out).mono ?_
  rintro e w1 ⟨x, y, v2, xs, rfl, h1, h2, hxs, hxl, hin, hk⟩
  have HK1 := Lib.hid hk
  clear hk hb
  have HX1 := Lib.hid hxs
  have HXL := Lib.hid (And.intro hxl hin)
  clear hxs hxl hin
  obtain ⟨xa, xcap, rfl, _, _, _⟩ := HX1.out.any
  go_wp2_with fail
  refine (iSqW_any _ _ _ _ _ _ HX1.out).mono ?_
  rintro e w2 ⟨u2, rfl, hs, hk⟩
  have HI2 := Lib.hid hs
  have HX2 := Lib.hid (HX1.out.stay hk)
  have HK2 := Lib.hid (HK1.out.trans hk (by simp))
  clear hs hk HK1 HX1 h1 h2
  go_wp2_with fail
  refine (sSqW_any _ _ _ _ _ _ HX2.out).mono ?_
  rintro e w3 ⟨u3, rfl, hs, hk⟩
  have HS3 := Lib.hid hs
  have HI3 := Lib.hid (HI2.out.stay hk)
  have HX3 := Lib.hid (HX2.out.stay hk)
  have HK3 := Lib.hid (HK2.out.trans hk (by simp))
  clear hs hk HI2 HK2 HX2
  go_wp2_with fail
  refine (sameInts_any _ _ _ _ _ _ _ HI3.out HS3.out).mono ?_
  rintro e w4 ⟨rfl, hq⟩
  rw [dec_of (rfl : Nt.sqwOf (x : Int) (y : Int) xs = _)]
  have HI4 := Lib.hid (hq.sl HI3.out)
  have HX4 := Lib.hid (hq.sl HX3.out)
  have HK4 := Lib.hid (HK3.out.trans hq.kept (by simp))
  clear hq HI3 HS3 HK3 HX3
  go_wp2_with fail
  refine (iGrid_any _ _ _).mono ?_
  rintro e w5 ⟨u5, rfl, hs, hk⟩
  have HG5 := Lib.hid hs
  have HI5 := Lib.hid (HI4.out.stay hk)
  have HX5 := Lib.hid (HX4.out.stay hk)
  have HK5 := Lib.hid (HK4.out.trans hk (by simp))
  clear hs hk HI4 HK4 HX4
  cases hB : Nt.grB (x : Int) (y : Int)
  · have hi := HI5.out
    rw [Nt.sqwOf_no1 hB] at hi
    have hg := HG5.out
    rw [Nt.gridOf_no hB] at hg
    obtain ⟨a4, cap4, rfl, _, _, _⟩ := hi.any
    obtain ⟨a5, cap5, rfl, _, _, _⟩ := hg.any
    clear hi hg
    go_wp2_with (go_at_call 16; refine (alive_any _).mono ?_; rintro e w9 ⟨rfl, hk⟩; have HK9 := Lib.hid (HK5.out.trans hk (by simp)); clear hk)
    go_ret
    exact ⟨rfl, HK9.out⟩
  · obtain ⟨p, q, ex, ey, hp, hq, hp6, hq6, hpq⟩ := Nt.grB_ok hB
    have e1 : x = p := by omega
    have e2 : y = q := by omega
    subst e1
    subst e2
    obtain ⟨m, hm⟩ : ∃ m, m = x * y := ⟨_, rfl⟩
    have hm1 : 1 ≤ m := by rw [hm]; exact Nat.mul_le_mul hp hq
    have hm6 : m ≤ 6 := by rw [hm]; exact hpq
    have hxl : xs.length = m := by rw [HXL.out.1, ← hm]; omega
    obtain ⟨ks, rfl, st⟩ := st_of HXL.out.2 (by omega) (by omega)
    rw [Nt.nats_length] at hxl
    have hl : ks.length = x * y := by omega
    have ok := Nt.grid_ok hp hq hpq
    have HGO := Lib.hid (Nt.gridOf_ok hp hq hpq)
    have hgl : (Nt.gridOf (x : Int) (y : Int)).length = m := by rw [HGO.out, Nt.nats_length, Nt.gridN_length, hm]
    obtain ⟨gg, gcap, rfl, _, _⟩ := HG5.out.shape hgl (by omega)
    have HSQ := Lib.hid (Nt.sqwOf_ok hp hq hpq st hl)
    have hone := fun (i : Nat) hi => Nt.sqw_one (i := i) hp hq hpq st hi
    have HFL := Lib.hid (Nt.flat_none hp hq hpq st hl)
    have HLS := Lib.hid (Nt.sqwOf_small (x : Int) (y : Int) (Nt.nats ks))
    have HBD : Hid (∃ (n : Int) (b : Bool), Nt.windOf (Nt.gridOf (x : Int) (y : Int)) (Nt.nats ks) (Nt.bordOf (x : Int) (y : Int)) = n ∧ Nt.windB (Nt.gridOf (x : Int) (y : Int)) (Nt.nats ks) (Nt.bordOf (x : Int) (y : Int)) = b ∧
        ((b = true ∧ n = Nt.sumUp (Nt.sqwOf (x : Int) (y : Int) (Nt.nats ks)) (Nt.sqwOf (x : Int) (y : Int) (Nt.nats ks)).length) ∨ (b = false ∧ ((x : Int) < 2 ∨ (y : Int) < 2)))) := Lib.hid (by
      cases hb : Nt.bordB (x : Int) (y : Int)
      · refine ⟨_, _, rfl, rfl, .inr ⟨?_, ?_⟩⟩
        · rw [Nt.bordOf_no hb]; exact Nt.windB_no1 (Nt.climbB_no1 (Nt.tourB_no2 (by simp)))
        · apply Classical.byContradiction
          intro h
          rw [Nt.bordB_yes (by omega) (by omega) hpq] at hb
          cases hb
      · obtain ⟨p2, q2, ex2, ey2, hp2, hq2, _, _, _⟩ := Nt.bordB_ok hb
        have e3 : x = p2 := by omega
        have e4 : y = q2 := by omega
        subst e3
        subst e4
        obtain ⟨b1, b2⟩ := Nt.border_winds hp2 hq2 hpq st hl
        refine ⟨_, _, rfl, rfl, .inl ⟨?_, ?_⟩⟩
        · rw [HGO.out, Nt.bordOf_ok hp2 hq2 hpq]; exact b2
        · rw [HGO.out, Nt.bordOf_ok hp2 hq2 hpq, b1, HSQ.out, Nt.sumUp_all])
    have hfl : Nt.flatOf (Nt.gridOf (x : Int) (y : Int)) (Nt.nats ks) = Nt.noneTo (Nt.sqwOf (x : Int) (y : Int) (Nt.nats ks)) (Nt.sqwOf (x : Int) (y : Int) (Nt.nats ks)).length := by rw [HGO.out, HSQ.out]; exact HFL.out
    have HFL2 := Lib.hid hfl
    have HONE := Lib.hid (fun (i : Nat) (hi : i < (Nt.sqwOf (x : Int) (y : Int) (Nt.nats ks)).length) => show -1 ≤ (Nt.sqwOf (x : Int) (y : Int) (Nt.nats ks)).getD i 0 ∧ (Nt.sqwOf (x : Int) (y : Int) (Nt.nats ks)).getD i 0 ≤ 1 from by rw [HSQ.out] at hi ⊢; exact hone i hi)
    have hm0 : ((m : Int) == 0) = false := by rw [beq_eq_false_iff_ne]; omega
    have hkl : ((ks.length : Int) != (m : Int)) = false := by rw [hxl]; simp
    have HNX := Lib.hid (fun k hk => Nt.noneTo_succ (Nt.sqwOf (x : Int) (y : Int) (Nt.nats ks)) (k := k) hk)
    have HSX : Hid (∀ k, Nt.sumUp (Nt.sqwOf (x : Int) (y : Int) (Nt.nats ks)) (k + 1) = Nt.sumUp (Nt.sqwOf (x : Int) (y : Int) (Nt.nats ks)) k + (Nt.sqwOf (x : Int) (y : Int) (Nt.nats ks)).getD k 0) := Lib.hid (fun k => rfl)
    have HS0 : Hid (Nt.sumUp (Nt.sqwOf (x : Int) (y : Int) (Nt.nats ks)) 0 = 0) := Lib.hid rfl
    have HN0 : Hid (Nt.noneTo (Nt.sqwOf (x : Int) (y : Int) (Nt.nats ks)) 0 = true) := Lib.hid (by simp [Nt.noneTo])
    clear hone HFL HSQ hfl hl ok hB ex ey hm hxl
    generalize Nt.sqwOf (x : Int) (y : Int) (Nt.nats ks) = L at *
    obtain ⟨n, hn⟩ : ∃ n, n = L.length := ⟨_, rfl⟩
    have hn6 : n ≤ 6 := by rw [hn]; exact HLS.out
    have HN := Lib.hid hn
    obtain ⟨ra, rcap, rfl, _, _, hrc⟩ := HI5.out.any
    rw [← hn] at hrc ⊢
    have HRC := Lib.hid hrc
    rw [Nt.nats_length] at HX5 ⊢
    clear hrc hn HLS hgl
    go_wp2
    go_loopw [8, 9, 10] (fun s b i wr => ∃ k : Nat, k ≤ n ∧ i = .int .i64 k ∧ s = .int .i64 (Nt.sumUp L k) ∧ b = .bool (Nt.noneTo L k) ∧ (-(k : Int) ≤ Nt.sumUp L k ∧ Nt.sumUp L k ≤ (k : Int)) ∧ w5 = wr) (fun _ _ i _ => n - (intOf i).toNat)
    case atStart => exact ⟨0, Nat.zero_le _, rfl, by rw [HS0.out], by rw [HN0.out], by rw [HS0.out]; omega, rfl⟩
    case round =>
      obtain ⟨k, hk, rfl, rfl, rfl, hb, rfl⟩ := hrel
      by_cases hlt : k < n
      · obtain ⟨g, rfl, _, _, hcell, _⟩ := HRC.out k hlt
        have hbd := HONE.out k (by rw [← HN.out]; exact hlt)
        have HS1 := Lib.hid (HSX.out k)
        have HN1 := Lib.hid (HNX.out k (by rw [← HN.out]; exact hlt))
        have hb1 : -((k + 1 : Nat) : Int) ≤ Nt.sumUp L k + L.getD k 0 ∧ Nt.sumUp L k + L.getD k 0 ≤ ((k + 1 : Nat) : Int) := by omega
        have HB1 := Lib.hid hb1
        have d1 : decide (L.getD k 0 < -1) = false := dec_not (by omega)
        have d2 : decide (1 < L.getD k 0) = false := dec_not (by omega)
        have hw : wrap64 (Nt.sumUp L k + L.getD k 0) = Nt.sumUp L k + L.getD k 0 := IntWalk.wrap64_in _ (by omega)
        generalize hz : L.getD k 0 = z at *
        generalize Nt.sumUp L k = s at *
        generalize Nt.noneTo L k = b at *
        clear hz hb hb1 hbd
        cases b
        all_goals
          go_wp2
          go_roundw
          case rel => exact ⟨k + 1, by omega, by go_num, by rw [HS1.out, hw], by rw [HN1.out]; first | rfl | simp, by rw [HS1.out]; exact HB1.out, by first | rfl | trivial⟩
          case measure => simp [intOf]; omega
      · have hk' : k = n := by omega
        subst hk'
        clear hlt hk hb
        obtain ⟨nn, bb, HE1, HE2, he3⟩ := HBD.out
        have hf3 := HFL2.out
        rw [← HN.out] at he3 hf3
        have HE1 := Lib.hid HE1
        have HE2 := Lib.hid HE2
        have HE3 := Lib.hid he3
        have HFL3 := Lib.hid hf3
        clear he3 hf3
        clear HBD HFL2
        generalize Nt.sumUp L k = s at *
        generalize Nt.noneTo L k = b at *
        go_wp2_with fail
        refine (iBorder_any _ _ _).mono ?_
        rintro e w6 ⟨u6, rfl, hs, hk⟩
        have HB6 := Lib.hid hs
        have HG6 := Lib.hid (HG5.out.stay hk)
        have HX6 := Lib.hid (HX5.out.stay hk)
        have HK6 := Lib.hid (HK5.out.trans hk (by simp))
        clear hs hk HG5 HX5 HK5
        go_wp2_with fail
        refine (iWind_any _ _ _ _ _ _ _ _ _ _ HG6.out HX6.out HB6.out).mono ?_
        rintro e w7 ⟨rfl, hq⟩
        rw [HE1.out, HE2.out]
        have HG7 := Lib.hid (hq.sl HG6.out)
        have HX7 := Lib.hid (hq.sl HX6.out)
        have HK7 := Lib.hid (HK6.out.trans hq.kept (by simp))
        clear hq HG6 HX6 HK6
        have he3 := HE3.out
        rcases he3 with ⟨rfl, rfl⟩ | ⟨rfl, hsm⟩
        · have ess : (nn == nn) = true := by simp
          clear HE1 HE2 HE3
          by_cases hx2 : (x : Int) < 2 <;> by_cases hy2 : (y : Int) < 2 <;> cases b
          all_goals
            go_wp2_with (first
              | (go_at_call 28; refine (iFlat_any _ _ _ _ _ _ _ HG7.out HX7.out).mono ?_; rintro e w8 ⟨rfl, hk8⟩; rw [HFL3.out]; have HK8 := Lib.hid (HK7.out.trans hk8 (by simp)); clear hk8)
              | (go_at_call 16; refine (alive_any _).mono ?_; rintro e w9 ⟨rfl, hk⟩; have HK9 := Lib.hid (HK8.out.trans hk (by simp)); clear hk))
            go_ret
            exact ⟨by first | rfl | simp, HK9.out⟩
        · clear HE1 HE2 HE3
          by_cases hx2 : (x : Int) < 2
          · cases b
            all_goals
              go_wp2_with (first
                | (go_at_call 28; refine (iFlat_any _ _ _ _ _ _ _ HG7.out HX7.out).mono ?_; rintro e w8 ⟨rfl, hk8⟩; rw [HFL3.out]; have HK8 := Lib.hid (HK7.out.trans hk8 (by simp)); clear hk8)
                | (go_at_call 16; refine (alive_any _).mono ?_; rintro e w9 ⟨rfl, hk⟩; have HK9 := Lib.hid (HK8.out.trans hk (by simp)); clear hk))
              go_ret
              exact ⟨by first | rfl | simp, HK9.out⟩
          · have hy2 : (y : Int) < 2 := by omega
            clear hsm
            cases b
            all_goals
              go_wp2_with (first
                | (go_at_call 28; refine (iFlat_any _ _ _ _ _ _ _ HG7.out HX7.out).mono ?_; rintro e w8 ⟨rfl, hk8⟩; rw [HFL3.out]; have HK8 := Lib.hid (HK7.out.trans hk8 (by simp)); clear hk8)
                | (go_at_call 16; refine (alive_any _).mono ?_; rintro e w9 ⟨rfl, hk⟩; have HK9 := Lib.hid (HK8.out.trans hk (by simp)); clear hk))
              go_ret
              exact ⟨by first | rfl | simp, HK9.out⟩
end Go.Proofs.Ytllbdhfckdljgaa
