/-
  Walks: grids, squares, their windings and borders, by the program.
-/
import Derived.Test.YtllbdhfckdljgaaGM2
import Derived.Test.YtllbdhfckdljgaaPureGP
import Derived.Test.YtllbdhfckdljgaaNA
import Derived.Test.YtllbdhfckdljgaaNB
import Derived.Test.YtllbdhfckdljgaaTI
import Derived.Deep.RegionHeld3
namespace Go.Proofs.Ytllbdhfckdljgaa
open Go.RowKit

set_option maxHeartbeats 1000000 in
set_option maxRecDepth 100000 in
theorem gridOk_any (r c : Int) (w : World) :
    Calls Try.prog 41 #[.int .i64 r, .int .i64 c] w fun e w' => e = .returned (.bool (Nt.grB r c)) ∧ w = w' := by
  by_cases h1 : 1 ≤ r ∧ r ≤ 6
  · have d1 : decide (1 ≤ r ∧ r ≤ 6) = true := dec_of h1
    by_cases h2 : 1 ≤ c ∧ c ≤ 6
    · have d2 : decide (1 ≤ c ∧ c ≤ 6) = true := dec_of h2
      have hm := mul_small h1 h2
      have HF := Lib.hid (Nt.grB_in h1 h2)
      generalize hp : r * c = p at *
      have hw : wrap64 (r * c) = p := by rw [hp]; exact IntWalk.wrap64_in _ (by omega)
      have HD : Hid (decide (p ≤ 6) = decide (1 ≤ p ∧ p ≤ 6)) := Lib.hid (decide_eq_decide.2 ⟨fun h => ⟨hm.1, h⟩, fun h => h.2⟩)
      have d3 : decide (1 ≤ p ∧ p ≤ 6) = true ∨ decide (1 ≤ p ∧ p ≤ 6) = false := by cases decide (1 ≤ p ∧ p ≤ 6) <;> simp
      clear h1 h2 hp hm
      rcases d3 with d3 | d3
      all_goals
        go_enter Try.func41, Try.ntmps41
        go_wp2_with (go_at_call 58; first | (with_reducible refine (nodesOk_any r _).mono ?_; rintro e w' ⟨rfl, rfl⟩; rw [d1]) | (with_reducible refine (nodesOk_any c _).mono ?_; rintro e w' ⟨rfl, rfl⟩; rw [d2]) | (refine (nodesOk_any p _).mono ?_; rintro e w' ⟨rfl, rfl⟩; rw [d3]))
        go_ret
        exact ⟨by rw [HF.out, HD.out, d3]; rfl, rfl⟩
    · have d2 : decide (1 ≤ c ∧ c ≤ 6) = false := dec_not h2
      have HF := Lib.hid (Nt.grB_no2 (r := r) h2)
      clear h1 h2
      go_enter Try.func41, Try.ntmps41
      go_wp2_with (go_at_call 58; first | (with_reducible refine (nodesOk_any r _).mono ?_; rintro e w' ⟨rfl, rfl⟩; rw [d1]) | (refine (nodesOk_any c _).mono ?_; rintro e w' ⟨rfl, rfl⟩; rw [d2]))
      go_ret
      exact ⟨by rw [HF.out]; rfl, rfl⟩
  · have d1 : decide (1 ≤ r ∧ r ≤ 6) = false := dec_not h1
    have HF := Lib.hid (Nt.grB_no1 (c := c) h1)
    clear h1
    go_enter Try.func41, Try.ntmps41
    go_wp2_with (go_at_call 58; refine (nodesOk_any r _).mono ?_; rintro e w' ⟨rfl, rfl⟩; rw [d1])
    go_ret
    exact ⟨by rw [HF.out]; rfl, rfl⟩

set_option maxHeartbeats 1000000 in
set_option maxRecDepth 100000 in
theorem iGrid_any (r c : Int) (w : World) :
    Calls Try.prog 13 #[.int .i64 r, .int .i64 c] w fun e w' => ∃ u, e = .returned u ∧ Sl w' w.heap.size u (Nt.gridOf r c) ∧ Kept [] w w' := by
  cases ho : Nt.grB r c
  · have HF := Lib.hid (Nt.gridOf_no ho)
    go_enter Try.func13, Try.ntmps13
    go_wp2_with (go_at_call 41; refine (gridOk_any _ _ _).mono ?_; rintro e w' ⟨rfl, rfl⟩; rw [ho])
    go_ret
    exact ⟨_, rfl, by rw [HF.out]; exact Sl.nil _ _, Kept.refl _ _⟩
  · obtain ⟨a, b, rfl, rfl, ha, hb, ha6, hb6, hab⟩ := Nt.grB_ok ho
    have HF := Lib.hid (Nt.gridOf_ok ha hb hab)
    have HEND := Lib.hid (Nt.laidTo_end ha hb hab)
    have HLEN := Lib.hid (Nt.laidTo_length a b)
    have HSM := Lib.hid (fun k i => @Nt.laidTo_small a b ha hb hab k i)
    have HNX := Lib.hid (fun k => show Nt.laidTo a b (k + 1) = Nt.colWire b k (Nt.rowWire b k (Nt.laidTo a b k)) from rfl)
    have H0 : Hid (Nt.nats (Nt.laidTo a b 0) = List.replicate (a * b) 0) := Lib.hid (by simp [Nt.laidTo, Nt.nats])
    obtain ⟨m1, _, m3⟩ := grid_nums ha hb hab
    have hn0 : 1 ≤ a * b := Nat.le_trans hb m3
    generalize Nt.laidTo a b = L at *
    generalize a * b = n at *
    go_enter Try.func13, Try.ntmps13
    go_wp2_with (first | (go_at_call 41; refine (gridOk_any _ _ _).mono ?_; rintro e w' ⟨rfl, rfl⟩; rw [ho]) | (at_make; refine make_int _ n rfl _ _ rfl (congrArg _ m1) (congrArg _ m1) (by omega) ?_; intro w1 hs1 hk1 _; rw [← H0.out] at hs1; have HS1 := Lib.hid hs1; have HK1 := Lib.hid hk1; clear hs1 hk1))
    go_loopw [17] (fun i wr => ∃ k : Nat, k ≤ n ∧ i = .int .i64 k ∧ Sl wr w.heap.size (.slice (some ⟨w.heap.size, 0, none⟩) n n) (Nt.nats (L k)) ∧ Kept [] w wr) (fun i _ => n - (intOf i).toNat)
    case atStart => exact ⟨0, Nat.zero_le _, rfl, HS1.out, HK1.out⟩
    case round =>
      clear HS1 HK1
      obtain ⟨k, hk, rfl, hsl, hkept⟩ := hrel
      have HSL := Lib.hid hsl
      have HK := Lib.hid hkept
      clear hsl hkept
      by_cases hlt : k < n
      · have hln := HLEN.out k
        have ht : (k : Int).tmod (b : Int) = ((k % b : Nat) : Int) := tmod_nat k b
        have hmk : k % b ≤ k := Nat.mod_le _ _
        have HNK := Lib.hid (HNX.out k)
        have HRY := Lib.hid (@Nt.rowWire_yes b k (L k))
        have HRN := Lib.hid (@Nt.rowWire_no b k (L k))
        have HCY := Lib.hid (fun L => @Nt.colWire_yes b k L)
        have HCN := Lib.hid (fun L => @Nt.colWire_no b k L)
        have HRL := Lib.hid (Nt.rowWire_length b k (L k))
        have HE1 : Hid (1 ≤ k → (k : Int) - 1 = ((k - 1 : Nat) : Int)) := Lib.hid (by intro; omega)
        have HE2 : Hid (b ≤ k → (k : Int) - (b : Int) = ((k - b : Nat) : Int)) := Lib.hid (by intro; omega)
        have HSK := Lib.hid (fun i => HSM.out k i hlt)
        have HLN := Lib.hid hln
        generalize k % b = m at *
        clear hln
        by_cases c1 : 0 < m
        · have hr1 := HRY.out c1
          by_cases c2 : b ≤ k
          · have hc2 := HNK.out.trans (HCY.out _ c2)
            have HR1 := Lib.hid hr1
            have HC2 := Lib.hid hc2
            clear hr1 hc2
            go_wp2_with fail
            rw [HE1.out (by omega)]
            refine (addWire_any (L k) (k - 1) k (by rw [HLN.out]; omega) (by rw [HLN.out]; exact hlt) (by rw [HLN.out]; exact hab) (by omega) (HSK.out _ (by omega)).1 (HSK.out _ hlt).1 _ _ _ HSL.out).mono ?_
            rintro e w2 ⟨rfl, hs2, hk2⟩
            rw [← HR1.out] at hs2
            have HS2 := Lib.hid hs2
            have HK2 := Lib.hid (HK.out.own hk2 (fun g hg => by simp [Value.ownBlock] at hg; omega))
            clear hs2 hk2
            go_wp2_with fail
            rw [HE2.out c2]
            refine (addWire_any _ (k - b) k (by rw [HRL.out, HLN.out]; omega) (by rw [HRL.out, HLN.out]; exact hlt) (by rw [HRL.out, HLN.out]; exact hab) (by omega) (HSK.out _ (by omega)).2 (HSK.out _ hlt).2 _ _ _ HS2.out).mono ?_
            rintro e w3 ⟨rfl, hs3, hk3⟩
            rw [← HC2.out] at hs3
            have HS3 := Lib.hid hs3
            have HK3 := Lib.hid (HK2.out.own hk3 (fun g hg => by simp [Value.ownBlock] at hg; omega))
            clear hs3 hk3
            go_wp2
            go_roundw
            case rel => exact ⟨k + 1, by omega, by go_num, HS3.out, HK3.out⟩
            case measure => simp [intOf]; omega
          · have HR1 := Lib.hid hr1
            have HC2 := Lib.hid (HNK.out.trans (HCN.out _ c2))
            clear hr1
            go_wp2_with fail
            rw [HE1.out (by omega)]
            refine (addWire_any (L k) (k - 1) k (by rw [HLN.out]; omega) (by rw [HLN.out]; exact hlt) (by rw [HLN.out]; exact hab) (by omega) (HSK.out _ (by omega)).1 (HSK.out _ hlt).1 _ _ _ HSL.out).mono ?_
            rintro e w2 ⟨rfl, hs2, hk2⟩
            rw [← HR1.out, ← HC2.out] at hs2
            have HS2 := Lib.hid hs2
            have HK2 := Lib.hid (HK.out.own hk2 (fun g hg => by simp [Value.ownBlock] at hg; omega))
            clear hs2 hk2
            go_wp2
            go_roundw
            case rel => exact ⟨k + 1, by omega, by go_num, HS2.out, HK2.out⟩
            case measure => simp [intOf]; omega
        · have HR1 := Lib.hid (HRN.out c1)
          by_cases c2 : b ≤ k
          · have HC2 : Hid (L (k + 1) = Nt.wire (L k) (k - b) k) := Lib.hid (by rw [HNK.out, HCY.out _ c2, HR1.out])
            go_wp2_with fail
            rw [HE2.out c2]
            refine (addWire_any (L k) (k - b) k (by rw [HLN.out]; omega) (by rw [HLN.out]; exact hlt) (by rw [HLN.out]; exact hab) (by omega) (HSK.out _ (by omega)).1 (HSK.out _ hlt).1 _ _ _ HSL.out).mono ?_
            rintro e w2 ⟨rfl, hs2, hk2⟩
            rw [← HC2.out] at hs2
            have HS2 := Lib.hid hs2
            have HK2 := Lib.hid (HK.out.own hk2 (fun g hg => by simp [Value.ownBlock] at hg; omega))
            clear hs2 hk2
            go_wp2
            go_roundw
            case rel => exact ⟨k + 1, by omega, by go_num, HS2.out, HK2.out⟩
            case measure => simp [intOf]; omega
          · have HC2 : Hid (L (k + 1) = L k) := Lib.hid ((HNK.out.trans (HCN.out _ c2)).trans HR1.out)
            go_wp2
            go_roundw
            case rel => exact ⟨k + 1, by omega, by go_num, by rw [HC2.out]; exact HSL.out, HK.out⟩
            case measure => simp [intOf]; omega
      · have hk' : k = n := by omega
        subst hk'
        go_wp2
        go_ret
        exact ⟨_, rfl, by rw [HF.out, ← HEND.out]; exact HSL.out, HK.out⟩

theorem mul_bound {d : Int} {k : Nat} (hd : -10 ≤ d ∧ d ≤ 10) (hk : k ≤ 10) : -100 ≤ d * (k : Int) ∧ d * (k : Int) ≤ 100 := by
  have h : k = 0 ∨ k = 1 ∨ k = 2 ∨ k = 3 ∨ k = 4 ∨ k = 5 ∨ k = 6 ∨ k = 7 ∨ k = 8 ∨ k = 9 ∨ k = 10 := by omega
  rcases h with rfl | rfl | rfl | rfl | rfl | rfl | rfl | rfl | rfl | rfl | rfl <;> simp <;> omega
theorem walkOn_on {xs : List Int} {m : Int} {N : Nat} (d : Int) (k : Nat) (h : 1 ≤ xs.length ∧ xs.length ≤ N ∧ xs.getD (xs.length - 1) 0 = m) :
    1 ≤ (Nt.walkOn xs m d k).length ∧ (Nt.walkOn xs m d k).length ≤ N + k ∧ (Nt.walkOn xs m d k).getD ((Nt.walkOn xs m d k).length - 1) 0 = m + d * (k : Int) := by
  rw [Nt.walkOn_length]
  exact ⟨by omega, by omega, Nt.walkOn_last h.2.2 k⟩

set_option maxHeartbeats 1000000 in
set_option maxRecDepth 100000 in
theorem walkedOn_any (xs : List Int) (m d : Int) (n : Nat) (hl : 1 ≤ xs.length) (hL : xs.length ≤ 100) (hn : n ≤ 10) (hm : xs.getD (xs.length - 1) 0 = m) (hd : -10 ≤ d ∧ d ≤ 10) (hmb : -1000 ≤ m ∧ m ≤ 1000) (wB w : World) (hkB : Kept [] wB w) (v : Value) (hs : Sl w wB.heap.size v xs) :
    Calls Try.prog 60 #[v, .int .i64 d, .int .i64 n] w fun e w' => ∃ u, e = .returned u ∧ Sl w' wB.heap.size u (Nt.walkOn xs m d n) ∧ Kept [] wB w' := by
  have HS := Lib.hid hs
  have HKB := Lib.hid hkB
  have HLEN := Lib.hid (Nt.walkOn_length xs m d)
  have HLAST := Lib.hid (fun k => @Nt.walkOn_last xs m d hm k)
  have HNX := Lib.hid (fun k => show Nt.walkOn xs m d (k + 1) = Nt.walkOn xs m d k ++ [m + d * ((k : Int) + 1)] from rfl)
  have H0 : Hid (Nt.walkOn xs m d 0 = xs) := Lib.hid rfl
  have HB := Lib.hid (fun k (hk : k ≤ 10) => @mul_bound d k hd hk)
  obtain ⟨a, cap, rfl, _, _, _⟩ := hs.any
  clear hs hkB hm
  generalize Nt.walkOn xs m d = S at *
  go_enter Try.func60, Try.ntmps60
  go_wp2
  go_loopw [0, 8] (fun u i wr => ∃ k : Nat, k ≤ n ∧ i = .int .i64 k ∧ Sl wr wB.heap.size u (S k) ∧ Kept [] wB wr) (fun _ i _ => n - (intOf i).toNat)
  case atStart => exact ⟨0, Nat.zero_le _, rfl, by rw [H0.out]; exact HS.out, HKB.out⟩
  case round =>
    clear HS HKB
    obtain ⟨k, hk, rfl, hsl, hkept⟩ := hrel
    obtain ⟨p, hp⟩ : ∃ p, p + 1 = xs.length + k := ⟨xs.length + k - 1, by omega⟩
    have hpl : (S k).length = p + 1 := by rw [HLEN.out]; exact hp.symm
    obtain ⟨g, c, rfl, hg1, hg2⟩ := hsl.shape hpl (by omega)
    have HSL := Lib.hid hsl
    have HK := Lib.hid hkept
    by_cases hlt : k < n
    · obtain ⟨hc, _⟩ := hsl.at p (by omega)
      have hv : (S k).getD p 0 = m + d * (k : Int) := by
        have h := HLAST.out k
        rw [← hp] at h
        exact h
      have hy := HB.out k (by omega)
      have hsz := hkept.size
      have HLL : Hid ((S k).length ≤ 1000000) := Lib.hid (by omega)
      have HN1 := Lib.hid (HNX.out k)
      generalize hz : (S k).getD p 0 = z at *
      have HV : Hid (z + d = m + d * ((k : Int) + 1)) := Lib.hid (by rw [hv, Int.mul_add, Int.mul_one]; omega)
      have hz2 : -2000 ≤ z ∧ z ≤ 2000 := by omega
      have hw : wrap64 (z + d) = z + d := IntWalk.wrap64_in _ (by omega)
      have hwp : wrap64 (p : Int) = (p : Int) := IntWalk.wrap64_in _ (by omega)
      clear hsl hkept hv hy hz hp hpl
      go_wp2_with (at_builtin; refine app_int _ rfl _ _ rfl wB.heap.size _ _ HSL.out rfl rfl HLL.out (by omega) ?_; intro u' w1 hs1 hk1; have HS1 := Lib.hid hs1; have HK1 := Lib.hid hk1; clear hs1 hk1)
      go_roundw
      case rel => exact ⟨k + 1, by omega, by go_num, HS1.out.val HV.out HN1.out, HK.out.own HK1.out (fun g hg => (HSL.out.block hg).1)⟩
      case measure => simp [intOf]; omega
    · have hk' : k = n := by omega
      subst hk'
      clear hsl hkept
      go_wp2
      go_ret
      exact ⟨_, rfl, HSL.out, HK.out⟩

set_option maxHeartbeats 1000000 in
set_option maxRecDepth 100000 in
theorem tourRound_any (c s a d : Nat) (hc6 : c ≤ 6) (hs36 : s ≤ 36) (ha6 : a ≤ 6) (hd6 : d ≤ 6) (w : World) :
    Calls Try.prog 48 #[.int .i64 c, .int .i64 s, .int .i64 a, .int .i64 d] w fun e w' => ∃ u, e = .returned u ∧ Sl w' w.heap.size u (Nt.roundOf c s a d) ∧ Kept [] w w' := by
  have HS0 := Lib.hid (Sl.lit w [(s : Int)] (by simp))
  have HK0 : Hid (Kept [] w (w.alloc (.cells #[.int .i64 (s : Int)] 3))) := Lib.hid ((Kept.refl _ _).alloc _)
  have hcd : c * d ≤ 36 := Nat.mul_le_mul hc6 hd6
  have hcd2 : (c : Int) * (d : Int) = ((c * d : Nat) : Int) := (Int.natCast_mul c d).symm
  have hneg : wrap64 (-(c : Int)) = -(c : Int) := IntWalk.wrap64_in _ (by omega)
  have HF : Hid (Nt.roundOf c s a d = Nt.walkOn (Nt.walkOn (Nt.walkOn (Nt.walkOn [(s : Int)] s 1 a) ((s : Int) + 1 * a) c d) ((s : Int) + 1 * a + c * d) (-1) a) ((s : Int) + 1 * a + c * d + (-1) * a) (-(c : Int)) d) := Lib.hid rfl
  have T0 : Hid (1 ≤ ([(s : Int)] : List Int).length ∧ ([(s : Int)] : List Int).length ≤ 1 ∧ ([(s : Int)] : List Int).getD (([(s : Int)] : List Int).length - 1) 0 = (s : Int)) := Lib.hid ⟨by simp, by simp, by simp⟩
  have T1 := Lib.hid (walkOn_on 1 a T0.out)
  have T2 := Lib.hid (walkOn_on (c : Int) d T1.out)
  have T3 := Lib.hid (walkOn_on (-1) a T2.out)
  have B0 : Hid (-1000 ≤ (s : Int) ∧ (s : Int) ≤ 1000) := Lib.hid (by omega)
  have B1 : Hid (-1000 ≤ (s : Int) + 1 * a ∧ (s : Int) + 1 * a ≤ 1000) := Lib.hid (by omega)
  have B2 : Hid (-1000 ≤ (s : Int) + 1 * a + c * d ∧ (s : Int) + 1 * a + c * d ≤ 1000) := Lib.hid (by rw [hcd2]; omega)
  have B3 : Hid (-1000 ≤ (s : Int) + 1 * a + c * d + (-1) * a ∧ (s : Int) + 1 * a + c * d + (-1) * a ≤ 1000) := Lib.hid (by rw [hcd2]; omega)
  have HL : Hid (1 + a + d + a ≤ 100) := Lib.hid (by omega)
  clear hcd hcd2
  generalize hA1 : Nt.walkOn [(s : Int)] s 1 a = A1 at *
  have HA1 := Lib.hid hA1
  clear hA1
  generalize (s : Int) + 1 * a = m1 at *
  generalize hA2 : Nt.walkOn A1 m1 c d = A2 at *
  have HA2 := Lib.hid hA2
  clear hA2
  generalize m1 + (c : Int) * d = m2 at *
  generalize hA3 : Nt.walkOn A2 m2 (-1) a = A3 at *
  have HA3 := Lib.hid hA3
  clear hA3
  generalize m2 + (-1) * (a : Int) = m3 at *
  go_enter Try.func48, Try.ntmps48
  go_wp2_with fail
  refine (walkedOn_any [(s : Int)] (s : Int) 1 a T0.out.1 (by simp) (by omega) T0.out.2.2 (by omega) B0.out w _ HK0.out _ HS0.out).mono ?_
  rintro e w1 ⟨u1, rfl, hs1, hk1⟩
  rw [HA1.out] at hs1
  have HS1 := Lib.hid hs1
  have HK1 := Lib.hid hk1
  clear hs1 hk1
  go_wp2_with fail
  refine (walkedOn_any A1 m1 (c : Int) d T1.out.1 (by have := T1.out.2.1; have := HL.out; omega) (by omega) T1.out.2.2 (by omega) B1.out w _ HK1.out _ HS1.out).mono ?_
  rintro e w2 ⟨u2, rfl, hs2, hk2⟩
  rw [HA2.out] at hs2
  have HS2 := Lib.hid hs2
  have HK2 := Lib.hid hk2
  clear hs2 hk2
  go_wp2_with fail
  refine (walkedOn_any A2 m2 (-1) a T2.out.1 (by have := T2.out.2.1; have := HL.out; omega) (by omega) T2.out.2.2 (by omega) B2.out w _ HK2.out _ HS2.out).mono ?_
  rintro e w3 ⟨u3, rfl, hs3, hk3⟩
  rw [HA3.out] at hs3
  have HS3 := Lib.hid hs3
  have HK3 := Lib.hid hk3
  clear hs3 hk3
  go_wp2_with fail
  refine (walkedOn_any A3 m3 (-(c : Int)) d T3.out.1 (by have := T3.out.2.1; have := HL.out; omega) (by omega) T3.out.2.2 (by omega) B3.out w _ HK3.out _ HS3.out).mono ?_
  rintro e w4 ⟨u4, rfl, hs4, hk4⟩
  have HS4 := Lib.hid hs4
  have HK4 := Lib.hid hk4
  clear hs4 hk4
  go_wp2
  go_ret
  exact ⟨_, rfl, by rw [HF.out]; exact HS4.out, HK4.out⟩

theorem tourSquare_any (c s : Nat) (hc6 : c ≤ 6) (hs36 : s ≤ 36) (w : World) :
    Calls Try.prog 48 #[.int .i64 c, .int .i64 s, .int .i64 1, .int .i64 1] w fun e w' => ∃ u, e = .returned u ∧ Sl w' w.heap.size u (Nt.nats [s, s + 1, s + c + 1, s + c, s]) ∧ Kept [] w w' := by
  have h := tourRound_any c s 1 1 hc6 hs36 (by omega) (by omega) w
  rw [Nt.roundOf_square] at h
  exact h

theorem tourBorder_any {a b : Nat} (ha : 2 ≤ a) (hb : 2 ≤ b) (hab : a * b ≤ 6) (ha6 : a ≤ 6) (hb6 : b ≤ 6) (w : World) :
    Calls Try.prog 48 #[.int .i64 b, .int .i64 0, .int .i64 ((b : Int) - 1), .int .i64 ((a : Int) - 1)] w fun e w' => ∃ u, e = .returned u ∧ Sl w' w.heap.size u (Nt.nats (Nt.border a b)) ∧ Kept [] w w' := by
  have h := tourRound_any b 0 (b - 1) (a - 1) hb6 (by omega) (by omega) (by omega) w
  rw [Nt.roundOf_border ha hb hab] at h
  rw [show (b : Int) - 1 = ((b - 1 : Nat) : Int) by omega, show (a : Int) - 1 = ((a - 1 : Nat) : Int) by omega]
  exact h

set_option maxHeartbeats 1000000 in
set_option maxRecDepth 100000 in
theorem iBorder_any (r c : Int) (w : World) :
    Calls Try.prog 27 #[.int .i64 r, .int .i64 c] w fun e w' => ∃ u, e = .returned u ∧ Sl w' w.heap.size u (Nt.bordOf r c) ∧ Kept [] w w' := by
  cases ho : Nt.grB r c
  · have HF := Lib.hid (Nt.bordOf_no (Nt.bordB_no1 ho))
    go_enter Try.func27, Try.ntmps27
    go_wp2_with (go_at_call 41; refine (gridOk_any _ _ _).mono ?_; rintro e w' ⟨rfl, rfl⟩; rw [ho])
    go_ret
    exact ⟨_, rfl, by rw [HF.out]; exact Sl.nil _ _, Kept.refl _ _⟩
  · obtain ⟨a, b, rfl, rfl, ha, hb, ha6, hb6, hab⟩ := Nt.grB_ok ho
    by_cases h2 : 2 ≤ (a : Int)
    · by_cases h3 : 2 ≤ (b : Int)
      · have HF := Lib.hid (Nt.bordOf_ok (a := a) (b := b) (by omega) (by omega) hab)
        have HT := Lib.hid (fun w => @tourBorder_any a b (by omega) (by omega) hab ha6 hb6 w)
        go_enter Try.func27, Try.ntmps27
        go_wp2_with (first | (go_at_call 41; refine (gridOk_any _ _ _).mono ?_; rintro e w' ⟨rfl, rfl⟩; rw [ho]) | (go_at_call 48; refine (HT.out _).mono ?_; rintro e w1 ⟨u1, rfl, hs1, hk1⟩; have HS1 := Lib.hid hs1; have HK1 := Lib.hid hk1; clear hs1 hk1))
        go_ret
        exact ⟨_, rfl, by rw [HF.out]; exact HS1.out, HK1.out⟩
      · have HF := Lib.hid (Nt.bordOf_no (Nt.bordB_no3 (r := (a : Int)) h3))
        go_enter Try.func27, Try.ntmps27
        go_wp2_with (go_at_call 41; refine (gridOk_any _ _ _).mono ?_; rintro e w' ⟨rfl, rfl⟩; rw [ho])
        go_ret
        exact ⟨_, rfl, by rw [HF.out]; exact Sl.nil _ _, Kept.refl _ _⟩
    · have HF := Lib.hid (Nt.bordOf_no (Nt.bordB_no2 (c := (b : Int)) h2))
      go_enter Try.func27, Try.ntmps27
      go_wp2_with (go_at_call 41; refine (gridOk_any _ _ _).mono ?_; rintro e w' ⟨rfl, rfl⟩; rw [ho])
      go_ret
      exact ⟨_, rfl, by rw [HF.out]; exact Sl.nil _ _, Kept.refl _ _⟩

set_option maxHeartbeats 2000000 in
set_option maxRecDepth 100000 in
theorem iSquares_any (r c : Int) (w : World) :
    Calls Try.prog 20 #[.int .i64 r, .int .i64 c] w fun e w' => ∃ u vs, e = .returned u ∧ vs.length = (Nt.sqsOf r c).length ∧ Rw w' w.heap.size u vs (fun i => (Nt.sqsOf r c).getD i []) ∧ Apart vs ∧ Kept [] w w' := by
  cases ho : Nt.grB r c
  · have HF := Lib.hid (Nt.sqsOf_no ho)
    go_enter Try.func20, Try.ntmps20
    go_wp2_with (go_at_call 41; refine (gridOk_any _ _ _).mono ?_; rintro e w' ⟨rfl, rfl⟩; rw [ho])
    go_ret
    exact ⟨_, [], rfl, by rw [HF.out]; rfl, Rw.nil _ _ _, Apart.nil, Kept.refl _ _⟩
  · obtain ⟨a, b, rfl, rfl, ha, hb, ha6, hb6, hab⟩ := Nt.grB_ok ho
    have HF := Lib.hid (Nt.sqsOf_ok ha hb hab)
    have HLN := Lib.hid (Nt.squares_many ha hb hab)
    have HAT := Lib.hid (fun i j => @Nt.squares_at a b ha hb hab i j)
    obtain ⟨T, hT⟩ : ∃ T : Nat → Nat, T = fun i => i * (b - 1) := ⟨_, rfl⟩
    have HT0 : Hid (T 0 = 0) := Lib.hid (by rw [hT]; simp)
    have HTS : Hid (∀ i, T (i + 1) = T i + (b - 1)) := Lib.hid (by intro i; rw [hT]; exact Nat.succ_mul _ _)
    have HTE : Hid ((Nt.squares a b).length = T (a - 1)) := Lib.hid (by rw [hT]; exact HLN.out)
    have HAT2 : Hid (∀ i j, i < a - 1 → j < b - 1 → (Nt.squares a b).getD (T i + j) [] = [i * b + j, i * b + j + 1, i * b + j + b + 1, i * b + j + b, i * b + j]) := Lib.hid (by intro i j hi hj; rw [hT]; exact HAT.out i j hi hj)
    have HT6 : Hid (∀ i, i ≤ a → T i ≤ 36) := Lib.hid (by intro i hi; rw [hT]; exact Nat.mul_le_mul (by omega : i ≤ 6) (by omega : b - 1 ≤ 6))
    have HQ6 : Hid (∀ i, i < a → i * b ≤ 6) := Lib.hid (fun i hi => Nat.le_trans (Nat.mul_le_mul_right b (by omega : i ≤ a)) hab)
    have HSQ := Lib.hid (fun s w (h : s ≤ 36) => tourSquare_any b s hb6 h w)
    clear hT HAT HLN
    generalize Nt.squares a b = S at *
    go_enter Try.func20, Try.ntmps20
    go_wp2_with (go_at_call 41; refine (gridOk_any _ _ _).mono ?_; rintro e w' ⟨rfl, rfl⟩; rw [ho])
    go_loopw [5, 16] (fun u i wr => ∃ (k : Nat) (vs : List Value), k ≤ a - 1 ∧ i = .int .i64 k ∧ vs.length = T k ∧ Rw wr w.heap.size u vs (fun i => S.getD i []) ∧ Apart vs ∧ Kept [] w wr) (fun _ i _ => a - 1 - (intOf i).toNat)
    case atStart => exact ⟨0, [], Nat.zero_le _, rfl, by rw [HT0.out]; rfl, Rw.empty w _, Apart.nil, (Kept.refl _ _).alloc _⟩
    case round =>
      obtain ⟨k, vs, hk, rfl, hvl, hrw, hap, hkept⟩ := hrel
      have HRW := Lib.hid hrw
      have HAP := Lib.hid hap
      have HK := Lib.hid hkept
      have HVL := Lib.hid hvl
      clear hrw hap hkept hvl
      by_cases hlt : k < a - 1
      · have d1 : decide ((k : Int) < (a : Int) - 1) = true := dec_of (by omega)
        obtain ⟨q, hq⟩ : ∃ q, q = k * b := ⟨_, rfl⟩
        have hq6 : q ≤ 6 := by rw [hq]; exact HQ6.out k (by omega)
        have hwq : wrap64 ((k : Int) * (b : Int)) = (q : Int) := by rw [hq, ← Int.natCast_mul]; exact IntWalk.wrap64_in _ (by rw [← hq]; omega)
        have HAK : Hid (∀ j, j < b - 1 → S.getD (T k + j) [] = [q + j, q + j + 1, q + j + b + 1, q + j + b, q + j]) := Lib.hid (by rw [hq]; exact fun j hj => HAT2.out k j hlt hj)
        have HT6K := Lib.hid (HT6.out k (by omega))
        have HTSK := Lib.hid (HTS.out k)
        have HWQ := Lib.hid hwq
        clear hq hwq
        obtain ⟨wo, rfl⟩ : ∃ wo : World, wo = wr := ⟨_, rfl⟩
        go_wp2
        go_loopw [5, 21] (fun u i wr => ∃ (j : Nat) (vs : List Value), j ≤ b - 1 ∧ i = .int .i64 j ∧ vs.length = T k + j ∧ Rw wr w.heap.size u vs (fun i => S.getD i []) ∧ Apart vs ∧ Kept [] w wr) (fun _ i _ => b - 1 - (intOf i).toNat)
        case atStart => exact ⟨0, vs, Nat.zero_le _, rfl, HVL.out, HRW.out, HAP.out, HK.out⟩
        case round =>
          clear HRW HAP HK HVL
          obtain ⟨j, vs, hj, rfl, hvl, hrw, hap, hkept⟩ := hrel
          have HRW := Lib.hid hrw
          have HAP := Lib.hid hap
          have HK := Lib.hid hkept
          have HVL := Lib.hid hvl
          have hsz := hkept.size
          clear hrw hap hkept hvl
          by_cases hlt2 : j < b - 1
          · have hv6 : vs.length ≤ 1000000 := by rw [HVL.out]; have := HT6K.out; omega
            have HV6 := Lib.hid hv6
            obtain ⟨s, hs⟩ : ∃ s, s = q + j := ⟨_, rfl⟩
            have HE : Hid ((q : Int) + (j : Int) = (s : Int)) := Lib.hid (by omega)
            have HWS : Hid (wrap64 ((q : Int) + (j : Int)) = (s : Int)) := Lib.hid (by rw [HE.out]; exact IntWalk.wrap64_in _ (by omega))
            have HAJ := Lib.hid (HAK.out j hlt2)
            rw [← hs] at HAJ
            have HS36 : Hid (s ≤ 36) := Lib.hid (by omega)
            have d2 : decide ((j : Int) < (b : Int) - 1) = true := dec_of (by omega)
            have HJ := Lib.hid hlt2
            have HSZ := Lib.hid hsz
            clear hs hv6 hlt2 hj hsz hq6
            have hwq := HWQ.out
            have hws := HWS.out
            go_wp2_with fail
            refine (HSQ.out s _ HS36.out).mono ?_
            rintro e w2 ⟨u2, rfl, hs2, hk2⟩
            clear hwq hws
            have hsz := HSZ.out
            have hj2 := HJ.out
            obtain ⟨g2, cap2, rfl, hg2, _⟩ := hs2.shape (n := 5) (by simp [Nt.nats]) (by omega)
            have HRW2 := Lib.hid (HRW.out.stay hk2)
            have HK2 := Lib.hid (HK.out.trans hk2 (by simp))
            have HROW : Hid (Sl w2 w.heap.size (.slice (some ⟨g2, 0, none⟩) 5 cap2) (Nt.nats ((fun i => S.getD i []) vs.length))) := Lib.hid (by
              show Sl w2 w.heap.size (.slice (some ⟨g2, 0, none⟩) 5 cap2) (Nt.nats (S.getD vs.length []))
              rw [HVL.out, HAJ.out]; exact hs2.mono hsz)
            have HAP2 := Lib.hid (HAP.out.snoc (u := .slice (some ⟨g2, 0, none⟩) 5 cap2) fun i hi g hg e => by
              have h1 := ((HRW.out.2 i hi).block hg).2
              have h2 := (hs2.block e).1
              omega)
            have hsz2 := HK2.out.size
            clear hs2 hk2 hg2
            go_wp2_with (at_builtin; refine app_row (.slice (some ⟨g2, 0, none⟩) 5 cap2) rfl _ _ rfl w.heap.size _ vs _ HRW2.out rfl rfl HROW.out HV6.out (by omega) ?_; intro u' w3 hs3 hk3; have HS3 := Lib.hid hs3; have HK3 := Lib.hid hk3; clear hs3 hk3)
            go_roundw
            case rel => exact ⟨j + 1, _, by have := HJ.out; omega, by go_num, by rw [List.length_append, HVL.out]; rfl, HS3.out, HAP2.out, HK2.out.own HK3.out (fun g hg => ((rowsBlock HRW2.out hg).1))⟩
            case measure => have := HJ.out; simp [intOf]; omega
          · have hj' : j = b - 1 := by omega
            subst hj'
            go_wp2
            go_roundw
            case rel => exact ⟨k + 1, vs, by omega, by go_num, by rw [HTSK.out]; exact HVL.out, HRW.out, HAP.out, HK.out⟩
            case measure => simp [intOf]; omega
      · have hk' : k = a - 1 := by omega
        subst hk'
        go_wp2
        go_ret
        rw [HF.out]
        exact ⟨_, vs, rfl, by rw [HTE.out]; exact HVL.out, HRW.out, HAP.out, HK.out⟩

set_option maxHeartbeats 2000000 in
set_option maxRecDepth 100000 in
theorem iSqW_any (r c : Int) (xs : List Int) (w : World) (v : Value) (base : Nat) (hs : Sl w base v xs) :
    Calls Try.prog 24 #[.int .i64 r, .int .i64 c, v] w fun e w' => ∃ u, e = .returned u ∧ Sl w' w.heap.size u (Nt.sqwOf r c xs) ∧ Kept [] w w' := by
  have HS := Lib.hid hs
  obtain ⟨xa, xcap, rfl, _, _, _⟩ := hs.any
  clear hs
  go_enter Try.func24, Try.ntmps24
  go_wp2_with fail
  refine (iGrid_any r c _).mono ?_
  rintro e w2 ⟨u2, rfl, hs2, hk2⟩
  have HG2 := Lib.hid hs2
  have HS2 := Lib.hid (HS.out.stay hk2)
  have HK2 := Lib.hid hk2
  obtain ⟨ga, gcap, rfl, _, _, _⟩ := hs2.any
  clear hs2 hk2 HS
  cases hf : Nt.fireB (Nt.gridOf r c) 3 xs
  · have HF := Lib.hid (Nt.sqwOf_no2 hf)
    go_wp2_with (go_at_call 51; refine (turningOk_any (Nt.gridOf r c) xs _ _ _ _ _ HG2.out HS2.out).mono ?_; rintro e w4 ⟨rfl, rfl⟩; rw [hf])
    go_ret
    exact ⟨_, rfl, by rw [HF.out]; exact Sl.nil _ _, HK2.out⟩
  · cases hg : Nt.grB r c
    · rw [Nt.gridOf_no hg, Nt.fireB_no1 (by rfl)] at hf
      exact absurd hf (by simp)
    · have HF := Lib.hid (Nt.sqwOf_yes hg hf)
      go_wp2_with (first | (go_at_call 51; refine (turningOk_any (Nt.gridOf r c) xs _ _ _ _ _ HG2.out HS2.out).mono ?_; rintro e w4 ⟨rfl, rfl⟩; rw [hf]) | fail)
      refine (iSquares_any r c _).mono ?_
      rintro e w3 ⟨u3, vs, rfl, hvl, hrw, hap, hk3⟩
      have HR3 := Lib.hid hrw
      have HG3 := Lib.hid (HG2.out.stay hk3)
      have HS3 := Lib.hid (HS2.out.stay hk3)
      have HK3 := Lib.hid (HK2.out.trans hk3 (by simp))
      have HVL := Lib.hid hvl
      have HWB := Lib.hid (fun i (hi : i < vs.length) => hrw.2 i hi)
      obtain ⟨n, hn⟩ : ∃ n, n = vs.length := ⟨_, rfl⟩
      have HN := Lib.hid hn
      have hv6 : n ≤ 6 := by rw [hn, hvl]; exact Nt.sqsOf_small r c
      clear hrw hap hk3 HG2 HS2 HK2 hvl
      obtain ⟨ra, rcap, hr⟩ : ∃ (ra : Option Addr) (rcap : Nat), u3 = .slice ra vs.length rcap := by
        by_cases h0 : 0 < vs.length
        · obtain ⟨g, cap, rfl, _⟩ := HR3.out.form rfl h0
          exact ⟨_, _, rfl⟩
        · rcases HR3.out.1.2 with ⟨rfl, hn⟩ | ⟨g, cap, cur, rfl, _⟩
          · exact ⟨none, 0, by rw [hn]⟩
          · exact ⟨_, _, rfl⟩
      subst hr
      rw [← hn]
      have HML : Hid ((Nt.sqwOf r c xs).length = n) := Lib.hid (by rw [HF.out, List.length_map, ← HVL.out, HN.out])
      have HMG := Lib.hid (fun i (hi : i < n) => show (Nt.sqwOf r c xs).getD i 0 = Nt.windOf (Nt.gridOf r c) xs (Nt.nats ((Nt.sqsOf r c).getD i [])) from by
        have hi2 : i < (Nt.sqsOf r c).length := by rw [← HVL.out, ← HN.out]; exact hi
        rw [HF.out]; simp [List.getD_eq_getElem?_getD, hi2])
      generalize hLq : Nt.sqwOf r c xs = L at *
      have HLQ := Lib.hid hLq
      have HCL := Lib.hid (copyTo_length L)
      have HCS := Lib.hid (copyTo_set L)
      have H0 : Hid (List.replicate n 0 = copyTo L 0) := Lib.hid (by unfold copyTo; rw [HML.out]; simp)
      have HCE : Hid (copyTo L n = L) := Lib.hid (by rw [← HML.out]; exact copyTo_end L)
      clear hn hLq
      go_wp2_with (at_make; refine make_int _ n rfl _ _ rfl rfl rfl (by omega) ?_; intro w4 hs4 hk4 _; rw [H0.out] at hs4; have HS4 := Lib.hid hs4; have HK4 := Lib.hid hk4; clear hs4 hk4)
      go_loopw [27] (fun i wr => ∃ k : Nat, k ≤ n ∧ i = .int .i64 k ∧ Sl wr w3.heap.size (.slice (some ⟨w3.heap.size, 0, none⟩) n n) (copyTo L k) ∧ Kept [] w3 wr) (fun i _ => n - (intOf i).toNat)
      case atStart => exact ⟨0, Nat.zero_le _, rfl, HS4.out, HK4.out⟩
      case round =>
        clear HS4 HK4
        obtain ⟨k, hk, rfl, hsl, hkept⟩ := hrel
        have HSL := Lib.hid hsl
        have HK := Lib.hid hkept
        have HGW := Lib.hid (HG3.out.stay hkept)
        have HSW := Lib.hid (HS3.out.stay hkept)
        by_cases hlt : k < n
        · obtain ⟨g, cap, hform, _, hgl, _, _, hcell⟩ := HR3.out.form HN.out.symm (by omega)
          have hra : ra = some ⟨g, 0, none⟩ := by simp [HN.out] at hform; exact hform.1
          subst hra
          have hck := (hkept.cell (p := ⟨g, k, none⟩) hgl (by simp)).trans (hcell k hlt)
          have HT := Lib.hid ((HWB.out k (by rw [← HN.out]; exact hlt)).stay hkept)
          have HM := Lib.hid (HMG.out k hlt)
          have HLK := Lib.hid (HCL.out k (by rw [HML.out]; exact hk))
          have HSK := Lib.hid (HCS.out k (by rw [HML.out]; exact hlt))
          obtain ⟨hcz, hfz⟩ := hsl.at k (by rw [HLK.out, HML.out]; exact hlt)
          clear hform hcell hsl hkept
          generalize vs.getD k undef = t at *
          generalize (copyTo L k).getD k 0 = z at *
          have HWD := Lib.hid (iWind_any (Nt.gridOf r c) xs (Nt.nats ((Nt.sqsOf r c).getD k [])) wr _ _ _ _ _ _ HGW.out HSW.out HT.out)
          rw [← HM.out] at HWD
          generalize Nt.windB (Nt.gridOf r c) xs (Nt.nats ((Nt.sqsOf r c).getD k [])) = bb at *
          generalize L.getD k 0 = x at *
          go_wp2_with fail
          refine HWD.out.mono ?_
          rintro e w5 ⟨rfl, hq5⟩
          have cz5 := (hq5.cell ⟨w3.heap.size, k, none⟩).trans hcz
          have fz5 := (hq5.frozen ⟨w3.heap.size, k, none⟩).trans hfz
          have HSX := Lib.hid (hq5.sl HSL.out)
          have HKX := Lib.hid (HK.out.trans (rows' := []) hq5.kept (by simp))
          clear hq5 hcz hfz hck
          go_wp2
          go_roundw
          case rel => exact ⟨k + 1, by omega, by go_num, by rw [← HSK.out]; exact HSX.out.set (by rw [HLK.out, HML.out]) k _, HKX.out.setCell (.inr (Nat.le_refl _)) _⟩
          case measure => simp [intOf]; omega
        · have hk' : k = n := by omega
          subst hk'
          clear hsl hkept
          go_wp2
          go_ret
          exact ⟨_, rfl, by rw [HLQ.out]; have h := HSL.out; rw [HCE.out] at h; exact h.mono HK3.out.size, HK3.out.trans HK.out (by simp)⟩
end Go.Proofs.Ytllbdhfckdljgaa
