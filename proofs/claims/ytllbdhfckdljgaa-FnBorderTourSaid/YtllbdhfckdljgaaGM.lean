/-
  Walks: grids, squares, borders, by the model.
-/
import Derived.Test.YtllbdhfckdljgaaPureGI
import Derived.Test.YtllbdhfckdljgaaR1
import Derived.Test.YtllbdhfckdljgaaNB
import Derived.Test.YtllbdhfckdljgaaXW
namespace Go.Proofs.Ytllbdhfckdljgaa
open Go.RowKit

theorem mul_small {r c : Int} (h1 : 1 ≤ r ∧ r ≤ 6) (h2 : 1 ≤ c ∧ c ≤ 6) : 1 ≤ r * c ∧ r * c ≤ 36 := by
  have h : r = 1 ∨ r = 2 ∨ r = 3 ∨ r = 4 ∨ r = 5 ∨ r = 6 := by omega
  rcases h with rfl | rfl | rfl | rfl | rfl | rfl <;> omega

set_option maxHeartbeats 1000000 in
set_option maxRecDepth 100000 in
theorem l12Ok_any (r c : Int) (w : World) :
    Calls Try.prog 43 #[.int .i64 r, .int .i64 c] w fun e w' => e = .returned (.bool (Nt.grB r c)) ∧ w = w' := by
  by_cases h1 : 1 ≤ r ∧ r ≤ 6
  · have d1 : decide (1 ≤ r ∧ r ≤ 6) = true := dec_of h1
    by_cases h2 : 1 ≤ c ∧ c ≤ 6
    · have d2 : decide (1 ≤ c ∧ c ≤ 6) = true := dec_of h2
      have hm := mul_small h1 h2
      have hw : wrap64 (r * c) = r * c := IntWalk.wrap64_in _ (by omega)
      have HF := Lib.hid (Nt.grB_in h1 h2)
      clear h1 h2
      have d3 : decide (r * c ≤ 6) = true ∨ decide (r * c ≤ 6) = false := by cases decide (r * c ≤ 6) <;> simp
      rcases d3 with d3 | d3
      all_goals
        go_enter Try.func43, Try.ntmps43
        go_wp2_with (go_at_call 59; first | (with_reducible refine (l1In_any r 1 6 _).mono ?_; rintro e w' ⟨rfl, rfl⟩; rw [d1]) | (refine (l1In_any c 1 6 _).mono ?_; rintro e w' ⟨rfl, rfl⟩; rw [d2]))
        go_ret
        exact ⟨by rw [HF.out, d3]; rfl, rfl⟩
    · have d2 : decide (1 ≤ c ∧ c ≤ 6) = false := dec_not h2
      have HF := Lib.hid (Nt.grB_no2 (r := r) h2)
      clear h1 h2
      go_enter Try.func43, Try.ntmps43
      go_wp2_with (go_at_call 59; first | (with_reducible refine (l1In_any r 1 6 _).mono ?_; rintro e w' ⟨rfl, rfl⟩; rw [d1]) | (refine (l1In_any c 1 6 _).mono ?_; rintro e w' ⟨rfl, rfl⟩; rw [d2]))
      go_ret
      exact ⟨by rw [HF.out]; rfl, rfl⟩
  · have d1 : decide (1 ≤ r ∧ r ≤ 6) = false := dec_not h1
    have HF := Lib.hid (Nt.grB_no1 (c := c) h1)
    clear h1
    go_enter Try.func43, Try.ntmps43
    go_wp2_with (go_at_call 59; refine (l1In_any r 1 6 _).mono ?_; rintro e w' ⟨rfl, rfl⟩; rw [d1])
    go_ret
    exact ⟨by rw [HF.out]; rfl, rfl⟩

theorem or2 {p q : Nat} (hp : p ≤ 5) (hq : q ≤ 5) : bits .or .i64 (bits .or .i64 0 (wrap64 (2 ^ p))) (wrap64 (2 ^ q)) = ((2 ^ p ||| 2 ^ q : Nat) : Int) := by
  rw [or_zero_shl _ (by omega)]; exact or_shl _ _ (pow_lt64 (by omega)) (by omega)
theorem or3 {p q r : Nat} (hp : p ≤ 5) (hq : q ≤ 5) (hr : r ≤ 5) : bits .or .i64 (bits .or .i64 (bits .or .i64 0 (wrap64 (2 ^ p))) (wrap64 (2 ^ q))) (wrap64 (2 ^ r)) = ((2 ^ p ||| 2 ^ q ||| 2 ^ r : Nat) : Int) := by
  rw [or2 hp hq]; exact or_shl _ _ (or_small (pow_lt64 (by omega)) (by omega)) (by omega)
theorem or4 {p q r s : Nat} (hp : p ≤ 5) (hq : q ≤ 5) (hr : r ≤ 5) (hs : s ≤ 5) : bits .or .i64 (bits .or .i64 (bits .or .i64 (bits .or .i64 0 (wrap64 (2 ^ p))) (wrap64 (2 ^ q))) (wrap64 (2 ^ r))) (wrap64 (2 ^ s)) = ((2 ^ p ||| 2 ^ q ||| 2 ^ r ||| 2 ^ s : Nat) : Int) := by
  rw [or3 hp hq hr]; exact or_shl _ _ (or_small (or_small (pow_lt64 (by omega)) (by omega)) (by omega)) (by omega)

/-- What the walks reckon with rows and columns. -/
theorem grid_nums {a b : Nat} (ha : 1 ≤ a) (hb : 1 ≤ b) (hab : a * b ≤ 6) :
    wrap64 ((a : Int) * (b : Int)) = ((a * b : Nat) : Int) ∧ wrap64 (((a : Int) - 1) * (b : Int)) = ((a * b - b : Nat) : Int) ∧ b ≤ a * b := by
  have h1 : b ≤ a * b := by have := Nat.mul_le_mul_right b ha; omega
  have e1 : (a : Int) * (b : Int) = ((a * b : Nat) : Int) := (Int.natCast_mul a b).symm
  have e2 : ((a : Int) - 1) * (b : Int) = ((a * b - b : Nat) : Int) := by
    rw [Int.sub_mul, e1]; omega
  rw [e1, e2]
  exact ⟨IntWalk.wrap64_in _ (by omega), IntWalk.wrap64_in _ (by omega), h1⟩

/-- A node that has a next one in its row is not the last one. -/
theorem next_in {a b k : Nat} (hk : k < a * b) (h : k % b + 1 < b) : k + 1 < a * b := by
  have h1 := Nat.div_add_mod k b
  have h2 : k / b < a := Nat.div_lt_of_lt_mul (by rw [Nat.mul_comm]; exact hk)
  have h3 : b * (k / b + 1) ≤ b * a := Nat.mul_le_mul_left b h2
  rw [Nat.mul_add, Nat.mul_one, Nat.mul_comm b a] at h3
  omega

set_option maxHeartbeats 2000000 in
set_option maxRecDepth 100000 in
theorem sGrid_any (r c : Int) (w : World) :
    Calls Try.prog 15 #[.int .i64 r, .int .i64 c] w fun e w' => ∃ u, e = .returned u ∧ Sl w' w.heap.size u (Nt.gridOf r c) ∧ Kept [] w w' := by
  cases ho : Nt.grB r c
  · have HF := Lib.hid (Nt.gridOf_no ho)
    go_enter Try.func15, Try.ntmps15
    go_wp2
    refine wp_loop_rounds 1 ?_
    rw [rounds_succ]
    go_wp2_with (go_at_call 43; refine (l12Ok_any _ _ _).mono ?_; rintro e w' ⟨rfl, rfl⟩; rw [ho])
    go_ret
    exact ⟨_, rfl, by rw [HF.out]; exact Sl.empty' w, (Kept.refl _ _).alloc _⟩
  · obtain ⟨a, b, rfl, rfl, ha, hb, ha6, hb6, hab⟩ := Nt.grB_ok ho
    have HF := Lib.hid (Nt.gridOf_ok ha hb hab)
    have HGL := Lib.hid (Nt.gridN_length a b)
    have HG := Lib.hid (fun k (hk : k < a * b) => Nt.gridN_get a b hk)
    have HGS := Lib.hid (fun k => show Nt.gridSet a b k = (if 0 < k % b then 2 ^ (k - 1) else 0) ||| (if k % b + 1 < b then 2 ^ (k + 1) else 0) ||| (if b ≤ k then 2 ^ (k - b) else 0) ||| (if k + b < a * b then 2 ^ (k + b) else 0) from rfl)
    have HTK := Lib.hid (Nt.take_more (Nt.gridN a b))
    have HNXT := Lib.hid (fun k (hk : k < a * b) => next_in hk)
    obtain ⟨m1, m2, m3⟩ := grid_nums ha hb hab
    generalize Nt.gridN a b = L at *
    generalize Nt.gridSet a b = S at *
    generalize a * b = n at *
    go_enter Try.func15, Try.ntmps15
    go_wp2
    go_loopw [5, 6, 7] (fun u i st wr => ∃ k : Nat, k ≤ n ∧ i = .int .i64 k ∧ Sl wr w.heap.size u (Nt.nats (L.take k)) ∧ Kept [] w wr) (fun _ i _ _ => n - (intOf i).toNat)
    case atStart => exact ⟨0, Nat.zero_le _, rfl, Sl.empty' w, (Kept.refl _ _).alloc _⟩
    case round =>
      obtain ⟨k, hk, rfl, hsl, hkept⟩ := hrel
      have HSL := Lib.hid hsl
      have HK := Lib.hid hkept
      have hsz := hkept.size
      clear hsl hkept
      by_cases hlt : k < n
      · have HT := Lib.hid (HTK.out k (by rw [HGL.out]; exact hlt))
        have hl : (Nt.nats (L.take k)).length ≤ 1000000 := by rw [Nt.nats_length, List.length_take]; omega
        have HL := Lib.hid hl
        have HV : Hid (L.getD k 0 = _) := Lib.hid ((HG.out k hlt).trans (HGS.out k))
        have ht : (k : Int).tmod (b : Int) = ((k % b : Nat) : Int) := tmod_nat k b
        have hmb : k % b < b := Nat.mod_lt _ (by omega)
        have hmk : k % b ≤ k := Nat.mod_le _ _
        have hnx := HNXT.out k hlt
        clear hl
        generalize k % b = m at *
        have d2 : decide ((m : Int) < (b : Int) - 1) = decide (m + 1 < b) := by
          by_cases h : m + 1 < b
          · rw [dec_of h, dec_of (by omega)]
          · rw [dec_not h, dec_not (by omega)]
        have d4 : decide ((k : Int) < ((n - b : Nat) : Int)) = decide (k + b < n) := by
          by_cases h : k + b < n
          · rw [dec_of h, dec_of (by omega)]
          · rw [dec_not h, dec_not (by omega)]
        by_cases c1 : 0 < m <;> by_cases c2 : m + 1 < b <;> by_cases c3 : b ≤ k <;> by_cases c4 : k + b < n
        all_goals
          have HC := Lib.hid (And.intro hlt (And.intro hmk hmb))
          first | (rw [dec_of c2] at d2; have hk5 := hnx c2) | rw [dec_not c2] at d2
          clear hnx
          first | rw [dec_of c4] at d4 | rw [dec_not c4] at d4
          go_wp2_with (first | (go_at_call 43; refine (l12Ok_any _ _ _).mono ?_; rintro e w' ⟨rfl, rfl⟩; rw [ho]) | (at_builtin; refine app_int _ rfl _ _ rfl w.heap.size _ _ HSL.out rfl rfl HL.out (by omega) ?_; intro u' w1 hs1 hk1; have HS1 := Lib.hid hs1; have HK1 := Lib.hid hk1; clear hs1 hk1))
          all_goals (
            go_roundw
            case rel =>
              refine ⟨k + 1, by omega, by go_num, HS1.out.val ?_ HT.out, HK.out.own HK1.out (fun g hg => (HSL.out.block hg).1)⟩
              rw [HV.out]
              clear HV HT HL HSL HK HS1 HK1 HG HGS HTK
              simp only [c1, c2, c3, c4, if_true, if_false, Nat.or_zero, Nat.zero_or]
              first | (with_reducible first | exact or_zero_shl _ (by omega) | exact or2 (by omega) (by omega) | exact or3 (by omega) (by omega) (by omega) | exact or4 (by omega) (by omega) (by omega) (by omega)) | rfl
            case measure => simp [intOf]; omega)
      · have hk' : k = n := by omega
        subst hk'
        go_wp2_with (go_at_call 43; refine (l12Ok_any _ _ _).mono ?_; rintro e w' ⟨rfl, rfl⟩; rw [ho])
        go_ret
        refine ⟨_, rfl, ?_, HK.out⟩
        have h := HSL.out
        rw [List.take_of_length_le (by rw [HGL.out]; exact Nat.le_refl _)] at h
        rw [HF.out]
        exact h
end Go.Proofs.Ytllbdhfckdljgaa
