/-
  Plain mathematics: what the laws of fronts compare.
-/
import Derived.Test.YtdpkacpeednnoaaRA
import Derived.Test.YtdpkacpeednnoaaPureRC
namespace Go.Proofs.Ytdpkacpeednnoaa
namespace Nt

def negs (fs : List Int) : List Int := fs.map fun x => -x
theorem negs_length (fs : List Int) : (negs fs).length = fs.length := by simp [negs]
theorem negs_get (fs : List Int) {k : Nat} (h : k < fs.length) : (negs fs).getD k 0 = -(fs.getD k 0) := by
  simp [negs, List.getD_eq_getElem?_getD, h]
theorem negs_take (fs : List Int) {k : Nat} (h : k < fs.length) : (negs fs).take (k + 1) = (negs fs).take k ++ [-(fs.getD k 0)] := by
  rw [List.take_succ_eq_append_getElem (by rw [negs_length]; exact h)]
  have e := negs_get fs h
  rw [List.getD_eq_getElem?_getD, List.getElem?_eq_getElem (by rw [negs_length]; exact h), Option.getD_some] at e
  rw [e]
theorem sumI_negs (fs : List Int) : ∀ k, k ≤ fs.length → sumI (negs fs) k = - sumI fs k
  | 0, _ => by show (0 : Int) = -0; omega
  | k + 1, h => by
    rw [sumI, sumI, sumI_negs fs k (by omega), negs_get fs (by omega)]
    omega
theorem fr_negs {fs : List Int} (h : Fr fs) : Fr (negs fs) := by
  refine ⟨by rw [negs_length]; exact h.lo, by rw [negs_length]; exact h.hi, fun k hk => ?_, ?_⟩
  · rw [negs_length] at hk
    rw [negs_get fs hk]
    have := h.sign k hk
    omega
  · rw [negs_length, sumI_negs fs _ (Nat.le_refl _)]
    have := h.sum
    omega
theorem negs_negs (fs : List Int) : negs (negs fs) = fs := by
  unfold negs
  rw [List.map_map]
  have : ((fun x : Int => -x) ∘ fun x => -x) = id := by funext x; simp
  rw [this, List.map_id]
theorem frB_negs (fs : List Int) : frB (negs fs) = frB fs := by
  rw [Bool.eq_iff_iff, frB_iff, frB_iff]
  exact ⟨fun h => by have := fr_negs h; rw [negs_negs] at this; exact this, fr_negs⟩
theorem frB_zero : frB [0, 0, 0] = true := by decide
theorem frB_two : frB [0, 0] = false := by decide

theorem row_back {ks : List Nat} (st : St 3 ks) (h3 : 3 ≤ ks.length) : stFrOf ((ks.getD 0 0 : Nat) : Int) (frow ks) = nats ks := by
  rw [stFrOf_ok (frow_fr st h3) (st.lt 0 (by omega)), stOf_frow st]
theorem st_back {a : Nat} (ha : a < 3) {fs : List Int} (h : Fr fs) : frontsOf (nats (stOf a fs)) = fs ∧ stB 3 (nats (stOf a fs)) = true ∧ (stOf a fs).getD 0 0 = a := by
  have st := stOf_st a h
  exact ⟨by rw [frontsOf_ok st (by rw [stOf_length]; exact h.lo), frow_stOf a h], st_stB3 st, stOf_zero ha h⟩

/-- Sums and squares of fronts, counted. -/
theorem sumI_cnt {fs : List Int} : ∀ k, signsTo fs k → sumI fs k = (fcTo fs 1 k : Int) - (fcTo fs (-1) k : Int)
  | 0, _ => by show (0 : Int) = ((0 : Nat) : Int) - ((0 : Nat) : Int); omega
  | k + 1, h => by
    have ih := sumI_cnt k (fun i hi => h i (by omega))
    have h1 := h k (by omega)
    rw [sumI, fcTo, fcTo, ih]
    by_cases e1 : fs.getD k 0 = 1
    · rw [if_pos e1, if_neg (by omega)]; omega
    · by_cases e2 : fs.getD k 0 = -1
      · rw [if_neg e1, if_pos e2]; omega
      · rw [if_neg e1, if_neg e2]; omega
def sqTo (fs : List Int) : Nat → Int
  | 0 => 0
  | k + 1 => sqTo fs k + fs.getD k 0 * fs.getD k 0
theorem sq_one {x : Int} (h : -1 ≤ x ∧ x ≤ 1) : 0 ≤ x * x ∧ x * x ≤ 1 := by
  have : x = -1 ∨ x = 0 ∨ x = 1 := by omega
  rcases this with rfl | rfl | rfl <;> decide
theorem sqTo_cnt {fs : List Int} : ∀ k, signsTo fs k → sqTo fs k = (fcTo fs 1 k : Int) + (fcTo fs (-1) k : Int)
  | 0, _ => by show (0 : Int) = ((0 : Nat) : Int) + ((0 : Nat) : Int); omega
  | k + 1, h => by
    have ih := sqTo_cnt k (fun i hi => h i (by omega))
    have h1 := h k (by omega)
    rw [sqTo, fcTo, fcTo, ih]
    have : fs.getD k 0 = -1 ∨ fs.getD k 0 = 0 ∨ fs.getD k 0 = 1 := by omega
    rcases this with e | e | e <;> rw [e] <;> simp <;> omega
theorem fr_signs {fs : List Int} (h : Fr fs) : signsTo fs fs.length := h.sign
theorem fr_sum {fs : List Int} (h : Fr fs) : sumI fs fs.length = (cntI fs 1 : Int) - (cntI fs (-1) : Int) := by
  rw [sumI_cnt _ (fr_signs h), fcTo_all, fcTo_all]
theorem fr_sq {fs : List Int} (h : Fr fs) : sqTo fs fs.length = (cntI fs 1 : Int) + (cntI fs (-1) : Int) := by
  rw [sqTo_cnt _ (fr_signs h), fcTo_all, fcTo_all]
theorem step_cnt {fs : List Int} (h : Fr fs) : (cntI fs 1 : Int) - cntI fs (-1) = (cntI (fstep fs) 1 : Int) - cntI (fstep fs) (-1) ∧ cntI (fstep fs) 1 ≤ cntI fs 1 ∧ cntI (fstep fs) (-1) ≤ cntI fs (-1) := by
  have h1 := fronts_step h
  unfold chkStep at h1
  simp only [Bool.and_eq_true, decide_eq_true_eq] at h1
  exact ⟨h1.1.1, h1.1.2, h1.2⟩
theorem step_sum {fs : List Int} (h : Fr fs) : sumI (fstep fs) fs.length = sumI fs fs.length := by
  have h1 := fr_sum h
  have h2 := fr_sum (fstep_fr h)
  rw [fstep_length] at h2
  have := (step_cnt h).1
  omega
theorem step_sq {fs : List Int} (h : Fr fs) : sqTo (fstep fs) fs.length ≤ sqTo fs fs.length := by
  have h1 := fr_sq h
  have h2 := fr_sq (fstep_fr h)
  rw [fstep_length] at h2
  have := step_cnt h
  omega
theorem turn_fronts (a : Nat) {fs : List Int} (h : Fr fs) : frontsOf (turnOf (ringOf (fs.length : Int)) (nats (stOf a fs))) = fstep fs ∧ (turnOf (ringOf (fs.length : Int)) (nats (stOf a fs))).length = fs.length := by
  have st := stOf_st a h
  have h3 : 3 ≤ (stOf a fs).length := by rw [stOf_length]; exact h.lo
  have h6 := st.few
  have ok := ring_ok h3 h6
  have e := stOf_length a fs
  have hr : ringOf (fs.length : Int) = nats (ringN (stOf a fs).length) := by
    rw [e]
    have h7 := h.lo
    have h8 := h.hi
    unfold ringOf
    rw [if_pos (by omega)]
    simp
  rw [hr, turnOf_ok ok st (by rw [ringN_length])]
  have st2 : St 3 (turn (ringN (stOf a fs).length) (stOf a fs)) := turns_st (ringN (stOf a fs).length) st 1
  refine ⟨?_, by rw [nats_length, turn_length, e]⟩
  rw [frontsOf_ok st2 (by rw [turn_length]; exact h3)]
  rw [frow_turn st h3, frow_stOf a h]
theorem tourR_take {n k : Nat} (h : k < n + 1) : (nats (tourR n)).take (k + 1) = (nats (tourR n)).take k ++ [((k % n : Nat) : Int)] := by
  have hl : k < (nats (tourR n)).length := by rw [nats_length, tourR_length]; exact h
  rw [List.take_succ_eq_append_getElem hl]
  have e := nats_get (tourR n) k
  rw [tourR_get h, List.getD_eq_getElem?_getD, List.getElem?_eq_getElem hl, Option.getD_some] at e
  rw [e]
theorem moves_fr {fs : List Int} (h : Fr fs) : ∀ t, Fr (moves fs t)
  | 0 => h
  | t + 1 => fstep_fr (moves_fr h t)
theorem moves_length (fs : List Int) : ∀ t, (moves fs t).length = fs.length
  | 0 => rfl
  | t + 1 => by rw [moves, fstep_length, moves_length fs t]
theorem moves_cnt {fs : List Int} (h : Fr fs) : ∀ t, (cntI fs 1 : Int) - cntI fs (-1) = (cntI (moves fs t) 1 : Int) - cntI (moves fs t) (-1)
  | 0 => rfl
  | t + 1 => by
    rw [moves_cnt h t]
    exact (step_cnt (moves_fr h t)).1
theorem cntI_le (fs : List Int) (s : Int) : cntI fs s ≤ fs.length := List.length_filter_le _ _
theorem fcTo_none {fs : List Int} {s : Int} : ∀ k, fcTo fs s k = 0 → ∀ i, i < k → fs.getD i 0 ≠ s
  | 0, _, i, hi => absurd hi (by omega)
  | k + 1, h, i, hi => by
    rw [fcTo] at h
    by_cases e : i = k
    · subst e
      intro e2
      rw [if_pos e2] at h
      omega
    · exact fcTo_none k (by omega) i (by omega)
theorem none_zero {fs : List Int} (h : Fr fs) (h1 : cntI fs 1 = 0) (h2 : cntI fs (-1) = 0) {k : Nat} (hk : k < fs.length) : fs.getD k 0 = 0 := by
  have e1 := fcTo_none (fs := fs) (s := 1) fs.length (by rw [fcTo_all]; exact h1) k hk
  have e2 := fcTo_none (fs := fs) (s := -1) fs.length (by rw [fcTo_all]; exact h2) k hk
  have := h.sign k hk
  omega
theorem end_min {fs : List Int} (h : Fr fs) : cntI (moves fs fs.length) 1 = 0 ∨ cntI (moves fs fs.length) (-1) = 0 := by
  have h1 := fronts_end h
  unfold chkEnd at h1
  simp only [Bool.and_eq_true, decide_eq_true_eq] at h1
  omega
theorem turnedRow_get {fs : List Int} {k : Nat} (hk : k < fs.length) : (turnedRow fs).getD k 0 = fs.getD ((k + 1) % fs.length) 0 := by
  unfold turnedRow
  by_cases e : k + 1 < fs.length
  · rw [List.getD_eq_getElem?_getD, List.getElem?_append_left (by rw [List.length_drop]; omega), List.getElem?_drop, Nat.mod_eq_of_lt e, ← List.getD_eq_getElem?_getD, Nat.add_comm]
  · have e2 : k + 1 = fs.length := by omega
    rw [List.getD_eq_getElem?_getD, List.getElem?_append_right (by rw [List.length_drop]; omega), List.length_drop, e2, Nat.mod_self, List.getElem?_take]
    rw [if_pos (by omega), ← List.getD_eq_getElem?_getD]
    congr 1
    omega
theorem end_none {fs : List Int} (h : Fr fs) (he : (cntI fs 1 : Int) - cntI fs (-1) = 0) {k : Nat} (hk : k < fs.length) : (moves fs fs.length).getD k 0 = 0 := by
  have h1 := moves_cnt h fs.length
  have h2 := end_min h
  exact none_zero (moves_fr h _) (by omega) (by omega) (by rw [moves_length]; exact hk)
theorem end_more {fs : List Int} (h : Fr fs) (he : 0 < (cntI fs 1 : Int) - cntI fs (-1)) {k : Nat} (hk : k < fs.length) : (fstep (moves fs fs.length)).getD k 0 = (moves fs fs.length).getD ((k + 1) % fs.length) 0 := by
  have h1 := fronts_end h
  unfold chkEnd at h1
  simp only [Bool.and_eq_true, Bool.or_eq_true, decide_eq_true_eq] at h1
  rcases h1.2 with h2 | h2
  · omega
  · rw [h2, turnedRow_get (by rw [moves_length]; exact hk), moves_length]
/-- Over all windings all states. -/
def wayW (n i : Nat) : Nat := 3 * ways n (3 * ((i : Int) - 6))
theorem wayW_all : ∀ n, n < 7 → 3 ≤ n → sumTo (wayW n) 13 = 3 ^ n := by decide +kernel
theorem rst_way {n i : Nat} (h1 : 3 ≤ n) (h2 : n ≤ 6) (hi : i < 13) : rstOf (n : Int) ((i : Int) - 6) = ((wayW n i : Nat) : Int) := rstOf_ok h1 h2 (by omega) (by omega)
theorem wayW_le (n i : Nat) : wayW n i ≤ 3 * 3 ^ n := Nat.mul_le_mul_left 3 (ways_le n _)
/-- How many of the first states have a winding. -/
def cntW (n : Nat) (w : Int) (q : Nat) : Nat := if rwindOf (nats (digits 3 q n)) = w then 1 else 0
theorem cntW_all {n : Nat} (h1 : 3 ≤ n) (h2 : n ≤ 6) (w : Int) : sumTo (cntW n w) (3 ^ n) = 3 * ways n (3 * w) := by
  obtain ⟨m, rfl⟩ : ∃ m, n = m + 1 := ⟨n - 1, by omega⟩
  rw [← count_ring m w]
  refine sumTo_congr _ fun q _ => ?_
  have st := digits_st (c := 3) (by omega) (by omega) (by omega) h2 q
  have hl := digits_length 3 q (m + 1)
  have h3 := rwind_three st (by rw [hl]; exact h1)
  unfold cntW
  rw [rwindOf_ok st (by rw [hl]; exact h1), hl] at *
  by_cases e : sumI (frow (digits 3 q (m + 1))) (m + 1) = 3 * w
  · rw [if_pos e, if_pos (by omega)]
  · rw [if_neg e, if_neg (by omega)]
theorem row_digits {n : Nat} (h1 : 3 ≤ n) (h2 : n ≤ 6) (q : Nat) : rowB (nats (digits 3 q n)) = true :=
  rowB_yes (digits_st (by omega) (by omega) (by omega) h2 q) (by rw [digits_length]; exact h1)
theorem cntW_le (n : Nat) (w : Int) : ∀ q, sumTo (cntW n w) q ≤ q
  | 0 => Nat.le_refl _
  | q + 1 => by
    have := cntW_le n w q
    rw [sumTo]
    unfold cntW at *
    split <;> omega
end Nt
end Go.Proofs.Ytdpkacpeednnoaa
