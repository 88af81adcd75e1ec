/-
  Plain mathematics: orders; rows laid anew by an order; sums over an order.
-/
import Derived.Test.YtahjplaidkibpaaPureB
namespace Go.Proofs.Ytahjplaidkibpaa
namespace Nt

/-- Each number below n once. -/
structure Ord (n : Nat) (os : List Nat) : Prop where
  len : os.length = n
  lt : ∀ k, k < n → os.getD k 0 < n
  inj : ∀ j k, j < n → k < n → os.getD j 0 = os.getD k 0 → j = k

/-- The numbers of an order up to a place, as a set. -/
def seenTo (os : List Nat) : Nat → Nat
  | 0 => 0
  | k + 1 => seenTo os k ||| 2 ^ os.getD k 0

theorem pow_bit (a i : Nat) : (2 ^ a).testBit i = true ↔ a = i := by
  rw [Nat.testBit_two_pow]; simp

theorem testBit_seenTo (os : List Nat) (j : Nat) : ∀ k, (seenTo os k).testBit j = true ↔ ∃ i, i < k ∧ os.getD i 0 = j
  | 0 => by simp [seenTo]
  | k + 1 => by
    rw [seenTo, Nat.testBit_or, Bool.or_eq_true, testBit_seenTo os j k, pow_bit]
    constructor
    · rintro (⟨i, hi, e⟩ | e)
      · exact ⟨i, by omega, e⟩
      · exact ⟨k, by omega, e⟩
    · rintro ⟨i, hi, e⟩
      by_cases h : i = k
      · subst h; exact .inr e
      · exact .inl ⟨i, by omega, e⟩

theorem popTo_or_pow {s a n : Nat} (h : s.testBit a = false) : a < n → popTo (s ||| 2 ^ a) n = popTo s n + 1 := by
  have far : ∀ m, m ≤ a → popTo (s ||| 2 ^ a) m = popTo s m := by
    intro m
    induction m with
    | zero => intro _; rfl
    | succ m ih =>
      intro hm
      rw [popTo, popTo, ih (by omega), Nat.testBit_or]
      have : (2 ^ a).testBit m = false := by
        cases e : (2 ^ a).testBit m
        · rfl
        · rw [pow_bit] at e; omega
      rw [this, Bool.or_false]
  induction n with
  | zero => intro h; omega
  | succ n ih =>
    intro hn
    rw [popTo, popTo, Nat.testBit_or]
    by_cases e : a = n
    · subst e
      rw [far a (Nat.le_refl _), h, (pow_bit a a).2 rfl]
      simp
    · have : (2 ^ a).testBit n = false := by
        cases e2 : (2 ^ a).testBit n
        · rfl
        · rw [pow_bit] at e2; exact absurd e2 e
      rw [this, Bool.or_false, ih (by omega)]
      omega

theorem popTo_full {s : Nat} : ∀ n, popTo s n = n → ∀ i, i < n → s.testBit i = true
  | 0, _, i, hi => absurd hi (by omega)
  | n + 1, h, i, hi => by
    have hle := popTo_le s n
    rw [popTo] at h
    by_cases hb : s.testBit n = true
    · rw [if_pos hb] at h
      by_cases e : i = n
      · subst e; exact hb
      · exact popTo_full n (by omega) i (by omega)
    · rw [if_neg hb] at h; omega

theorem Ord.pop {n : Nat} {os : List Nat} (h : Ord n os) : ∀ k, k ≤ n → popTo (seenTo os k) n = k
  | 0, _ => by
    have : ∀ m, popTo 0 m = 0 := by
      intro m
      induction m with
      | zero => rfl
      | succ m ih => rw [popTo, ih]; simp
    exact this n
  | k + 1, hk => by
    rw [seenTo, popTo_or_pow, h.pop k (by omega)]
    · cases e : (seenTo os k).testBit (os.getD k 0)
      · rfl
      · obtain ⟨i, hi, e2⟩ := (testBit_seenTo os _ k).1 e
        have := h.inj i k (by omega) (by omega) e2
        omega
    · exact h.lt k (by omega)

/-- Each number below n is there. -/
theorem Ord.surj {n : Nat} {os : List Nat} (h : Ord n os) {i : Nat} (hi : i < n) : ∃ k, k < n ∧ os.getD k 0 = i :=
  (testBit_seenTo os i n).1 (popTo_full n (h.pop n (Nat.le_refl _)) i hi)

/-- An order, whatever numbers are handed over. -/
def ordB (n : Nat) (ys : List Int) : Bool := decide (ys.length = n) && (List.range ys.length).all fun k => decide (0 ≤ ys.getD k 0 ∧ ys.getD k 0 < n) && (List.range k).all fun j => decide (ys.getD j 0 ≠ ys.getD k 0)

/-- The first k numbers are as they should be. -/
def ordTo (n : Nat) (ys : List Int) (k : Nat) : Prop := ∀ i, i < k → (0 ≤ ys.getD i 0 ∧ ys.getD i 0 < n) ∧ ∀ j, j < i → ys.getD j 0 ≠ ys.getD i 0

theorem ordTo_succ {n : Nat} {ys : List Int} {k : Nat} (h : ordTo n ys k) (h1 : 0 ≤ ys.getD k 0 ∧ ys.getD k 0 < n) (h2 : ∀ j, j < k → ys.getD j 0 ≠ ys.getD k 0) : ordTo n ys (k + 1) := by
  intro i hi
  by_cases e : i = k
  · subst e; exact ⟨h1, h2⟩
  · exact h i (by omega)

theorem ordB_iff {n : Nat} {ys : List Int} : ordB n ys = true ↔ ys.length = n ∧ ordTo n ys ys.length := by
  unfold ordB ordTo
  rw [Bool.and_eq_true, List.all_eq_true, decide_eq_true_eq]
  constructor
  · rintro ⟨h1, h2⟩
    refine ⟨h1, fun i hi => ?_⟩
    have := h2 i (by simpa using hi)
    rw [Bool.and_eq_true, List.all_eq_true, decide_eq_true_eq] at this
    exact ⟨this.1, fun j hj => by simpa using this.2 j (by simpa using hj)⟩
  · rintro ⟨h1, h2⟩
    refine ⟨h1, fun i hi => ?_⟩
    have := h2 i (by simpa using hi)
    rw [Bool.and_eq_true, List.all_eq_true, decide_eq_true_eq]
    exact ⟨this.1, fun j hj => by simpa using this.2 j (by simpa using hj)⟩

theorem ordB_no {n : Nat} {ys : List Int} (h : ¬ (ys.length = n ∧ ordTo n ys ys.length)) : ordB n ys = false := by
  cases e : ordB n ys
  · rfl
  · exact absurd (ordB_iff.1 e) h

theorem ordB_ord {n : Nat} {ys : List Int} (h : ordB n ys = true) : ∃ os, ys = nats os ∧ Ord n os := by
  obtain ⟨hl, h⟩ := ordB_iff.1 h
  obtain ⟨os, rfl⟩ := nats_of_nonneg fun k hk => (h k hk).1.1
  rw [nats_length] at *
  refine ⟨os, rfl, hl, fun k hk => ?_, fun j k hj hk e => ?_⟩
  · have := (h k (by omega)).1.2
    rw [nats_get] at this
    omega
  · apply Classical.byContradiction
    intro hne
    rcases Nat.lt_or_gt_of_ne hne with hlt | hlt
    · exact (h k (by omega)).2 j hlt (by rw [nats_get, nats_get, e])
    · exact (h j (by omega)).2 k hlt (by rw [nats_get, nats_get, e])

theorem ord_ordB {n : Nat} {os : List Nat} (h : Ord n os) : ordB n (nats os) = true := by
  refine ordB_iff.2 ⟨by rw [nats_length]; exact h.len, fun i hi => ?_⟩
  rw [nats_length, h.len] at hi
  rw [nats_get]
  have := h.lt i hi
  refine ⟨by omega, fun j hj => ?_⟩
  rw [nats_get]
  intro e
  have := h.inj j i (by omega) hi (by omega)
  omega

/-- A row laid anew: what belongs to place k goes to the place that the order tells. -/
def putTo (n : Nat) (os : List Nat) (f : Nat → Nat) : Nat → List Nat
  | 0 => List.replicate n 0
  | k + 1 => (putTo n os f k).set (os.getD k 0) (f k)

theorem putTo_length (n : Nat) (os : List Nat) (f : Nat → Nat) : ∀ k, (putTo n os f k).length = n
  | 0 => by simp [putTo]
  | k + 1 => by rw [putTo, List.length_set, putTo_length n os f k]

theorem getD_set (l : List Nat) (i j x : Nat) (h : i < l.length) : (l.set i x).getD j 0 = if i = j then x else l.getD j 0 := by
  rw [List.getD_eq_getElem?_getD, List.getElem?_set]
  by_cases e : i = j
  · subst e; simp [h]
  · simp [e, List.getD_eq_getElem?_getD]

theorem putTo_get {n : Nat} {os : List Nat} (h : Ord n os) (f : Nat → Nat) : ∀ k, k ≤ n → ∀ i, i < k → (putTo n os f k).getD (os.getD i 0) 0 = f i
  | 0, _, i, hi => absurd hi (by omega)
  | k + 1, hk, i, hi => by
    rw [putTo, getD_set _ _ _ _ (by rw [putTo_length]; exact h.lt k (by omega))]
    by_cases e : i = k
    · subst e; simp
    · rw [if_neg (fun e2 => e (h.inj k i (by omega) (by omega) e2).symm)]
      exact putTo_get h f k (by omega) i (by omega)

def put (n : Nat) (os : List Nat) (f : Nat → Nat) : List Nat := putTo n os f n
theorem put_length (n : Nat) (os : List Nat) (f : Nat → Nat) : (put n os f).length = n := putTo_length n os f n
theorem put_get {n : Nat} {os : List Nat} (h : Ord n os) (f : Nat → Nat) {k : Nat} (hk : k < n) : (put n os f).getD (os.getD k 0) 0 = f k := putTo_get h f n (Nat.le_refl _) k hk

theorem putTo_all {n : Nat} {os : List Nat} {f : Nat → Nat} {m : Nat} (hm : 0 < m) (hf : ∀ k, k < n → f k < m) : ∀ k, k ≤ n → ∀ i, (putTo n os f k).getD i 0 < m
  | 0, _, i => by
    rw [putTo, List.getD_eq_getElem?_getD, List.getElem?_replicate]
    split <;> simpa using hm
  | k + 1, hk, i => by
    have ih := putTo_all (os := os) hm hf k (by omega) i
    rw [putTo, List.getD_eq_getElem?_getD, List.getElem?_set]
    split
    · rename_i e
      split
      · exact hf k (by omega)
      · simpa using hm
    · rw [← List.getD_eq_getElem?_getD]; exact ih

/-- Two rows laid anew are the same if they are so before. -/
theorem ext_ord {n : Nat} {os l r : List Nat} (h : Ord n os) (hl : l.length = n) (hr : r.length = n) (he : ∀ k, k < n → l.getD (os.getD k 0) 0 = r.getD (os.getD k 0) 0) : l = r := by
  apply List.ext_getElem (by omega)
  intro i h1 h2
  obtain ⟨k, hk, e⟩ := h.surj (i := i) (by omega)
  have := he k hk
  rw [e] at this
  simpa [List.getD_eq_getElem?_getD, List.getElem?_eq_getElem h1, List.getElem?_eq_getElem h2] using this

theorem sum_pick (f : Nat → Nat) (M : Nat) : ∀ n, sumTo (fun i => if i = M then f i else 0) n = if M < n then f M else 0
  | 0 => by simp [sumTo]
  | n + 1 => by
    rw [sumTo, sum_pick f M n]
    by_cases e : n = M
    · subst e; simp
    · rw [if_neg e]
      by_cases h : M < n
      · rw [if_pos h, if_pos (by omega)]; omega
      · rw [if_neg h, if_neg (by omega)]

theorem sum_zero : ∀ n, sumTo (fun _ => 0) n = 0
  | 0 => rfl
  | n + 1 => by rw [sumTo, sum_zero n]

theorem sum_swap (g : Nat → Nat → Nat) (m : Nat) : ∀ n, sumTo (fun i => sumTo (g i) m) n = sumTo (fun k => sumTo (fun i => g i k) n) m
  | 0 => by
    show 0 = _
    rw [show (fun k => sumTo (fun i => g i k) 0) = fun _ => 0 from rfl, sum_zero]
  | n + 1 => by
    rw [sumTo, sum_swap g m n]
    rw [show (fun k => sumTo (fun i => g i k) (n + 1)) = fun k => sumTo (fun i => g i k) n + g n k from rfl, sumTo_add]

/-- A sum over an order is the sum. -/
theorem ord_sum {n : Nat} {os : List Nat} (h : Ord n os) (f : Nat → Nat) : sumTo (fun k => f (os.getD k 0)) n = sumTo f n := by
  have e1 : sumTo (fun k => f (os.getD k 0)) n = sumTo (fun k => sumTo (fun i => if i = os.getD k 0 then f i else 0) n) n :=
    sumTo_congr n fun k hk => by rw [sum_pick, if_pos (h.lt k hk)]
  rw [e1, sum_swap]
  refine sumTo_congr n fun i hi => ?_
  obtain ⟨k0, hk0, e⟩ := h.surj hi
  have e2 : sumTo (fun k => if i = os.getD k 0 then f i else 0) n = sumTo (fun k => if k = k0 then (fun _ => f i) k else 0) n :=
    sumTo_congr n fun k hk => by
      by_cases ek : k = k0
      · subst ek; rw [if_pos e.symm, if_pos rfl]
      · rw [if_neg (fun e3 => ek (h.inj k k0 hk hk0 (by omega))), if_neg ek]
  rw [e2, sum_pick, if_pos hk0]

end Nt
end Go.Proofs.Ytahjplaidkibpaa
