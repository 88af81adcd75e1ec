/-
  Plain mathematics of censuses: states counted, those before a state, those never come to, those in loops, those that come to rest.
-/
import Derived.Test.YtlcbpnbehbgbeaaPA
namespace Go.Proofs.Ytlcbpnbehbgbeaa
namespace Nt

/-- How many numbers below another one hold. -/
def cnt (p : Nat → Bool) (N : Nat) : Nat := sumTo (fun m => if p m = true then 1 else 0) N
theorem cnt_mono {p q : Nat → Bool} {N : Nat} (h : ∀ m, m < N → p m = true → q m = true) : cnt p N ≤ cnt q N :=
  sumTo_mono N fun m hm => by
    by_cases e : p m = true
    · rw [if_pos e, if_pos (h m hm e)]; omega
    · rw [if_neg e]; omega
theorem cnt_congr {p q : Nat → Bool} {N : Nat} (h : ∀ m, m < N → p m = q m) : cnt p N = cnt q N := sumTo_congr N fun m hm => by rw [h m hm]
theorem cnt_le (p : Nat → Bool) : ∀ N, cnt p N ≤ N
  | 0 => Nat.le_refl _
  | N + 1 => by
    have := cnt_le p N
    unfold cnt at *
    rw [sumTo]; split <;> omega
theorem cnt_not (p : Nat → Bool) : ∀ N, cnt p N + cnt (fun m => !p m) N = N
  | 0 => rfl
  | N + 1 => by
    have := cnt_not p N
    have e1 : cnt p (N + 1) = cnt p N + if p N = true then 1 else 0 := rfl
    have e2 : cnt (fun m => !p m) (N + 1) = cnt (fun m => !p m) N + if (!p N) = true then 1 else 0 := rfl
    rw [e1, e2]
    cases p N <;> simp only [Bool.not_true, Bool.not_false, if_true, Bool.false_eq_true, if_false] <;> omega
theorem cnt_all {p : Nat → Bool} : ∀ {N : Nat}, cnt p N = N ↔ ∀ m, m < N → p m = true
  | 0 => ⟨fun _ m hm => absurd hm (by omega), fun _ => rfl⟩
  | N + 1 => by
    have ih := @cnt_all p N
    have hle := cnt_le p N
    have e : cnt p (N + 1) = cnt p N + if p N = true then 1 else 0 := rfl
    rw [e]
    constructor
    · intro h m hm
      by_cases hp : p N = true
      · rw [if_pos hp] at h
        by_cases e2 : m = N
        · subst e2; exact hp
        · exact ih.1 (by omega) m (by omega)
      · rw [if_neg hp] at h; omega
    · intro h
      rw [if_pos (h N (by omega)), ih.2 fun m hm => h m (by omega)]
theorem cnt_none {p : Nat → Bool} {N : Nat} : cnt p N = 0 ↔ ∀ m, m < N → p m = false := by
  have h1 := cnt_not p N
  have h2 := @cnt_all (fun m => !p m) N
  constructor
  · intro h m hm
    have := h2.1 (by omega) m hm
    simpa using this
  · intro h
    have := h2.2 fun m hm => by simp [h m hm]
    omega
theorem cnt_pos {p : Nat → Bool} {N : Nat} : 1 ≤ cnt p N ↔ ∃ m, m < N ∧ p m = true := by
  constructor
  · intro h
    apply Classical.byContradiction
    intro hn
    have : cnt p N = 0 := cnt_none.2 fun m hm => by
      cases e : p m
      · rfl
      · exact absurd ⟨m, hm, e⟩ hn
    omega
  · rintro ⟨m, hm, hp⟩
    apply Classical.byContradiction
    intro hn
    have := cnt_none.1 (by omega : cnt p N = 0) m hm
    rw [hp] at this
    cases this
theorem cnt_one {p : Nat → Bool} {N : Nat} (hN : 0 < N) (h0 : p 0 = true) : cnt p N = 1 ↔ ∀ m, m < N → p m = true → m = 0 := by
  have h1 : cnt (fun m => decide (m = 0)) N = 1 := by
    have := sumTo_single 0 N
    rw [if_pos hN] at this
    refine Eq.trans (sumTo_congr N fun m _ => ?_) this
    by_cases e : m = 0
    · rw [if_pos e, if_pos (decide_eq_true e)]
    · rw [if_neg e, if_neg (by simpa using e)]
  constructor
  · intro h m hm hp
    apply Classical.byContradiction
    intro hne
    have h2 : sumTo (fun i => if decide (i = 0) = true then 1 else 0) N < sumTo (fun i => if p i = true then 1 else 0) N := by
      have key : ∀ n, m < n → sumTo (fun i => if decide (i = 0) = true then 1 else 0) n < sumTo (fun i => if p i = true then 1 else 0) n := by
        intro n
        induction n with
        | zero => intro h; omega
        | succ n ih =>
          intro hlt
          rw [sumTo, sumTo]
          by_cases e : m = n
          · subst e
            have h3 : sumTo (fun i => if decide (i = 0) = true then 1 else 0) m ≤ sumTo (fun i => if p i = true then 1 else 0) m := sumTo_mono m fun i _ => by
              by_cases e : i = 0
              · subst e; rw [h0]; simp
              · simp [e]
            rw [if_pos hp, if_neg (by simpa using hne)]; omega
          · have h4 := ih (by omega)
            by_cases e : n = 0
            · omega
            · rw [if_neg (by simpa using e)]; omega
      exact key N hm
    have h3 : cnt (fun m => decide (m = 0)) N < cnt p N := h2
    omega
  · intro h
    rw [← h1]
    refine cnt_congr fun m hm => ?_
    by_cases e : m = 0
    · subst e; rw [h0]; rfl
    · cases hp : p m
      · simp [e]
      · exact absurd (h m hm hp) e

/-- What follows a number, so often. -/
def iter (F : Nat → Nat) : Nat → Nat → Nat
  | 0, m => m
  | t + 1, m => F (iter F t m)
theorem iter_lt {F : Nat → Nat} {N : Nat} (hF : ∀ m, m < N → F m < N) {m : Nat} (hm : m < N) : ∀ t, iter F t m < N
  | 0 => hm
  | t + 1 => hF _ (iter_lt hF hm t)
theorem iter_add (F : Nat → Nat) (m a : Nat) : ∀ b, iter F (a + b) m = iter F b (iter F a m)
  | 0 => rfl
  | b + 1 => by
    show F (iter F (a + b) m) = F (iter F b (iter F a m))
    rw [iter_add F m a b]
theorem iter_tells (F : Nat → Nat) (m : Nat) : Tells (fun t => iter F t m) := fun a b e => by
  show F (iter F a m) = F (iter F b m)
  have e2 : iter F a m = iter F b m := e
  rw [e2]
theorem iter_zero {F : Nat → Nat} (h0 : F 0 = 0) : ∀ t, iter F t 0 = 0
  | 0 => rfl
  | t + 1 => by rw [iter, iter_zero h0 t, h0]
theorem iter_rounds {F : Nat → Nat} {m l : Nat} (e : iter F l m = m) : ∀ q, iter F (q * l) m = m
  | 0 => by rw [Nat.zero_mul]; rfl
  | q + 1 => by rw [Nat.succ_mul, iter_add, iter_rounds e q, e]

/-- All numbers have together as many before them as there are. -/
theorem before_all {F : Nat → Nat} {N : Nat} (hF : ∀ m, m < N → F m < N) : sumTo (fun s => sumTo (fun m => if F m = s then 1 else 0) N) N = N := by
  rw [sum_swap]
  have h : ∀ m, m < N → sumTo (fun s => if F m = s then 1 else 0) N = 1 := fun m hm => by
    have h1 := sumTo_single (F m) N
    rw [if_pos (hF m hm)] at h1
    refine Eq.trans (sumTo_congr N fun i _ => ?_) h1
    by_cases e : i = F m
    · rw [if_pos e, if_pos e.symm]
    · rw [if_neg e, if_neg (fun h => e h.symm)]
  rw [sumTo_congr N h]
  have h2 : ∀ n, sumTo (fun _ => 1) n = n := fun n => by
    induction n with
    | zero => rfl
    | succ n ih => rw [sumTo, ih]
  exact h2 N
/-- Loops are led to; so there are no more numbers in loops than are come to. -/
theorem loops_led {F : Nat → Nat} {N : Nat} (hF : ∀ m, m < N → F m < N) {p q : Nat → Bool} (hp : ∀ m, m < N → p m = true → ∃ l, 1 ≤ l ∧ iter F l m = m) (hq : ∀ s, s < N → q s = true → ∀ m, m < N → F m ≠ s) : cnt p N + cnt q N ≤ N := by
  have h1 : cnt p N ≤ cnt (fun m => !q m) N := cnt_mono fun m hm hpm => by
    obtain ⟨l, hl, he⟩ := hp m hm hpm
    cases e : q m
    · rfl
    · obtain ⟨k, rfl⟩ : ∃ k, l = k + 1 := ⟨l - 1, by omega⟩
      exact absurd he (hq m hm e _ (iter_lt hF hm k))
  have h2 := cnt_not q N
  omega
/-- There is one number in loops exactly if all come to 0. -/
theorem loops_one {F : Nat → Nat} {N : Nat} (hN : 0 < N) (hF : ∀ m, m < N → F m < N) (h0 : F 0 = 0) {p d : Nat → Bool} (hp : ∀ m, m < N → (p m = true ↔ ∃ l, 1 ≤ l ∧ iter F l m = m)) (hd : ∀ m, m < N → (d m = true ↔ ∃ t, iter F t m = 0)) : cnt p N = 1 ↔ cnt d N = N := by
  have hp0 : p 0 = true := (hp 0 hN).2 ⟨1, Nat.le_refl _, iter_zero h0 1⟩
  rw [cnt_one hN hp0, cnt_all]
  constructor
  · intro h m hm
    rw [hd m hm]
    obtain ⟨i, j, hij, -, e⟩ := two_same (f := fun t => if iter F t m < N then iter F t m else 0) (N := N) (fun t => by split <;> omega)
    simp only [if_pos (iter_lt hF hm _)] at e
    refine ⟨i, h _ (iter_lt hF hm i) ((hp _ (iter_lt hF hm i)).2 ⟨j - i, by omega, ?_⟩)⟩
    rw [← iter_add, show i + (j - i) = j by omega, e]
  · intro h m hm hpm
    obtain ⟨l, hl, e⟩ := (hp m hm).1 hpm
    obtain ⟨t, ht⟩ := (hd m hm).1 (h m hm)
    have h1 := iter_rounds e t
    have h2 : t ≤ t * l := Nat.le_mul_of_pos_right t (by omega)
    rw [show t * l = t + (t * l - t) by omega, iter_add, ht, iter_zero h0] at h1
    exact h1.symm

end Nt
end Go.Proofs.Ytlcbpnbehbgbeaa
