/-
  Plain mathematics: a row of things, each of which tells the next one, comes to a loop.
-/
import Derived.Test.YtahjplaidkibpaaPureF
namespace Go.Proofs.Ytahjplaidkibpaa
namespace Nt

/-- After m steps, and not sooner, what comes again after l more, and not sooner. -/
structure IsLoop {α : Type} (s : Nat → α) (m l : Nat) : Prop where
  pos : 1 ≤ l
  back : s (m + l) = s m
  first : ∀ a b, a < b → s a = s b → m ≤ a
  least : ∀ k, 1 ≤ k → k < l → s (m + k) ≠ s m

/-- Each thing tells the next one. -/
def Tells {α : Type} (s : Nat → α) : Prop := ∀ a b, s a = s b → s (a + 1) = s (b + 1)

theorem Tells.add {α : Type} {s : Nat → α} (h : Tells s) {a b : Nat} (e : s a = s b) : ∀ k, s (a + k) = s (b + k)
  | 0 => e
  | k + 1 => h _ _ (h.add e k)

theorem IsLoop.shift {α : Type} {s : Nat → α} {m l : Nat} (h : IsLoop s m l) (t : Tells s) {a : Nat} (ha : m ≤ a) : s (a + l) = s a := by
  have := t.add h.back (a - m)
  rwa [show m + l + (a - m) = a + l by omega, show m + (a - m) = a by omega] at this
theorem IsLoop.rounds {α : Type} {s : Nat → α} {m l : Nat} (h : IsLoop s m l) (t : Tells s) {a : Nat} (ha : m ≤ a) : ∀ q, s (a + q * l) = s a
  | 0 => by rw [Nat.zero_mul, Nat.add_zero]
  | q + 1 => by
    rw [Nat.add_mul, Nat.one_mul, ← Nat.add_assoc, h.shift t (by omega)]
    exact h.rounds t ha q
theorem IsLoop.divides {α : Type} {s : Nat → α} {m l : Nat} (h : IsLoop s m l) (t : Tells s) {a d : Nat} (ha : m ≤ a) (e : s (a + d) = s a) : d % l = 0 := by
  have hl := h.pos
  -- on to a place that is whole rounds behind m
  have e1 : s (m + d) = s m := by
    have h1 := t.add e ((a - m) * (l - 1))
    have h2 : a + (a - m) * (l - 1) = m + (a - m) * l := by
      obtain ⟨x, hx⟩ : ∃ x, x = a - m := ⟨_, rfl⟩
      obtain ⟨y, rfl⟩ : ∃ y, l = y + 1 := ⟨l - 1, by omega⟩
      rw [← hx, Nat.add_sub_cancel, Nat.mul_add, Nat.mul_one]
      omega
    rw [show a + d + (a - m) * (l - 1) = (m + d) + (a - m) * l by omega, h2, h.rounds t (by omega), h.rounds t (Nat.le_refl _)] at h1
    exact h1
  apply Classical.byContradiction
  intro hne
  refine h.least (d % l) (by omega) (Nat.mod_lt _ (by omega)) ?_
  have h3 := h.rounds t (a := m + d % l) (by omega) (d / l)
  have h4 := Nat.div_add_mod d l
  rw [Nat.mul_comm] at h4
  rw [show m + d % l + d / l * l = m + d by omega, e1] at h3
  exact h3.symm
theorem IsLoop.meets {α : Type} {s : Nat → α} {m l : Nat} (h : IsLoop s m l) (t : Tells s) {a d : Nat} (hd : 0 < d) : s (a + d) = s a ↔ m ≤ a ∧ d % l = 0 := by
  constructor
  · intro e
    have ha := h.first a (a + d) (by omega) e.symm
    exact ⟨ha, h.divides t ha e⟩
  · rintro ⟨ha, h0⟩
    have h4 := Nat.div_add_mod d l
    rw [h0, Nat.mul_comm, Nat.add_zero] at h4
    rw [← h4]
    exact h.rounds t ha _
theorem IsLoop.same {α : Type} {s : Nat → α} {m l m' l' : Nat} (h : IsLoop s m l) (k : IsLoop s m' l') : m = m' ∧ l = l' := by
  have hp := h.pos
  have kp := k.pos
  have e1 : m' ≤ m := k.first m (m + l) (by omega) h.back.symm
  have e2 : m ≤ m' := h.first m' (m' + l') (by omega) k.back.symm
  have e : m = m' := by omega
  subst e
  refine ⟨rfl, ?_⟩
  apply Classical.byContradiction
  intro hne
  rcases Nat.lt_or_gt_of_ne hne with hlt | hlt
  · exact k.least l hp hlt h.back
  · exact h.least l' kp hlt k.back

/-- Two runners, one of them twice as fast, meet where whole rounds are over. -/
theorem IsLoop.runners {α : Type} {s : Nat → α} {m l : Nat} (h : IsLoop s m l) (t : Tells s) {i : Nat} (hi : 1 ≤ i) : s (i + i) = s i ↔ m ≤ i ∧ i % l = 0 := h.meets t (by omega)
theorem IsLoop.runners_meet {α : Type} {s : Nat → α} {m l : Nat} (h : IsLoop s m l) (t : Tells s) : ∃ i, 1 ≤ i ∧ i ≤ m + l ∧ s (i + i) = s i := by
  have hl := h.pos
  have h4 := Nat.div_add_mod m l
  have h5 := Nat.mod_lt m (y := l) (by omega)
  refine ⟨l * (m / l + 1), ?_, ?_, ?_⟩
  · rw [Nat.mul_add, Nat.mul_one]; omega
  · rw [Nat.mul_add, Nat.mul_one]; omega
  · exact (h.runners t (by rw [Nat.mul_add, Nat.mul_one]; omega)).2 ⟨by rw [Nat.mul_add, Nat.mul_one]; omega, Nat.mul_mod_right _ _⟩

/-- Behind the first thing it is one step less, if there was one. -/
theorem IsLoop.next {α : Type} {s : Nat → α} {m l : Nat} (h : IsLoop s m l) (t : Tells s) : IsLoop (fun i => s (i + 1)) (m - 1) l := by
  have hl := h.pos
  have hb : s (m - 1 + l + 1) = s (m - 1 + 1) := by
    rw [show m - 1 + l + 1 = (m - 1 + 1) + l by omega]
    exact h.shift t (by omega)
  refine ⟨hl, hb, fun a b hab e => ?_, fun k h1 h2 e => ?_⟩
  · have := h.first (a + 1) (b + 1) (by omega) e
    omega
  · have h0 := (h.meets t (a := m - 1 + 1) (d := k) (by omega)).1 (by
      have e2 : s (m - 1 + k + 1) = s (m - 1 + 1) := e
      rwa [show m - 1 + k + 1 = m - 1 + 1 + k by omega] at e2)
    rw [Nat.mod_eq_of_lt h2] at h0
    omega

theorem least_of {P : Nat → Prop} : ∀ n, P n → ∃ m, m ≤ n ∧ P m ∧ ∀ k, k < m → ¬ P k := by
  intro n
  induction n using Nat.strongRecOn with
  | ind n ih =>
    intro h
    by_cases e : ∃ k, k < n ∧ P k
    · obtain ⟨k, hk, hp⟩ := e
      obtain ⟨m, h1, h2, h3⟩ := ih k hk hp
      exact ⟨m, by omega, h2, h3⟩
    · exact ⟨n, Nat.le_refl _, h, fun k hk hp => e ⟨k, hk, hp⟩⟩

/-- Wherever something comes again, there is a loop. -/
theorem loop_of {α : Type} {s : Nat → α} (t : Tells s) {a b : Nat} (hab : a < b) (e : s a = s b) : ∃ m l, IsLoop s m l ∧ m + l ≤ b := by
  obtain ⟨m, hm, ⟨b', hb', e'⟩, hmin⟩ := least_of (P := fun i => ∃ j, i < j ∧ s i = s j) a ⟨b, hab, e⟩
  obtain ⟨l, hl, ⟨hl1, el⟩, hlmin⟩ := least_of (P := fun k => 1 ≤ k ∧ s (m + k) = s m) (b' - m) ⟨by omega, by rw [show m + (b' - m) = b' by omega]; exact e'.symm⟩
  have hloop : IsLoop s m l := ⟨hl1, el, fun i j hij hs => by
    apply Classical.byContradiction
    intro hlt
    exact hmin i (by omega) ⟨j, hij, hs⟩, fun k h1 h2 hs => hlmin k h2 ⟨h1, hs⟩⟩
  refine ⟨m, l, hloop, ?_⟩
  have h1 := (hloop.meets t (a := a) (d := b - a) (by omega)).1 (by rw [show a + (b - a) = b by omega]; exact e.symm)
  have h2 : l ≤ b - a := Nat.le_of_dvd (by omega) (Nat.dvd_of_mod_eq_zero h1.2)
  omega

/-- Numbers seen, as a set. -/
def seenN (f : Nat → Nat) : Nat → Nat
  | 0 => 0
  | k + 1 => seenN f k ||| 2 ^ f k
theorem testBit_seenN (f : Nat → Nat) (j : Nat) : ∀ k, (seenN f k).testBit j = true ↔ ∃ i, i < k ∧ f i = j
  | 0 => by simp [seenN]
  | k + 1 => by
    rw [seenN, Nat.testBit_or, Bool.or_eq_true, testBit_seenN f j k, pow_bit]
    constructor
    · rintro (⟨i, hi, e⟩ | e)
      · exact ⟨i, by omega, e⟩
      · exact ⟨k, by omega, e⟩
    · rintro ⟨i, hi, e⟩
      by_cases h : i = k
      · subst h; exact .inr e
      · exact .inl ⟨i, by omega, e⟩
theorem pop_seenN {f : Nat → Nat} {N : Nat} (hf : ∀ i, f i < N) : ∀ k, (∀ i j, i < j → j < k → f i ≠ f j) → popTo (seenN f k) N = k
  | 0, _ => by
    have : ∀ m, popTo 0 m = 0 := by
      intro m
      induction m with
      | zero => rfl
      | succ m ih => rw [popTo, ih]; simp
    exact this N
  | k + 1, h => by
    rw [seenN, popTo_or_pow _ (hf k), pop_seenN hf k (fun i j hij hj => h i j hij (by omega))]
    cases e : (seenN f k).testBit (f k)
    · rfl
    · obtain ⟨i, hi, e2⟩ := (testBit_seenN f _ k).1 e
      exact absurd e2 (h i k hi (by omega))
/-- Of more numbers than there are two are the same. -/
theorem two_same {f : Nat → Nat} {N : Nat} (hf : ∀ i, f i < N) : ∃ i j, i < j ∧ j ≤ N ∧ f i = f j := by
  apply Classical.byContradiction
  intro h
  have h1 := pop_seenN hf (N + 1) (fun i j hij hj e => h ⟨i, j, hij, by omega, e⟩)
  have h2 := popTo_le (seenN f (N + 1)) N
  omega

theorem num_inj {c : Nat} {ks ls : List Nat} (h : St c ks) (k : St c ls) (hl : ks.length = ls.length) (e : num c ks = num c ls) : ks = ls := by
  have h1 := digits_num ks h.mem
  have h2 := digits_num ls k.mem
  rw [e, hl, h2] at h1
  exact h1.symm
theorem run_tells (net : List Nat) (c : Nat) (ks : List Nat) : Tells (run net c ks) := fun a b e => by
  show step net c (run net c ks a) = step net c (run net c ks b)
  rw [e]
/-- Each state comes to a loop, within as many steps as there are states. -/
theorem run_loop (net : List Nat) {c : Nat} {ks : List Nat} (h : St c ks) : ∃ m l, IsLoop (run net c ks) m l ∧ m + l ≤ c ^ ks.length := by
  obtain ⟨i, j, hij, hj, e⟩ := two_same (f := fun t => num c (run net c ks t)) (N := c ^ ks.length) (fun t => by
    have := num_lt (run_st net h t).mem
    rwa [run_length] at this)
  obtain ⟨m, l, hl, hb⟩ := loop_of (run_tells net c ks) hij (num_inj (run_st net h i) (run_st net h j) (by rw [run_length, run_length]) e)
  exact ⟨m, l, hl, by omega⟩
theorem run_next (net : List Nat) (c : Nat) (ks : List Nat) : run net c (step net c ks) = fun i => run net c ks (i + 1) := by
  funext i
  exact run_one net c ks i

/-- It comes to rest exactly if the loop is one state, which then is all at rest. -/
theorem loop_rest {net : List Nat} {c : Nat} {ks : List Nat} (h : St c ks) {m : Nat} (hl : IsLoop (run net c ks) m 1) : run net c ks m = rest ks.length := by
  have h1 : step net c (run net c ks m) = run net c ks m := hl.back
  have h2 := still_rest (run_st net h m) h1
  rwa [run_length] at h2
theorem rest_loop {net : List Nat} {c : Nat} {ks : List Nat} {m l : Nat} (hl : IsLoop (run net c ks) m l) {t : Nat} (e : run net c ks t = rest ks.length) : l = 1 ∧ m ≤ t := by
  have h1 : run net c ks (t + 1) = run net c ks t := by rw [run, e, step_rest]
  obtain ⟨h2, h3⟩ := (hl.meets (run_tells net c ks) (a := t) (d := 1) (by omega)).1 h1
  refine ⟨?_, h2⟩
  have := hl.pos
  apply Classical.byContradiction
  intro hne
  rw [Nat.mod_eq_of_lt (by omega)] at h3
  omega

end Nt
end Go.Proofs.Ytahjplaidkibpaa
