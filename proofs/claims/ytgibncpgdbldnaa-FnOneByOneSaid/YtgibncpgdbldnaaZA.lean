/-
  Plain mathematics of needs: what is lit in the end, in any order; sparks; needs of one.
  Plain mathematics of sparks, of spreading by needs of one, and of steps with needs.
  Plain mathematics: what the functions of needs answer.
  Plain mathematics: a step with needs out of a step without them; nodes whose needs are met; a row of sets that grows.
-/
import Derived.Test.YtgibncpgdbldnaaVP
import Derived.Test.YtgibncpgdbldnaaTA
namespace Go.Proofs.Ytgibncpgdbldnaa
namespace Nt

theorem pop_le {a b n : Nat} (h : ∀ j, a.testBit j = true → b.testBit j = true) : popTo a n ≤ popTo b n := by
  induction n with
  | zero => exact Nat.le_refl _
  | succ n ih =>
    rw [popTo, popTo]
    by_cases e : a.testBit n = true
    · rw [if_pos e, if_pos (h n e)]; omega
    · rw [if_neg e]; omega
theorem pop_most (a : Nat) : ∀ n, popTo a n ≤ n
  | 0 => Nat.le_refl _
  | n + 1 => by
    have := pop_most a n
    rw [popTo]
    split <;> omega
/-- Whether enough neighbours of a node are of a set. -/
def enoughB (net nd : List Nat) (s k : Nat) : Bool := decide (nd.getD k 0 ≤ popTo (net.getD k 0 &&& s) net.length)
theorem enough_mono {net nd : List Nat} {s u : Nat} (h : ∀ j, s.testBit j = true → u.testBit j = true) {k : Nat} (e : enoughB net nd s k = true) : enoughB net nd u k = true := by
  unfold enoughB at *
  rw [decide_eq_true_eq] at *
  exact Nat.le_trans e (pop_le fun j hj => by
    rw [Nat.testBit_and, Bool.and_eq_true] at *
    exact ⟨hj.1, h j hj.2⟩)

/-- A set with all nodes that are lit by it at once. -/
def growTo (net nd : List Nat) (s : Nat) : Nat → Nat
  | 0 => s
  | k + 1 => if enoughB net nd s k = true then growTo net nd s k ||| 2 ^ k else growTo net nd s k
def grow (net nd : List Nat) (s : Nat) : Nat := growTo net nd s net.length
theorem testBit_growTo (net nd : List Nat) (s j : Nat) : ∀ n, (growTo net nd s n).testBit j = true ↔ s.testBit j = true ∨ j < n ∧ enoughB net nd s j = true
  | 0 => by simp [growTo]
  | n + 1 => by
    have ih := testBit_growTo net nd s j n
    rw [growTo]
    by_cases e : enoughB net nd s n = true
    · rw [if_pos e, Nat.testBit_or, Bool.or_eq_true, ih, bit_pow]
      constructor
      · rintro ((h | ⟨h1, h2⟩) | h)
        · exact Or.inl h
        · exact Or.inr ⟨by omega, h2⟩
        · subst h; exact Or.inr ⟨by omega, e⟩
      · rintro (h | ⟨h1, h2⟩)
        · exact Or.inl (Or.inl h)
        · by_cases e2 : n = j
          · exact Or.inr e2
          · exact Or.inl (Or.inr ⟨by omega, h2⟩)
    · rw [if_neg e, ih]
      constructor
      · rintro (h | ⟨h1, h2⟩)
        · exact Or.inl h
        · exact Or.inr ⟨by omega, h2⟩
      · rintro (h | ⟨h1, h2⟩)
        · exact Or.inl h
        · refine Or.inr ⟨?_, h2⟩
          by_cases e2 : n = j
          · subst e2; exact absurd h2 e
          · omega
theorem testBit_grow {net nd : List Nat} {s j : Nat} : (grow net nd s).testBit j = true ↔ s.testBit j = true ∨ j < net.length ∧ enoughB net nd s j = true := testBit_growTo net nd s j _
theorem lt_of_bits {s n : Nat} (h : ∀ j, s.testBit j = true → j < n) : s < 2 ^ n := by
  apply Nat.lt_pow_two_of_testBit
  intro i hi
  cases e : s.testBit i
  · rfl
  · have := h i e
    omega
theorem bits_lt {s n j : Nat} (h : s < 2 ^ n) (hj : s.testBit j = true) : j < n := by
  apply Classical.byContradiction
  intro hn
  rw [Nat.testBit_lt_two_pow (Nat.lt_of_lt_of_le h (Nat.pow_le_pow_right (by omega) (by omega)))] at hj
  cases hj
theorem bits_eq {s u : Nat} (h : ∀ j, s.testBit j = true ↔ u.testBit j = true) : s = u := Nat.eq_of_testBit_eq fun j => bool_eq (h j)
theorem grow_lt {net nd : List Nat} {s : Nat} (h : s < 2 ^ net.length) : grow net nd s < 2 ^ net.length := lt_of_bits fun j hj => by
  rcases testBit_grow.1 hj with h1 | h1
  · exact bits_lt h h1
  · exact h1.1
theorem grow_mono {net nd : List Nat} {s u : Nat} (h : ∀ j, s.testBit j = true → u.testBit j = true) (j : Nat) (hj : (grow net nd s).testBit j = true) : (grow net nd u).testBit j = true := by
  rcases testBit_grow.1 hj with h1 | h1
  · exact testBit_grow.2 (Or.inl (h j h1))
  · exact testBit_grow.2 (Or.inr ⟨h1.1, enough_mono h h1.2⟩)

/-- What is lit after so many steps. -/
def litAt (net nd : List Nat) (s : Nat) : Nat → Nat
  | 0 => s
  | t + 1 => grow net nd (litAt net nd s t)
theorem litAt_lt {net nd : List Nat} {s : Nat} (h : s < 2 ^ net.length) : ∀ t, litAt net nd s t < 2 ^ net.length
  | 0 => h
  | t + 1 => grow_lt (litAt_lt h t)
theorem litAt_up (net nd : List Nat) (s : Nat) {j : Nat} : ∀ t, s.testBit j = true → (litAt net nd s t).testBit j = true
  | 0, h => h
  | t + 1, h => testBit_grow.2 (Or.inl (litAt_up net nd s t h))
theorem litAt_fix {net nd : List Nat} {s t : Nat} (h : grow net nd (litAt net nd s t) = litAt net nd s t) : ∀ u, t ≤ u → litAt net nd s u = litAt net nd s t
  | 0, hu => by
    have : t = 0 := by omega
    subst this; rfl
  | u + 1, hu => by
    by_cases e : t = u + 1
    · subst e; rfl
    · rw [litAt, litAt_fix h u (by omega), h]
/-- Each step lights one node more at least, until nothing is lit any more. -/
theorem litAt_many {net nd : List Nat} {s : Nat} (h : s < 2 ^ net.length) : ∀ t, (∀ u, u < t → grow net nd (litAt net nd s u) ≠ litAt net nd s u) → popTo s net.length + t ≤ popTo (litAt net nd s t) net.length
  | 0, _ => Nat.le_refl _
  | t + 1, hn => by
    have ih := litAt_many h t fun u hu => hn u (by omega)
    have hne := hn t (by omega)
    obtain ⟨i, hi1, hi2⟩ : ∃ i, (grow net nd (litAt net nd s t)).testBit i = true ∧ (litAt net nd s t).testBit i = false := by
      apply Classical.byContradiction
      intro hno
      refine hne (bits_eq fun j => ⟨fun hj => ?_, fun hj => testBit_grow.2 (Or.inl hj)⟩)
      cases e : (litAt net nd s t).testBit j
      · exact absurd ⟨j, hj, e⟩ hno
      · rfl
    have := popTo_lt (a := litAt net nd s t) (b := grow net nd (litAt net nd s t)) (n := net.length) (fun j hj => testBit_grow.2 (Or.inl hj)) hi2 hi1 (bits_lt (grow_lt (litAt_lt h t)) hi1)
    rw [litAt]; omega
/-- After how many steps at least nothing more is lit. -/
structure Ends (net nd : List Nat) (s t : Nat) : Prop where
  fix : grow net nd (litAt net nd s t) = litAt net nd s t
  least : ∀ u, u < t → grow net nd (litAt net nd s u) ≠ litAt net nd s u
theorem Ends.few {net nd : List Nat} {s t : Nat} (h : Ends net nd s t) (hs : s < 2 ^ net.length) : popTo s net.length + t ≤ net.length := by
  have h1 := litAt_many hs t h.least
  have h2 := pop_most (litAt net nd s t) net.length
  omega
theorem ends_of {net nd : List Nat} {s : Nat} (hs : s < 2 ^ net.length) : ∃ t, Ends net nd s t := by
  apply Classical.byContradiction
  intro hn
  have h0 : ∀ t u, u < t → grow net nd (litAt net nd s u) ≠ litAt net nd s u := by
    intro t u _ hf
    obtain ⟨m, -, h1, h2⟩ := least_of (P := fun t => grow net nd (litAt net nd s t) = litAt net nd s t) u hf
    exact hn ⟨m, h1, h2⟩
  have h1 := litAt_many hs (net.length + 1) (h0 _)
  have h2 := pop_most (litAt net nd s (net.length + 1)) net.length
  omega
theorem Ends.same {net nd : List Nat} {s t u : Nat} (h : Ends net nd s t) (k : Ends net nd s u) : t = u := by
  rcases Nat.lt_trichotomy t u with e | e | e
  · exact absurd h.fix (k.least t e)
  · exact e
  · exact absurd k.fix (h.least u e)
/-- What is lit in the end. -/
def spread (net nd : List Nat) (s : Nat) : Nat := litAt net nd s net.length
theorem Ends.all {net nd : List Nat} {s t : Nat} (h : Ends net nd s t) (hs : s < 2 ^ net.length) : litAt net nd s t = spread net nd s := by
  have := h.few hs
  exact (litAt_fix h.fix net.length (by omega)).symm
theorem spread_fix {net nd : List Nat} {s : Nat} (hs : s < 2 ^ net.length) : grow net nd (spread net nd s) = spread net nd s := by
  obtain ⟨t, h⟩ := ends_of (nd := nd) hs
  rw [← h.all hs]; exact h.fix
theorem spread_lt {net nd : List Nat} {s : Nat} (hs : s < 2 ^ net.length) : spread net nd s < 2 ^ net.length := litAt_lt hs _
theorem spread_up (net nd : List Nat) (s : Nat) {j : Nat} (h : s.testBit j = true) : (spread net nd s).testBit j = true := litAt_up net nd s _ h
/-- No set that lights nothing more has less. -/
theorem litAt_in {net nd : List Nat} {s c : Nat} (h : ∀ j, s.testBit j = true → c.testBit j = true) (hc : grow net nd c = c) : ∀ t j, (litAt net nd s t).testBit j = true → c.testBit j = true
  | 0, j, hj => h j hj
  | t + 1, j, hj => by
    have h1 := grow_mono (litAt_in h hc t) j hj
    rwa [hc] at h1
theorem spread_in {net nd : List Nat} {s c : Nat} (h : ∀ j, s.testBit j = true → c.testBit j = true) (hc : grow net nd c = c) {j : Nat} (hj : (spread net nd s).testBit j = true) : c.testBit j = true := litAt_in h hc _ j hj
theorem spread_mono {net nd : List Nat} {s u : Nat} (hu : u < 2 ^ net.length) (h : ∀ j, s.testBit j = true → u.testBit j = true) {j : Nat} (hj : (spread net nd s).testBit j = true) : (spread net nd u).testBit j = true :=
  spread_in (fun j hj => spread_up net nd u (h j hj)) (spread_fix hu) hj
theorem spread_again {net nd : List Nat} {s : Nat} (hs : s < 2 ^ net.length) : Ends net nd (spread net nd s) 0 := ⟨spread_fix hs, fun u hu => absurd hu (by omega)⟩

/-- Nodes asked one after the other. -/
def askTo (net nd os : List Nat) (s : Nat) : Nat → Nat
  | 0 => s
  | k + 1 => if enoughB net nd (askTo net nd os s k) (os.getD k 0) = true then askTo net nd os s k ||| 2 ^ (os.getD k 0) else askTo net nd os s k
theorem askTo_up (net nd os : List Nat) (s : Nat) {j : Nat} : ∀ k, s.testBit j = true → (askTo net nd os s k).testBit j = true
  | 0, h => h
  | k + 1, h => by
    have := askTo_up net nd os s k h
    rw [askTo]
    split
    · rw [Nat.testBit_or, this]; rfl
    · exact this
theorem askTo_in {net nd os : List Nat} (ho : Ord net.length os) {s c : Nat} (h : ∀ j, s.testBit j = true → c.testBit j = true) (hc : grow net nd c = c) : ∀ k, k ≤ net.length → ∀ j, (askTo net nd os s k).testBit j = true → c.testBit j = true
  | 0, _, j, hj => h j hj
  | k + 1, hk, j, hj => by
    have ih := askTo_in ho h hc k (by omega)
    rw [askTo] at hj
    split at hj
    · rename_i he
      rw [Nat.testBit_or, Bool.or_eq_true] at hj
      rcases hj with hj | hj
      · exact ih j hj
      · rw [bit_pow] at hj
        subst hj
        rw [← hc]
        exact testBit_grow.2 (Or.inr ⟨ho.lt k (by omega), enough_mono ih he⟩)
    · exact ih j hj
theorem askTo_more (net nd os : List Nat) (s : Nat) {j k : Nat} : ∀ m, (askTo net nd os s k).testBit j = true → (askTo net nd os s (k + m)).testBit j = true
  | 0, h => h
  | m + 1, h => by
    have := askTo_more net nd os s m h
    rw [← Nat.add_assoc, askTo]
    split
    · rw [Nat.testBit_or, this]; rfl
    · exact this
/-- If all are asked and none is lit, nothing more is lit at once either. -/
theorem ask_fix {net nd os : List Nat} (ho : Ord net.length os) {s : Nat} (e : askTo net nd os s net.length = s) : grow net nd s = s := by
  have mid : ∀ k, k ≤ net.length → askTo net nd os s k = s := fun k hk => bits_eq fun j => ⟨fun hj => by
    have h1 := askTo_more net nd os s (net.length - k) hj
    rwa [show k + (net.length - k) = net.length by omega, e] at h1, fun hj => askTo_up net nd os s k hj⟩
  refine bits_eq fun j => ⟨fun hj => ?_, fun hj => testBit_grow.2 (Or.inl hj)⟩
  rcases testBit_grow.1 hj with h1 | ⟨h1, h2⟩
  · exact h1
  · obtain ⟨k, hk, rfl⟩ := ho.surj h1
    have h3 := mid (k + 1) (by omega)
    rw [askTo, mid k (by omega), if_pos h2] at h3
    rw [← h3, Nat.testBit_or, (bit_pow _ _).2 rfl]; simp
/-- Asked again and again. -/
def asks (net nd os : List Nat) (s : Nat) : Nat → Nat
  | 0 => s
  | t + 1 => askTo net nd os (asks net nd os s t) net.length
theorem asks_up (net nd os : List Nat) (s : Nat) {j : Nat} : ∀ t, s.testBit j = true → (asks net nd os s t).testBit j = true
  | 0, h => h
  | t + 1, h => askTo_up _ _ _ _ _ (asks_up net nd os s t h)
theorem asks_in {net nd os : List Nat} (ho : Ord net.length os) {s c : Nat} (h : ∀ j, s.testBit j = true → c.testBit j = true) (hc : grow net nd c = c) : ∀ t j, (asks net nd os s t).testBit j = true → c.testBit j = true
  | 0, j, hj => h j hj
  | t + 1, j, hj => askTo_in ho (asks_in ho h hc t) hc _ (Nat.le_refl _) j hj
/-- In any order the same are lit. -/
theorem asks_spread {net nd os : List Nat} (ho : Ord net.length os) {s t : Nat} (hs : s < 2 ^ net.length) (e : askTo net nd os (asks net nd os s t) net.length = asks net nd os s t) : asks net nd os s t = spread net nd s :=
  bits_eq fun _ => ⟨fun hj => asks_in ho (fun _ hj => spread_up net nd s hj) (spread_fix hs) t _ hj, fun hj => spread_in (fun _ hj => asks_up net nd os s t hj) (ask_fix ho e) hj⟩
theorem asks_many {net nd os : List Nat} (ho : Ord net.length os) {s : Nat} (hs : s < 2 ^ net.length) : ∀ t, (∀ u, u < t → askTo net nd os (asks net nd os s u) net.length ≠ asks net nd os s u) → popTo s net.length + t ≤ popTo (asks net nd os s t) net.length
  | 0, _ => Nat.le_refl _
  | t + 1, hn => by
    have ih := asks_many ho hs t fun u hu => hn u (by omega)
    have hne := hn t (by omega)
    obtain ⟨i, hi1, hi2⟩ : ∃ i, (askTo net nd os (asks net nd os s t) net.length).testBit i = true ∧ (asks net nd os s t).testBit i = false := by
      apply Classical.byContradiction
      intro hno
      refine hne (bits_eq fun j => ⟨fun hj => ?_, fun hj => askTo_up net nd os _ _ hj⟩)
      cases e : (asks net nd os s t).testBit j
      · exact absurd ⟨j, hj, e⟩ hno
      · rfl
    have hin : i < net.length := bits_lt (spread_lt (nd := nd) hs) (asks_in ho (fun _ hj => spread_up net nd s hj) (spread_fix hs) (t + 1) i hi1)
    have := popTo_lt (a := asks net nd os s t) (b := askTo net nd os (asks net nd os s t) net.length) (n := net.length) (fun j hj => askTo_up net nd os _ _ hj) hi2 hi1 hin
    rw [asks]; omega

/-- With greater needs no more is lit. -/
theorem spread_needs {net nd md : List Nat} {s : Nat} (hs : s < 2 ^ net.length) (h : ∀ k, k < net.length → nd.getD k 0 ≤ md.getD k 0) {j : Nat} (hj : (spread net md s).testBit j = true) : (spread net nd s).testBit j = true := by
  refine spread_in (fun j hj => spread_up net nd s hj) (bits_eq fun i => ⟨fun hi => ?_, fun hi => testBit_grow.2 (Or.inl hi)⟩) hj
  rcases testBit_grow.1 hi with h1 | ⟨h1, h2⟩
  · exact h1
  · rw [← spread_fix hs]
    refine testBit_grow.2 (Or.inr ⟨h1, ?_⟩)
    unfold enoughB at *
    rw [decide_eq_true_eq] at *
    exact Nat.le_trans (h i h1) h2

/-- Needs of one for each node. -/
def ones (n : Nat) : List Nat := List.replicate n 1
theorem ones_get {n k : Nat} (h : k < n) : (ones n).getD k 0 = 1 := by simp [ones, List.getD_eq_getElem?_getD, h]
theorem pop_pos {s n : Nat} : 1 ≤ popTo s n ↔ ∃ j, j < n ∧ s.testBit j = true := by
  induction n with
  | zero => simp [popTo]
  | succ n ih =>
    rw [popTo]
    constructor
    · intro h
      by_cases e : s.testBit n = true
      · exact ⟨n, by omega, e⟩
      · rw [if_neg e] at h
        obtain ⟨j, h1, h2⟩ := ih.1 (by omega)
        exact ⟨j, by omega, h2⟩
    · rintro ⟨j, h1, h2⟩
      by_cases e : j = n
      · subst e
        rw [if_pos h2]; omega
      · have := ih.2 ⟨j, by omega, h2⟩
        omega
theorem enough_one {net : List Nat} {s k : Nat} (hk : k < net.length) (hs : s < 2 ^ net.length) : enoughB net (ones net.length) s k = true ↔ ∃ j, (net.getD k 0).testBit j = true ∧ s.testBit j = true := by
  unfold enoughB
  rw [decide_eq_true_eq, ones_get hk, pop_pos]
  constructor
  · rintro ⟨j, -, h⟩
    rw [Nat.testBit_and, Bool.and_eq_true] at h
    exact ⟨j, h⟩
  · rintro ⟨j, h1, h2⟩
    exact ⟨j, bits_lt hs h2, by rw [Nat.testBit_and, h1, h2]; rfl⟩
/-- With needs of one it spreads as a wave. -/
theorem litAt_come {net : List Nat} (ok : Ok net) {s : Nat} (hs : s < 2 ^ net.length) : ∀ t, litAt net (ones net.length) s t = come net s (t + 1)
  | 0 => by
    show s = come net s 0 ||| front net s 0
    rw [come_zero, front_zero, Nat.zero_or]
  | t + 1 => by
    have ih := litAt_come ok hs t
    rw [litAt, ih]
    refine bits_eq fun j => ?_
    rw [testBit_grow, come_succ net s (t + 1), Nat.testBit_or, Bool.or_eq_true, front_succ, testBit_less, Bool.and_eq_true]
    constructor
    · rintro (h | ⟨h1, h2⟩)
      · exact Or.inl h
      · obtain ⟨i, h3, h4⟩ := (enough_one h1 (come_lt ok hs (t + 1)).1).1 h2
        have hi := bits_lt (come_lt ok hs (t + 1)).1 h4
        rw [ok.both j i h1 hi] at h3
        cases e : (come net s (t + 1)).testBit j
        · refine Or.inr ⟨testBit_near.2 ⟨i, hi, ?_, h3⟩, rfl⟩
          rw [come_succ, Nat.testBit_or, Bool.or_eq_true] at h4
          rcases h4 with h4 | h4
          · exfalso
            cases t with
            | zero => rw [come_zero] at h4; simp at h4
            | succ t =>
              rw [← litAt_come ok hs t] at h4
              have h5 : (litAt net (ones net.length) s (t + 1)).testBit j = true := testBit_grow.2 (Or.inr ⟨h1, (enough_one h1 (litAt_lt hs t)).2 ⟨i, by rw [ok.both j i h1 hi]; exact h3, h4⟩⟩)
              rw [litAt_come ok hs (t + 1), e] at h5
              cases h5
          · exact h4
        · exact Or.inl rfl
    · rintro (h | ⟨h1, h2⟩)
      · exact Or.inl h
      · obtain ⟨i, hi, h3, h4⟩ := testBit_near.1 h1
        have hj : j < net.length := bits_lt (ok.fit i hi) h4
        refine Or.inr ⟨hj, (enough_one hj (come_lt ok hs (t + 1)).1).2 ⟨i, ?_, ?_⟩⟩
        · rw [ok.both j i hj hi]; exact h4
        · rw [come_succ, Nat.testBit_or, h3]; simp

end Nt
end Go.Proofs.Ytgibncpgdbldnaa

namespace Go.Proofs.Ytgibncpgdbldnaa
namespace Nt

theorem come_dist {net : List Nat} {s k t : Nat} (ht : t < 64) : (come net s (t + 1)).testBit k = true ↔ 0 ≤ dist net s 64 k ∧ dist net s 64 k ≤ (t : Int) := by
  constructor
  · intro h
    have h1 := (dist_keep h 64 (by omega)).1
    rcases dist_before (net := net) (set := s) (t + 1) k with ⟨-, h2⟩ | ⟨h2, h3, -⟩
    · rw [h] at h2; cases h2
    · rw [h1]; omega
  · rintro ⟨h1, h2⟩
    rcases dist_told (net := net) (set := s) (k := k) with ⟨h3, -⟩ | ⟨u, hu, h3, h4⟩
    · omega
    · have h5 : (come net s (u + 1)).testBit k = true := by rw [come_succ, Nat.testBit_or, h4]; simp
      exact (dist_keep h5 (t + 1) (by omega)).2
theorem litAt_dist {net : List Nat} (ok : Ok net) {s : Nat} (hs : s < 2 ^ net.length) {k t : Nat} (ht : t < 64) : (litAt net (ones net.length) s t).testBit k = true ↔ 0 ≤ dist net s 64 k ∧ dist net s 64 k ≤ (t : Int) := by
  rw [litAt_come ok hs, come_dist ht]
theorem spread_dist {net : List Nat} (ok : Ok net) {s : Nat} (hs : s < 2 ^ net.length) {k : Nat} : (spread net (ones net.length) s).testBit k = true ↔ 0 ≤ dist net s 64 k := by
  have := ok.few
  have := dist_few ok hs k
  unfold spread
  rw [litAt_dist ok hs (by omega)]
  omega
/-- It takes as many steps as the farthest node is away. -/
theorem ends_far {net : List Nat} (ok : Ok net) {s t : Nat} (hs : s < 2 ^ net.length) (h : Ends net (ones net.length) s t) : (∀ k, dist net s 64 k ≤ (t : Int)) ∧ (t = 0 ∨ ∃ k, k < net.length ∧ dist net s 64 k = (t : Int)) := by
  have hf := ok.few
  have ht := h.few hs
  constructor
  · intro k
    by_cases e : 0 ≤ dist net s 64 k
    · have h1 := (spread_dist ok hs).2 e
      rw [← h.all hs, litAt_dist ok hs (by omega)] at h1
      exact h1.2
    · omega
  · cases t with
    | zero => exact Or.inl rfl
    | succ u =>
      right
      have hne := h.least u (by omega)
      apply Classical.byContradiction
      intro hno
      refine hne (bits_eq fun j => ⟨fun hj => ?_, fun hj => testBit_grow.2 (Or.inl hj)⟩)
      have h1 : (litAt net (ones net.length) s (u + 1)).testBit j = true := hj
      have hlt := bits_lt (litAt_lt hs (u + 1)) h1
      rw [litAt_dist ok hs (by omega)] at h1
      rw [litAt_dist ok hs (by omega)]
      refine ⟨h1.1, ?_⟩
      apply Classical.byContradiction
      intro hgt
      exact hno ⟨j, hlt, by omega⟩

/-- All nodes. -/
def full (net : List Nat) : Nat := 2 ^ net.length - 1
theorem full_lt (net : List Nat) : full net < 2 ^ net.length := all_lt net
theorem full_bit {net : List Nat} {k : Nat} : (full net).testBit k = true ↔ k < net.length := by
  unfold full
  rw [Nat.testBit_two_pow_sub_one]; simp
theorem full_iff {net : List Nat} {s : Nat} (hs : s < 2 ^ net.length) : s = full net ↔ ∀ k, k < net.length → s.testBit k = true := by
  constructor
  · rintro rfl k hk
    exact full_bit.2 hk
  · intro h
    exact bits_eq fun j => ⟨fun hj => full_bit.2 (bits_lt hs hj), fun hj => h j (full_bit.1 hj)⟩
theorem spread_full (net nd : List Nat) : spread net nd (full net) = full net := (full_iff (spread_lt (full_lt net))).2 fun _ hk => spread_up net nd _ (full_bit.2 hk)
/-- The least one of the smallest sets that light all nodes in the end. -/
structure Spark (net nd : List Nat) (s : Nat) : Prop where
  lt : s < 2 ^ net.length
  all : spread net nd s = full net
  few : ∀ u, u < 2 ^ net.length → spread net nd u = full net → popTo s net.length ≤ popTo u net.length
  first : ∀ u, u < s → spread net nd u = full net → popTo s net.length < popTo u net.length
theorem Spark.same {net nd : List Nat} {s u : Nat} (h : Spark net nd s) (k : Spark net nd u) : s = u := by
  have e1 := h.few u k.lt k.all
  have e2 := k.few s h.lt h.all
  rcases Nat.lt_trichotomy s u with e | e | e
  · have := k.first s e h.all; omega
  · exact e
  · have := h.first u e k.all; omega
theorem pop_drop {s n k : Nat} (hk : k < n) (h : s.testBit k = true) {u : Nat} (hu : ∀ j, u.testBit j = true ↔ s.testBit j = true ∧ j ≠ k) : popTo u n < popTo s n :=
  popTo_lt (i := k) (fun j hj => ((hu j).1 hj).1) (by
    cases e : u.testBit k
    · rfl
    · exact absurd rfl ((hu k).1 e).2) h hk
theorem Spark.drop {net nd : List Nat} {s : Nat} (h : Spark net nd s) {k : Nat} (hk : k < net.length) (hb : s.testBit k = true) {u : Nat} (hu : ∀ j, u.testBit j = true ↔ s.testBit j = true ∧ j ≠ k) : spread net nd u ≠ full net := fun e => by
  have h1 := pop_drop hk hb hu
  have h2 := h.few u (lt_of_bits fun j hj => bits_lt h.lt ((hu j).1 hj).1) e
  omega
theorem Spark.more {net nd md : List Nat} {s u : Nat} (h : Spark net nd s) (k : Spark net md u) (hn : ∀ i, i < net.length → nd.getD i 0 ≤ md.getD i 0) : popTo s net.length ≤ popTo u net.length := by
  refine h.few u k.lt ((full_iff (spread_lt k.lt)).2 fun i hi => spread_needs k.lt hn ?_)
  rw [k.all]
  exact full_bit.2 hi
theorem spread_covers {net : List Nat} (ok : Ok net) {s steps : Nat} (hs : s < 2 ^ net.length) (h6 : net.length ≤ steps + 1) : spread net (ones net.length) s = full net ↔ covers net s steps = true := by
  rw [full_iff (spread_lt hs), covers_iff]
  constructor
  · intro h k hk
    have h1 := (spread_dist ok hs).1 (h k hk)
    have h2 := dist_few ok hs k
    omega
  · intro h k hk
    exact (spread_dist ok hs).2 (h k hk).1
theorem spark_parts {net : List Nat} (ok : Ok net) {s : Nat} (h : Spark net (ones net.length) s) : popTo s net.length = reps (parts net) := by
  refine fewest_parts ok (steps := net.length) (by omega) ⟨⟨s, h.lt, (spread_covers ok h.lt (by omega)).1 h.all, rfl⟩, fun u hu hc => h.few u hu ((spread_covers ok hu (by omega)).2 hc)⟩
/-- The sets gone through one by one, the best one of them kept. -/
def sparkTo (net nd : List Nat) : Nat → Nat
  | 0 => full net
  | u + 1 => if spread net nd u = full net ∧ popTo u net.length < popTo (sparkTo net nd u) net.length then u else sparkTo net nd u
theorem sparkTo_small (net nd : List Nat) : ∀ n, sparkTo net nd n = full net ∨ sparkTo net nd n < n
  | 0 => Or.inl rfl
  | n + 1 => by
    rw [sparkTo]
    split
    · right; omega
    · rcases sparkTo_small net nd n with h | h
      · exact Or.inl h
      · right; omega
theorem pop_all_bits {u n : Nat} (h : popTo u n = n) : ∀ k, k < n → u.testBit k = true := by
  induction n with
  | zero => intro k hk; omega
  | succ n ih =>
    rw [popTo] at h
    have h1 := pop_most u n
    by_cases e : u.testBit n = true
    · rw [if_pos e] at h
      intro k hk
      by_cases e2 : k = n
      · subst e2; exact e
      · exact ih (by omega) k (by omega)
    · rw [if_neg e] at h; omega
theorem sparkTo_good (net nd : List Nat) : ∀ n, n ≤ 2 ^ net.length → sparkTo net nd n < 2 ^ net.length ∧ spread net nd (sparkTo net nd n) = full net ∧ (∀ u, u < n → spread net nd u = full net → popTo (sparkTo net nd n) net.length ≤ popTo u net.length) ∧
    (∀ u, u < n → u < sparkTo net nd n → spread net nd u = full net → popTo (sparkTo net nd n) net.length < popTo u net.length)
  | 0, _ => ⟨full_lt net, spread_full net nd, fun u hu => absurd hu (by omega), fun u hu => absurd hu (by omega)⟩
  | n + 1, hn => by
    obtain ⟨h1, h2, h3, h4⟩ := sparkTo_good net nd n (by omega)
    rw [sparkTo]
    by_cases e : spread net nd n = full net ∧ popTo n net.length < popTo (sparkTo net nd n) net.length
    · rw [if_pos e]
      refine ⟨by omega, e.1, fun u hu hs => ?_, fun u hu hlt hs => ?_⟩
      · by_cases e2 : u = n
        · subst e2; exact Nat.le_refl _
        · have := h3 u (by omega) hs
          omega
      · have := h3 u (by omega) hs
        omega
    · rw [if_neg e]
      refine ⟨h1, h2, fun u hu hs => ?_, fun u hu hlt hs => ?_⟩
      · by_cases e2 : u = n
        · subst e2
          apply Classical.byContradiction
          intro hc
          exact e ⟨hs, by omega⟩
        · exact h3 u (by omega) hs
      · by_cases e2 : u = n
        · subst e2
          apply Classical.byContradiction
          intro hc
          have h5 : ¬ popTo u net.length < popTo (sparkTo net nd u) net.length := fun h6 => e ⟨hs, h6⟩
          have h6 : popTo u net.length = popTo (sparkTo net nd u) net.length := by omega
          have h7 : sparkTo net nd u = full net ∨ sparkTo net nd u < u := sparkTo_small net nd u
          rcases h7 with h7 | h7
          · rw [h7, show popTo (full net) net.length = net.length from popTo_all _] at h6
            have h8 : u = full net := (full_iff (by omega)).2 (pop_all_bits h6)
            omega
          · omega
        · exact h4 u (by omega) hlt hs
theorem spark_of (net nd : List Nat) : Spark net nd (sparkTo net nd (2 ^ net.length)) := by
  obtain ⟨h1, h2, h3, h4⟩ := sparkTo_good net nd (2 ^ net.length) (Nat.le_refl _)
  exact ⟨h1, h2, h3, fun u hu hs => h4 u (by omega) hu hs⟩

/-- A state after a step with needs. -/
def needStep (net nd : List Nat) (c : Nat) (ks : List Nat) : List Nat := (List.range ks.length).map fun k => fireK c (ks.getD k 0) (enoughB net nd (fires ks) k)
theorem needStep_length (net nd : List Nat) (c : Nat) (ks : List Nat) : (needStep net nd c ks).length = ks.length := by simp [needStep]
theorem needStep_get (net nd : List Nat) (c : Nat) (ks : List Nat) {k : Nat} (h : k < ks.length) : (needStep net nd c ks).getD k 0 = fireK c (ks.getD k 0) (enoughB net nd (fires ks) k) := by
  simp [needStep, List.getD_eq_getElem?_getD, h]
theorem needStep_st (net nd : List Nat) {c : Nat} {ks : List Nat} (h : St c ks) : St c (needStep net nd c ks) :=
  ⟨h.c3, h.c5, by rw [needStep_length]; exact h.some, by rw [needStep_length]; exact h.few, fun k hk => by
    rw [needStep_length] at hk
    rw [needStep_get _ _ _ _ hk]
    exact fireK_lt h.c3 _⟩
theorem fires_ltQ (ks : List Nat) : fires ks < 2 ^ ks.length := firesTo_lt ks _
theorem testBit_fires {ks : List Nat} {j : Nat} : (fires ks).testBit j = true ↔ j < ks.length ∧ ks.getD j 0 = 1 := testBit_firesTo ks j _
/-- With needs of one it fires as before. -/
theorem need_ones {net ks : List Nat} (hl : ks.length = net.length) (c : Nat) : needStep net (ones net.length) c ks = step net c ks := by
  unfold needStep step
  apply List.map_congr_left
  intro k hk
  rw [List.mem_range] at hk
  congr 1
  apply bool_eq
  rw [enough_one (by omega) (by rw [← hl]; exact fires_ltQ ks), litB_iff]
  constructor
  · rintro ⟨j, h1, h2⟩
    obtain ⟨h3, h4⟩ := testBit_fires.1 h2
    exact ⟨j, h3, h1, h4⟩
  · rintro ⟨j, h1, h2, h3⟩
    exact ⟨j, h2, testBit_fires.2 ⟨h1, h3⟩⟩
/-- Who fires newly with needs fires without them as well. -/
theorem need_fires {net nd ks : List Nat} {c : Nat} (h : St c ks) (hl : ks.length = net.length) (hn : ∀ k, k < net.length → 1 ≤ nd.getD k 0) {k : Nat} (hk : k < ks.length) (e : (needStep net nd c ks).getD k 0 = 1) : (step net c ks).getD k 0 = 1 := by
  rw [needStep_get _ _ _ _ hk, fireK_one (h.lt k hk)] at e
  have h1 := hn k (by omega)
  have h2 : enoughB net (ones net.length) (fires ks) k = true := by
    have := e.2
    unfold enoughB at *
    rw [decide_eq_true_eq] at *
    rw [ones_get (by omega)]; omega
  rw [← need_ones hl, needStep_get _ _ _ _ hk, fireK_one (h.lt k hk)]
  exact ⟨e.1, h2⟩
def needRun (net nd : List Nat) (c : Nat) (ks : List Nat) : Nat → List Nat
  | 0 => ks
  | t + 1 => needStep net nd c (needRun net nd c ks t)
theorem needRun_length (net nd : List Nat) (c : Nat) (ks : List Nat) : ∀ t, (needRun net nd c ks t).length = ks.length
  | 0 => rfl
  | t + 1 => by rw [needRun, needStep_length, needRun_length net nd c ks t]
theorem needRun_st (net nd : List Nat) {c : Nat} {ks : List Nat} (h : St c ks) : ∀ t, St c (needRun net nd c ks t)
  | 0 => h
  | t + 1 => needStep_st net nd (needRun_st net nd h t)
theorem needRun_add (net nd : List Nat) (c : Nat) (ks : List Nat) (a : Nat) : ∀ b, needRun net nd c ks (a + b) = needRun net nd c (needRun net nd c ks a) b
  | 0 => rfl
  | b + 1 => by
    show needStep net nd c (needRun net nd c ks (a + b)) = needStep net nd c (needRun net nd c (needRun net nd c ks a) b)
    rw [needRun_add net nd c ks a b]
theorem needRun_ones {net ks : List Nat} (hl : ks.length = net.length) (c : Nat) : ∀ t, needRun net (ones net.length) c ks t = run net c ks t
  | 0 => rfl
  | t + 1 => by rw [needRun, needRun_ones hl c t, need_ones (by rw [run_length]; exact hl)]; rfl

end Nt
end Go.Proofs.Ytgibncpgdbldnaa

namespace Go.Proofs.Ytgibncpgdbldnaa
namespace Nt

/-- Needs of a net. -/
structure Nd (ns nd : List Nat) : Prop where
  len : nd.length = ns.length
  lo : ∀ k, k < ns.length → 1 ≤ nd.getD k 0
  hi : ∀ k, k < ns.length → nd.getD k 0 ≤ 6
theorem ones_length (n : Nat) : (ones n).length = n := by simp [ones]
theorem Nd.ones (ns : List Nat) : Nd ns (ones ns.length) := ⟨ones_length _, fun k hk => by rw [ones_get hk]; exact Nat.le_refl _, fun k hk => by rw [ones_get hk]; omega⟩
/-- What NeedsOk answers. -/
def ndTo (ys : List Int) (k : Nat) : Prop := ∀ i, i < k → 1 ≤ ys.getD i 0 ∧ ys.getD i 0 ≤ 6
theorem ndTo_succ {ys : List Int} {k : Nat} (h : ndTo ys k) (h1 : 1 ≤ ys.getD k 0 ∧ ys.getD k 0 ≤ 6) : ndTo ys (k + 1) := fun i hi => by
  by_cases e : i = k
  · subst e; exact h1
  · exact h i (by omega)
def ndB (xs ys : List Int) : Bool := (okB xs && decide (ys.length = xs.length)) && (List.range ys.length).all fun k => decide (1 ≤ ys.getD k 0 ∧ ys.getD k 0 ≤ 6)
theorem ndB_iff {xs ys : List Int} : ndB xs ys = true ↔ okB xs = true ∧ ys.length = xs.length ∧ ndTo ys ys.length := by
  unfold ndB ndTo
  rw [Bool.and_eq_true, Bool.and_eq_true, decide_eq_true_eq, List.all_eq_true]
  constructor
  · rintro ⟨⟨h1, h2⟩, h3⟩
    exact ⟨h1, h2, fun k hk => by simpa using h3 k (List.mem_range.2 hk)⟩
  · rintro ⟨h1, h2, h3⟩
    exact ⟨⟨h1, h2⟩, fun k hk => by simpa using h3 k (List.mem_range.1 hk)⟩
theorem ndB_no {xs ys : List Int} (h : ¬ (okB xs = true ∧ ys.length = xs.length ∧ ndTo ys ys.length)) : ndB xs ys = false := by
  cases e : ndB xs ys
  · rfl
  · exact absurd (ndB_iff.1 e) h
theorem ndB_no1 {xs ys : List Int} (h : okB xs = false) : ndB xs ys = false := ndB_no fun a => by rw [h] at a; exact absurd a.1 (by simp)
theorem ndB_no2 {xs ys : List Int} (h : ¬ ys.length = xs.length) : ndB xs ys = false := ndB_no fun a => h a.2.1
theorem ndB_no3 {xs ys : List Int} {k : Nat} (hk : k < ys.length) (h : ¬ (1 ≤ ys.getD k 0 ∧ ys.getD k 0 ≤ 6)) : ndB xs ys = false := ndB_no fun a => h (a.2.2 k hk)
theorem ndB_end {xs ys : List Int} (h : ndTo ys ys.length) : ndB xs ys = (okB xs && decide (ys.length = xs.length)) := by
  unfold ndB
  rw [List.all_eq_true.2 (fun k hk => by simpa using h k (List.mem_range.1 hk)), Bool.and_true]
theorem ndB_ok {xs ys : List Int} (h : ndB xs ys = true) : ∃ ns nd, xs = nats ns ∧ ys = nats nd ∧ Ok ns ∧ Nd ns nd := by
  obtain ⟨h1, h2, h3⟩ := ndB_iff.1 h
  obtain ⟨ns, rfl, ok⟩ := okB_ok h1
  obtain ⟨nd, rfl⟩ := nats_of_nonneg (xs := ys) fun k hk => by have := (h3 k hk).1; omega
  rw [nats_length] at h2 h3
  rw [nats_length] at h2
  refine ⟨ns, nd, rfl, rfl, ok, h2, fun k hk => ?_, fun k hk => ?_⟩
  · have := (h3 k (by omega)).1
    rw [nats_get] at this; omega
  · have := (h3 k (by omega)).2
    rw [nats_get] at this; omega
theorem ndB_yes {ns nd : List Nat} (ok : Ok ns) (h : Nd ns nd) : ndB (nats ns) (nats nd) = true := by
  refine ndB_iff.2 ⟨ok_okB ok, by rw [nats_length, nats_length, h.len], fun k hk => ?_⟩
  rw [nats_length, h.len] at hk
  rw [nats_get]
  have h1 := h.lo k hk
  have h2 := h.hi k hk
  omega
theorem ndB_ones (xs : List Int) : ndB xs (nats (ones xs.length)) = okB xs := by
  cases h : okB xs
  · exact ndB_no1 h
  · obtain ⟨ns, rfl, ok⟩ := okB_ok h
    rw [nats_length]
    exact ndB_yes ok (Nd.ones ns)
theorem ndB_net {xs ys : List Int} (h : ndB xs ys = true) : okB xs = true := (ndB_iff.1 h).1
theorem ndB_len {xs ys : List Int} (h : ndB xs ys = true) : ys.length = xs.length := (ndB_iff.1 h).2.1

/-- What NeedStep answers. -/
def nstB (xs : List Int) (kinds : Int) (nds ys : List Int) : Bool := fireB xs kinds ys && ndB xs nds
theorem nstB_no1 {xs : List Int} {kinds : Int} {nds ys : List Int} (h : fireB xs kinds ys = false) : nstB xs kinds nds ys = false := by unfold nstB; rw [h]; rfl
theorem nstB_no2 {xs : List Int} {kinds : Int} {nds ys : List Int} (h : ndB xs nds = false) : nstB xs kinds nds ys = false := by unfold nstB; rw [h]; simp
theorem nstB_all {xs : List Int} {kinds : Int} {nds ys : List Int} (h1 : fireB xs kinds ys = true) (h2 : ndB xs nds = true) : nstB xs kinds nds ys = true := by unfold nstB; rw [h1, h2]; rfl
theorem nstB_split {xs : List Int} {kinds : Int} {nds ys : List Int} (h : nstB xs kinds nds ys = true) : fireB xs kinds ys = true ∧ ndB xs nds = true := by
  unfold nstB at h
  rw [Bool.and_eq_true] at h
  exact h
theorem nstB_ok {xs : List Int} {kinds : Int} {nds ys : List Int} (h : nstB xs kinds nds ys = true) :
    ∃ ns c nd ks, xs = nats ns ∧ kinds = ((c : Nat) : Int) ∧ nds = nats nd ∧ ys = nats ks ∧ Ok ns ∧ Nd ns nd ∧ St c ks ∧ ks.length = ns.length := by
  obtain ⟨h1, h2⟩ := nstB_split h
  obtain ⟨ns, nd, rfl, rfl, ok, hn⟩ := ndB_ok h2
  obtain ⟨ms, c, ks, e, rfl, rfl, _, st, hl⟩ := fireB_ok h1
  have e2 := nats_inj e
  subst e2
  exact ⟨ns, c, nd, ks, rfl, rfl, rfl, rfl, ok, hn, st, hl⟩
def nstOf (xs : List Int) (kinds : Int) (nds ys : List Int) : List Int := if nstB xs kinds nds ys = true then nats (needStep (xs.map Int.toNat) (nds.map Int.toNat) kinds.toNat (ys.map Int.toNat)) else []
theorem nstOf_ok {ns nd ks : List Nat} {c : Nat} (ok : Ok ns) (hn : Nd ns nd) (st : St c ks) (hl : ks.length = ns.length) : nstOf (nats ns) (c : Int) (nats nd) (nats ks) = nats (needStep ns nd c ks) := by
  unfold nstOf
  rw [if_pos (nstB_all (fireB_yes ok st hl) (ndB_yes ok hn)), nats_toNat, nats_toNat, nats_toNat, Int.toNat_natCast]
theorem nstOf_no {xs : List Int} {kinds : Int} {nds ys : List Int} (h : nstB xs kinds nds ys = false) : nstOf xs kinds nds ys = [] := by unfold nstOf; rw [if_neg (by simp [h])]
theorem nstOf_small (xs : List Int) (kinds : Int) (nds ys : List Int) : (nstOf xs kinds nds ys).length ≤ 6 := by
  cases h : nstB xs kinds nds ys
  · rw [nstOf_no h]; simp
  · obtain ⟨ns, c, nd, ks, rfl, rfl, rfl, rfl, ok, hn, st, hl⟩ := nstB_ok h
    rw [nstOf_ok ok hn st hl, nats_length, needStep_length]
    exact st.few

/-- After how many steps nothing more is lit, by so many steps. -/
def spF (net nd : List Nat) : Nat → Nat → Nat
  | 0, _ => 0
  | f + 1, s => if grow net nd s = s then 0 else spF net nd f (grow net nd s) + 1
theorem litAt_shift (net nd : List Nat) (s : Nat) : ∀ t, litAt net nd (grow net nd s) t = litAt net nd s (t + 1)
  | 0 => rfl
  | t + 1 => by rw [litAt, litAt_shift net nd s t]; rfl
theorem spF_is {net nd : List Nat} : ∀ (f s t : Nat), Ends net nd s t → t ≤ f → spF net nd f s = t
  | 0, _, t, _, h => by rw [spF]; omega
  | f + 1, s, 0, h, _ => by rw [spF, if_pos (show grow net nd s = s from h.fix)]
  | f + 1, s, t + 1, h, hf => by
    rw [spF, if_neg (show ¬ grow net nd s = s from h.least 0 (by omega)), spF_is f (grow net nd s) t ⟨by rw [litAt_shift]; exact h.fix, fun u hu => by rw [litAt_shift]; exact h.least (u + 1) (by omega)⟩ (by omega)]
def spN (net nd : List Nat) (s : Nat) : Nat := spF net nd net.length s
theorem spN_is {net nd : List Nat} {s t : Nat} (hs : s < 2 ^ net.length) (h : Ends net nd s t) : spN net nd s = t := spF_is _ _ _ h (by have := h.few hs; omega)
theorem spN_ends {net nd : List Nat} {s : Nat} (hs : s < 2 ^ net.length) : Ends net nd s (spN net nd s) := by
  obtain ⟨t, h⟩ := ends_of (nd := nd) hs
  rw [spN_is hs h]; exact h
theorem spN_le {net nd : List Nat} {s : Nat} (hs : s < 2 ^ net.length) : spN net nd s ≤ net.length := by
  have := (spN_ends (nd := nd) hs).few hs
  omega
/-- What SpreadSet answers. -/
def sprB (xs nds : List Int) (set : Int) : Bool := ndB xs nds && decide (0 ≤ set ∧ set < 2 ^ xs.length)
theorem sprB_no1 {xs nds : List Int} {set : Int} (h : ndB xs nds = false) : sprB xs nds set = false := by unfold sprB; rw [h]; rfl
theorem sprB_no2 {xs nds : List Int} {set : Int} (h : ¬ (0 ≤ set ∧ set < 2 ^ xs.length)) : sprB xs nds set = false := by unfold sprB; rw [decide_eq_false h]; simp
theorem sprB_all {xs nds : List Int} {set : Int} (h1 : ndB xs nds = true) (h2 : 0 ≤ set ∧ set < 2 ^ xs.length) : sprB xs nds set = true := by unfold sprB; rw [h1, decide_eq_true h2]; rfl
theorem sprB_ok {xs nds : List Int} {set : Int} (h : sprB xs nds set = true) : ∃ ns nd s, xs = nats ns ∧ nds = nats nd ∧ set = ((s : Nat) : Int) ∧ Ok ns ∧ Nd ns nd ∧ s < 2 ^ ns.length := by
  unfold sprB at h
  rw [Bool.and_eq_true, decide_eq_true_eq] at h
  obtain ⟨h1, h2, h3⟩ := h
  obtain ⟨ns, nd, rfl, rfl, ok, hn⟩ := ndB_ok h1
  rw [nats_length] at h3
  refine ⟨ns, nd, set.toNat, rfl, rfl, by omega, ok, hn, ?_⟩
  have e : ((2 ^ ns.length : Nat) : Int) = (2 : Int) ^ ns.length := by simp
  omega
theorem sprB_yes {ns nd : List Nat} {s : Nat} (ok : Ok ns) (hn : Nd ns nd) (hs : s < 2 ^ ns.length) : sprB (nats ns) (nats nd) (s : Int) = true := by
  refine sprB_all (ndB_yes ok hn) ⟨by omega, ?_⟩
  rw [nats_length]
  have e : ((2 ^ ns.length : Nat) : Int) = (2 : Int) ^ ns.length := by simp
  omega
def sprOf (xs nds : List Int) (set : Int) : Int := if sprB xs nds set = true then ((spread (xs.map Int.toNat) (nds.map Int.toNat) set.toNat : Nat) : Int) else -1
def sprN (xs nds : List Int) (set : Int) : Int := if sprB xs nds set = true then ((spN (xs.map Int.toNat) (nds.map Int.toNat) set.toNat : Nat) : Int) else -1
theorem sprOf_ok {ns nd : List Nat} {s : Nat} (ok : Ok ns) (hn : Nd ns nd) (hs : s < 2 ^ ns.length) : sprOf (nats ns) (nats nd) (s : Int) = ((spread ns nd s : Nat) : Int) := by
  unfold sprOf; rw [if_pos (sprB_yes ok hn hs), nats_toNat, nats_toNat, Int.toNat_natCast]
theorem sprN_ok {ns nd : List Nat} {s : Nat} (ok : Ok ns) (hn : Nd ns nd) (hs : s < 2 ^ ns.length) : sprN (nats ns) (nats nd) (s : Int) = ((spN ns nd s : Nat) : Int) := by
  unfold sprN; rw [if_pos (sprB_yes ok hn hs), nats_toNat, nats_toNat, Int.toNat_natCast]
theorem sprOf_no {xs nds : List Int} {set : Int} (h : sprB xs nds set = false) : sprOf xs nds set = -1 := by unfold sprOf; rw [if_neg (by simp [h])]
theorem sprN_no {xs nds : List Int} {set : Int} (h : sprB xs nds set = false) : sprN xs nds set = -1 := by unfold sprN; rw [if_neg (by simp [h])]
/-- What LeastSpark answers. -/
def sparkOf (xs nds : List Int) : Int := if ndB xs nds = true then ((sparkTo (xs.map Int.toNat) (nds.map Int.toNat) (2 ^ xs.length) : Nat) : Int) else -1
theorem sparkOf_ok {ns nd : List Nat} (ok : Ok ns) (hn : Nd ns nd) : sparkOf (nats ns) (nats nd) = ((sparkTo ns nd (2 ^ ns.length) : Nat) : Int) := by
  unfold sparkOf; rw [if_pos (ndB_yes ok hn), nats_toNat, nats_toNat, nats_length]
theorem sparkOf_no {xs nds : List Int} (h : ndB xs nds = false) : sparkOf xs nds = -1 := by unfold sparkOf; rw [if_neg (by simp [h])]
theorem sparkOf_is {ns nd : List Nat} (ok : Ok ns) (hn : Nd ns nd) {s : Nat} (h : Spark ns nd s) : sparkOf (nats ns) (nats nd) = (s : Int) := by
  rw [sparkOf_ok ok hn, (spark_of ns nd).same h]
/-- What OneByOne answers. -/
def onebB (xs nds : List Int) (set : Int) (os : List Int) : Bool := sprB xs nds set && ordB xs.length os
def onebOf (xs nds : List Int) (set : Int) (os : List Int) : Int := if onebB xs nds set os = true then sprOf xs nds set else -1
theorem onebOf_no1 {xs nds : List Int} {set : Int} {os : List Int} (h : sprB xs nds set = false) : onebOf xs nds set os = -1 := by unfold onebOf onebB; rw [h]; rfl
theorem onebOf_no2 {xs nds : List Int} {set : Int} {os : List Int} (h : ordB xs.length os = false) : onebOf xs nds set os = -1 := by unfold onebOf onebB; rw [h, Bool.and_false]; rfl
theorem onebOf_yes {xs nds : List Int} {set : Int} {os : List Int} (h1 : sprB xs nds set = true) (h2 : ordB xs.length os = true) : onebOf xs nds set os = sprOf xs nds set := by unfold onebOf onebB; rw [h1, h2]; rfl
theorem onebB_split {xs nds : List Int} {set : Int} {os : List Int} (h : onebB xs nds set os = true) : sprB xs nds set = true ∧ ordB xs.length os = true := by
  unfold onebB at h
  rw [Bool.and_eq_true] at h
  exact h
/-- What NeedRun answers. -/
def nrunB (xs : List Int) (kinds : Int) (nds ys : List Int) (steps : Int) : Bool := nstB xs kinds nds ys && stepsB steps
def nrunOf (xs : List Int) (kinds : Int) (nds ys : List Int) (steps : Int) : List Int := if nrunB xs kinds nds ys steps = true then nats (needRun (xs.map Int.toNat) (nds.map Int.toNat) kinds.toNat (ys.map Int.toNat) steps.toNat) else []
theorem nrunOf_ok {ns nd ks : List Nat} {c t : Nat} (ok : Ok ns) (hn : Nd ns nd) (st : St c ks) (hl : ks.length = ns.length) (ht : t ≤ 60) : nrunOf (nats ns) (c : Int) (nats nd) (nats ks) (t : Int) = nats (needRun ns nd c ks t) := by
  unfold nrunOf nrunB
  rw [nstB_all (fireB_yes ok st hl) (ndB_yes ok hn), stepsB_yes ht, nats_toNat, nats_toNat, nats_toNat, Int.toNat_natCast, Int.toNat_natCast]; rfl
theorem nrunOf_no1 {xs : List Int} {kinds : Int} {nds ys : List Int} {steps : Int} (h : nstB xs kinds nds ys = false) : nrunOf xs kinds nds ys steps = [] := by unfold nrunOf nrunB; rw [h]; rfl
theorem nrunOf_no2 {xs : List Int} {kinds : Int} {nds ys : List Int} {steps : Int} (h : stepsB steps = false) : nrunOf xs kinds nds ys steps = [] := by unfold nrunOf nrunB; rw [h, Bool.and_false]; rfl
theorem nrunOf_small (xs : List Int) (kinds : Int) (nds ys : List Int) (steps : Int) : (nrunOf xs kinds nds ys steps).length ≤ 6 := by
  cases h : nstB xs kinds nds ys
  · rw [nrunOf_no1 h]; simp
  · cases h2 : stepsB steps
    · rw [nrunOf_no2 h2]; simp
    · obtain ⟨ns, c, nd, ks, rfl, rfl, rfl, rfl, ok, hn, st, hl⟩ := nstB_ok h
      obtain ⟨t, rfl, ht⟩ := stepsB_ok h2
      rw [nrunOf_ok ok hn st hl ht, nats_length, needRun_length]
      exact st.few
end Nt
end Go.Proofs.Ytgibncpgdbldnaa

namespace Go.Proofs.Ytgibncpgdbldnaa
namespace Nt

/-- What a step without needs lights too soon is taken back. -/
theorem needStep_from {ns nd ks : List Nat} {c : Nat} (st : St c ks) (hl : ks.length = ns.length) (hn : ∀ k, k < ns.length → 1 ≤ nd.getD k 0) {k : Nat} (hk : k < ks.length) :
    (needStep ns nd c ks).getD k 0 = if (step ns c ks).getD k 0 = 1 ∧ enoughB ns nd (fires ks) k = false then 0 else (step ns c ks).getD k 0 := by
  have hx := st.lt k hk
  have h3 := st.c3
  have hf := need_fires (nd := nd) st hl hn hk
  rw [needStep_get _ _ _ _ hk, step_get _ _ _ hk] at *
  generalize ks.getD k 0 = x at *
  generalize enoughB ns nd (fires ks) k = e at *
  generalize litB ns ks k = l at *
  by_cases h0 : 0 < x
  · have h1 : ¬ fireK c x l = 1 := fun h => by have := ((fireK_one hx l).1 h).1; omega
    rw [if_neg (fun h => h1 h.1)]
    unfold fireK
    rw [if_pos h0, if_pos h0]
  · have hx0 : x = 0 := by omega
    subst hx0
    cases e
    · cases l <;> rfl
    · have h1 : fireK c 0 l = 1 := hf ((fireK_one hx true).2 ⟨rfl, rfl⟩)
      rw [if_neg (fun h => by cases h.2), h1]
      exact (fireK_one hx true).2 ⟨rfl, rfl⟩
/-- The nodes below k whose needs a set meets. -/
def metTo (net nd : List Nat) (s : Nat) : Nat → Nat
  | 0 => 0
  | k + 1 => if enoughB net nd s k = true then metTo net nd s k ||| 2 ^ k else metTo net nd s k
theorem metTo_grow (net nd : List Nat) (s : Nat) : ∀ k, s ||| metTo net nd s k = growTo net nd s k
  | 0 => by rw [metTo, growTo, Nat.or_zero]
  | k + 1 => by
    rw [metTo, growTo]
    by_cases e : enoughB net nd s k = true
    · rw [if_pos e, if_pos e, ← metTo_grow net nd s k, Nat.or_assoc]
    · rw [if_neg e, if_neg e]; exact metTo_grow net nd s k
theorem metTo_lt (net nd : List Nat) (s : Nat) : ∀ k, metTo net nd s k < 2 ^ k
  | 0 => by rw [metTo]; exact Nat.one_pos
  | k + 1 => by
    have h1 := metTo_lt net nd s k
    have h2 : 2 ^ k < 2 ^ (k + 1) := Nat.pow_lt_pow_right (by omega) (by omega)
    rw [metTo]
    split
    · exact Nat.or_lt_two_pow (by omega) h2
    · omega
/-- The round in which asking lights nothing more. -/
theorem asks_end {net nd os : List Nat} (ho : Ord net.length os) {s : Nat} (hs : s < 2 ^ net.length) : ∃ T, T ≤ net.length ∧ (∀ t, t < T → asks net nd os s (t + 1) ≠ asks net nd os s t) ∧ asks net nd os s (T + 1) = asks net nd os s T := by
  apply Classical.byContradiction
  intro hno
  have h0 : ∀ t, t ≤ net.length → ∀ u, u < t + 1 → asks net nd os s (u + 1) ≠ asks net nd os s u := by
    intro t
    induction t with
    | zero =>
      intro h u hu e
      have : u = 0 := by omega
      subst this
      exact hno ⟨0, by omega, fun t ht => absurd ht (by omega), e⟩
    | succ t ih =>
      intro h u hu
      by_cases e : u < t + 1
      · exact ih (by omega) u e
      · have e2 : u = t + 1 := by omega
        subst e2
        intro e3
        exact hno ⟨t + 1, h, fun v hv => ih (by omega) v hv, e3⟩
  have h1 := asks_many (nd := nd) ho hs (net.length + 1) (fun u hu => h0 net.length (Nat.le_refl _) u hu)
  have h2 := pop_most (asks net nd os s (net.length + 1)) net.length
  omega
end Nt
end Go.Proofs.Ytgibncpgdbldnaa
