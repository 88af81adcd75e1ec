/-
  Plain mathematics: nets with other names; distances in named nets and in nets side by side.
-/
import Derived.Test.YtahjplaidkibpaaPureO
namespace Go.Proofs.Ytahjplaidkibpaa
namespace Nt

/-- A set with other names. -/
def nsetTo (os : List Nat) (s : Nat) : Nat → Nat
  | 0 => 0
  | k + 1 => if s.testBit k then nsetTo os s k ||| 2 ^ os.getD k 0 else nsetTo os s k
def nset (os : List Nat) (s : Nat) : Nat := nsetTo os s os.length

theorem testBit_nsetTo (os : List Nat) (s j : Nat) : ∀ n, (nsetTo os s n).testBit j = true ↔ ∃ k, k < n ∧ s.testBit k = true ∧ os.getD k 0 = j
  | 0 => by simp [nsetTo]
  | n + 1 => by
    have ih := testBit_nsetTo os s j n
    unfold nsetTo
    by_cases h : s.testBit n = true
    · rw [if_pos h, Nat.testBit_or, Bool.or_eq_true, ih, pow_bit]
      constructor
      · rintro (⟨k, hk, h1, h2⟩ | h2)
        · exact ⟨k, by omega, h1, h2⟩
        · exact ⟨n, by omega, h, h2⟩
      · rintro ⟨k, hk, h1, h2⟩
        by_cases e : k = n
        · subst e; exact .inr h2
        · exact .inl ⟨k, by omega, h1, h2⟩
    · rw [if_neg h, ih]
      constructor
      · rintro ⟨k, hk, h1, h2⟩
        exact ⟨k, by omega, h1, h2⟩
      · rintro ⟨k, hk, h1, h2⟩
        have : k ≠ n := fun e => h (e ▸ h1)
        exact ⟨k, by omega, h1, h2⟩

theorem nsetTo_lt {n : Nat} {os : List Nat} (h : Ord n os) (s : Nat) : ∀ k, k ≤ n → nsetTo os s k < 2 ^ n
  | 0, _ => Nat.two_pow_pos n
  | k + 1, hk => by
    have ih := nsetTo_lt h s k (by omega)
    unfold nsetTo
    split
    · exact Nat.or_lt_two_pow ih (two_pow_lt (h.lt k (by omega)))
    · exact ih
theorem nset_lt {n : Nat} {os : List Nat} (h : Ord n os) (s : Nat) : nset os s < 2 ^ n := nsetTo_lt h s _ (by rw [h.len]; exact Nat.le_refl _)

theorem bool_eq {a b : Bool} (h : a = true ↔ b = true) : a = b := by cases a <;> cases b <;> simp_all

theorem nset_bit {n : Nat} {os : List Nat} (h : Ord n os) (s : Nat) {k : Nat} (hk : k < n) : (nset os s).testBit (os.getD k 0) = s.testBit k := by
  apply bool_eq
  unfold nset
  rw [testBit_nsetTo, h.len]
  constructor
  · rintro ⟨i, hi, h1, h2⟩
    rw [h.inj i k hi hk h2] at h1
    exact h1
  · intro h1
    exact ⟨k, hk, h1, rfl⟩

/-- Two sets of nodes are the same if they are so at each place that the order tells. -/
theorem set_ext {n : Nat} {os : List Nat} (h : Ord n os) {a b : Nat} (ha : a < 2 ^ n) (hb : b < 2 ^ n) (he : ∀ k, k < n → a.testBit (os.getD k 0) = b.testBit (os.getD k 0)) : a = b := by
  apply Nat.eq_of_testBit_eq
  intro i
  by_cases hi : i < n
  · obtain ⟨k, hk, e⟩ := h.surj hi
    have := he k hk
    rwa [e] at this
  · rw [Nat.testBit_lt_two_pow (Nat.lt_of_lt_of_le ha (Nat.pow_le_pow_right (by omega) (by omega))), Nat.testBit_lt_two_pow (Nat.lt_of_lt_of_le hb (Nat.pow_le_pow_right (by omega) (by omega)))]

/-- A net with other names. -/
def named (ns os : List Nat) : List Nat := put ns.length os fun k => nset os (ns.getD k 0)
theorem named_length (ns os : List Nat) : (named ns os).length = ns.length := put_length _ _ _
theorem named_get {ns os : List Nat} (h : Ord ns.length os) {k : Nat} (hk : k < ns.length) : (named ns os).getD (os.getD k 0) 0 = nset os (ns.getD k 0) := put_get h _ hk

theorem named_ok {ns os : List Nat} (ok : Ok ns) (h : Ord ns.length os) : Ok (named ns os) := by
  refine ⟨by rw [named_length]; exact ok.some, by rw [named_length]; exact ok.few, fun i hi => ?_, fun i j hi hj => ?_, fun i hi => ?_⟩
  · rw [named_length] at *
    obtain ⟨k, hk, e⟩ := h.surj hi
    rw [← e, named_get h hk]
    exact nset_lt h _
  · rw [named_length] at *
    obtain ⟨k, hk, rfl⟩ := h.surj hi
    obtain ⟨l, hl, rfl⟩ := h.surj hj
    rw [named_get h hk, named_get h hl, nset_bit h _ hl, nset_bit h _ hk]
    exact ok.both k l hk hl
  · rw [named_length] at *
    obtain ⟨k, hk, rfl⟩ := h.surj hi
    rw [named_get h hk, nset_bit h _ hk]
    exact ok.own k hk

theorem near_named {ns os : List Nat} (ok : Ok ns) (h : Ord ns.length os) (s : Nat) : near (named ns os) (nset os s) = nset os (near ns s) := by
  have hl := near_lt (named_ok ok h) (nset os s)
  rw [named_length] at hl
  refine set_ext h hl (nset_lt h _) fun k hk => ?_
  rw [nset_bit h _ hk]
  apply bool_eq
  rw [testBit_near, testBit_near, named_length]
  constructor
  · rintro ⟨i, hi, h1, h2⟩
    obtain ⟨l, hl, rfl⟩ := h.surj hi
    rw [nset_bit h _ hl] at h1
    rw [named_get h hl, nset_bit h _ hk] at h2
    exact ⟨l, hl, h1, h2⟩
  · rintro ⟨l, hl, h1, h2⟩
    exact ⟨os.getD l 0, h.lt l hl, by rw [nset_bit h _ hl]; exact h1, by rw [named_get h hl, nset_bit h _ hk]; exact h2⟩

theorem nset_or {n : Nat} {os : List Nat} (h : Ord n os) (a b : Nat) : nset os (a ||| b) = nset os a ||| nset os b := by
  refine set_ext h (nset_lt h _) (Nat.or_lt_two_pow (nset_lt h _) (nset_lt h _)) fun k hk => ?_
  rw [nset_bit h _ hk, Nat.testBit_or, Nat.testBit_or, nset_bit h _ hk, nset_bit h _ hk]
theorem nset_less {n : Nat} {os : List Nat} (h : Ord n os) (a b : Nat) : nset os (less a b) = less (nset os a) (nset os b) := by
  refine set_ext h (nset_lt h _) (less_lt (nset_lt h _)) fun k hk => ?_
  rw [nset_bit h _ hk, testBit_less, testBit_less, nset_bit h _ hk, nset_bit h _ hk]
theorem nset_zero {n : Nat} {os : List Nat} (h : Ord n os) : nset os 0 = 0 := by
  refine set_ext h (nset_lt h _) (Nat.two_pow_pos n) fun k hk => ?_
  rw [nset_bit h _ hk]; simp
theorem nset_one {n : Nat} {os : List Nat} (h : Ord n os) {k : Nat} (hk : k < n) : nset os (2 ^ k) = 2 ^ os.getD k 0 := by
  refine set_ext h (nset_lt h _) (two_pow_lt (h.lt k hk)) fun j hj => ?_
  rw [nset_bit h _ hj]
  apply bool_eq
  rw [pow_bit, pow_bit]
  constructor
  · rintro rfl; rfl
  · intro e; exact h.inj k j hk hj e

theorem wave_named {ns os : List Nat} (ok : Ok ns) (h : Ord ns.length os) (s : Nat) : ∀ t, come (named ns os) (nset os s) t = nset os (come ns s t) ∧ front (named ns os) (nset os s) t = nset os (front ns s t)
  | 0 => by rw [come_zero, come_zero, front_zero, front_zero, nset_zero h]; exact ⟨rfl, rfl⟩
  | t + 1 => by
    have ih := wave_named ok h s t
    have hc : come (named ns os) (nset os s) (t + 1) = nset os (come ns s (t + 1)) := by
      rw [come_succ, come_succ, ih.1, ih.2, nset_or h]
    refine ⟨hc, ?_⟩
    rw [front_succ, front_succ, hc, ih.2, near_named ok h, nset_less h]

/-- Names change no distances. -/
theorem dist_named {ns os : List Nat} (ok : Ok ns) (h : Ord ns.length os) (s : Nat) {k : Nat} (hk : k < ns.length) : ∀ t, dist (named ns os) (nset os s) t (os.getD k 0) = dist ns s t k
  | 0 => rfl
  | t + 1 => by rw [dist, dist, (wave_named ok h s t).2, nset_bit h _ hk, dist_named ok h s hk t]

def canName (xs ys : List Int) : Bool := okB xs && ordB xs.length ys
def namedL (xs ys : List Int) : List Int := if canName xs ys = true then nats (named (xs.map Int.toNat) (ys.map Int.toNat)) else []
theorem canName_yes {ns os : List Nat} (h : Ok ns) (k : Ord ns.length os) : canName (nats ns) (nats os) = true := by
  unfold canName
  rw [ok_okB h, nats_length, ord_ordB k]; rfl
theorem canName_no1 {xs ys : List Int} (h : okB xs = false) : canName xs ys = false := by unfold canName; rw [h]; rfl
theorem canName_no2 {xs ys : List Int} (h : ordB xs.length ys = false) : canName xs ys = false := by unfold canName; rw [h]; simp
theorem namedL_ok {ns os : List Nat} (h : Ok ns) (k : Ord ns.length os) : namedL (nats ns) (nats os) = nats (named ns os) := by
  unfold namedL
  rw [if_pos (canName_yes h k), nats_toNat, nats_toNat]
theorem namedL_no {xs ys : List Int} (h : canName xs ys = false) : namedL xs ys = [] := by
  unfold namedL
  rw [if_neg (by rw [h]; simp)]
theorem namedL_small (xs ys : List Int) : (namedL xs ys).length ≤ 2000000 := by
  by_cases h : canName xs ys = true
  · have h' := h
    unfold canName at h'
    rw [Bool.and_eq_true] at h'
    obtain ⟨ns, rfl, ok⟩ := okB_ok h'.1
    obtain ⟨os, rfl, ho⟩ := ordB_ord h'.2
    rw [nats_length] at ho
    rw [namedL_ok ok ho, nats_length, named_length]
    have := ok.few
    omega
  · rw [namedL_no (by simpa using h)]; simp

/-- Side by side. -/
theorem joined_length (ms bs : List Nat) : (joined ms bs).length = ms.length + bs.length := by simp [joined]
theorem joined_get1 {ms bs : List Nat} {k : Nat} (h : k < ms.length) : (joined ms bs).getD k 0 = ms.getD k 0 := by
  simp [joined, List.getD_eq_getElem?_getD, List.getElem?_append_left h]
theorem joined_get2 {ms bs : List Nat} {k : Nat} (h : k < bs.length) : (joined ms bs).getD (ms.length + k) 0 = bs.getD k 0 * 2 ^ ms.length := by
  simp [joined, List.getD_eq_getElem?_getD, h]

theorem shl_bit (x n i : Nat) : (x * 2 ^ n).testBit i = (decide (n ≤ i) && x.testBit (i - n)) := by
  rw [← Nat.shiftLeft_eq, Nat.testBit_shiftLeft]
theorem shl_bit_lo {x n i : Nat} (h : i < n) : (x * 2 ^ n).testBit i = false := by
  rw [shl_bit]; simp; omega
theorem shl_bit_hi (x n i : Nat) : (x * 2 ^ n).testBit (n + i) = x.testBit i := by
  rw [shl_bit]; simp
theorem bit_high {x n i : Nat} (h : x < 2 ^ n) (hi : n ≤ i) : x.testBit i = false := Nat.testBit_lt_two_pow (Nat.lt_of_lt_of_le h (Nat.pow_le_pow_right (by omega) hi))

theorem split_ix {n m k : Nat} (h : k < n + m) : k < n ∨ ∃ i, i < m ∧ k = n + i := by
  by_cases e : k < n
  · exact .inl e
  · exact .inr ⟨k - n, by omega, by omega⟩

theorem joined_ok {ms bs : List Nat} (h : Ok ms) (k : Ok bs) (hl : ms.length + bs.length ≤ 6) : Ok (joined ms bs) := by
  have hm := h.some
  refine ⟨by rw [joined_length]; omega, by rw [joined_length]; exact hl, fun i hi => ?_, fun i j hi hj => ?_, fun i hi => ?_⟩
  · rw [joined_length] at *
    rcases split_ix hi with h1 | ⟨i, h1, rfl⟩
    · rw [joined_get1 h1]
      exact Nat.lt_of_lt_of_le (h.fit i h1) (Nat.pow_le_pow_right (by omega) (by omega))
    · rw [joined_get2 h1, Nat.pow_add, Nat.mul_comm]
      exact Nat.mul_lt_mul_of_pos_left (k.fit i h1) (Nat.two_pow_pos _)
  · rw [joined_length] at *
    rcases split_ix hi with h1 | ⟨i, h1, rfl⟩ <;> rcases split_ix hj with h2 | ⟨j, h2, rfl⟩
    · rw [joined_get1 h1, joined_get1 h2]; exact h.both i j h1 h2
    · rw [joined_get1 h1, joined_get2 h2, shl_bit_lo h1, bit_high (h.fit i h1) (by omega)]
    · rw [joined_get1 h2, joined_get2 h1, shl_bit_lo h2, bit_high (h.fit j h2) (by omega)]
    · rw [joined_get2 h1, joined_get2 h2, shl_bit_hi, shl_bit_hi]; exact k.both i j h1 h2
  · rw [joined_length] at *
    rcases split_ix hi with h1 | ⟨i, h1, rfl⟩
    · rw [joined_get1 h1]; exact h.own i h1
    · rw [joined_get2 h1, shl_bit_hi]; exact k.own i h1

theorem near_second (ms bs : List Nat) (_hf : ∀ k, k < ms.length → ms.getD k 0 < 2 ^ ms.length) (s : Nat) : near (joined ms bs) (s * 2 ^ ms.length) = near bs s * 2 ^ ms.length := by
  apply Nat.eq_of_testBit_eq
  intro j
  apply bool_eq
  rw [testBit_near, joined_length]
  constructor
  · rintro ⟨i, hi, h1, h2⟩
    rcases split_ix hi with h3 | ⟨i, h3, rfl⟩
    · rw [shl_bit_lo h3] at h1; cases h1
    · rw [shl_bit_hi] at h1
      rw [joined_get2 h3, shl_bit, Bool.and_eq_true, decide_eq_true_eq] at h2
      rw [shl_bit, Bool.and_eq_true, decide_eq_true_eq, testBit_near]
      exact ⟨h2.1, i, h3, h1, h2.2⟩
  · intro h
    rw [shl_bit, Bool.and_eq_true, decide_eq_true_eq, testBit_near] at h
    obtain ⟨h1, i, h2, h3, h4⟩ := h
    exact ⟨ms.length + i, by omega, by rw [shl_bit_hi]; exact h3, by rw [joined_get2 h2, shl_bit, h4]; simpa using h1⟩

theorem shl_or (a b n : Nat) : (a ||| b) * 2 ^ n = a * 2 ^ n ||| b * 2 ^ n := by
  apply Nat.eq_of_testBit_eq
  intro i
  rw [Nat.testBit_or, shl_bit, shl_bit, shl_bit, Nat.testBit_or]
  cases decide (n ≤ i) <;> rfl
theorem shl_less (a b n : Nat) : less a b * 2 ^ n = less (a * 2 ^ n) (b * 2 ^ n) := by
  apply Nat.eq_of_testBit_eq
  intro i
  rw [testBit_less, shl_bit, shl_bit, shl_bit, testBit_less]
  cases decide (n ≤ i) <;> rfl

theorem wave_second (ms bs : List Nat) (hf : ∀ k, k < ms.length → ms.getD k 0 < 2 ^ ms.length) (s : Nat) : ∀ t, come (joined ms bs) (s * 2 ^ ms.length) t = come bs s t * 2 ^ ms.length ∧ front (joined ms bs) (s * 2 ^ ms.length) t = front bs s t * 2 ^ ms.length
  | 0 => by rw [come_zero, come_zero, front_zero, front_zero]; simp
  | t + 1 => by
    have ih := wave_second ms bs hf s t
    have hc : come (joined ms bs) (s * 2 ^ ms.length) (t + 1) = come bs s (t + 1) * 2 ^ ms.length := by
      rw [come_succ, come_succ, ih.1, ih.2, shl_or]
    refine ⟨hc, ?_⟩
    rw [front_succ, front_succ, hc, ih.2, near_second ms bs hf, shl_less]

/-- In the second net it is as far as before. -/
theorem dist_second (ms bs : List Nat) (hf : ∀ k, k < ms.length → ms.getD k 0 < 2 ^ ms.length) (s k : Nat) : ∀ t, dist (joined ms bs) (s * 2 ^ ms.length) t (ms.length + k) = dist bs s t k
  | 0 => rfl
  | t + 1 => by rw [dist, dist, (wave_second ms bs hf s t).2, shl_bit_hi, dist_second ms bs hf s k t]

theorem near_first (ms bs : List Nat) (hf : ∀ k, k < ms.length → ms.getD k 0 < 2 ^ ms.length) {s : Nat} (hs : s < 2 ^ ms.length) : near (joined ms bs) s < 2 ^ ms.length := by
  refine Nat.lt_pow_two_of_testBit _ fun j hj => ?_
  cases e : (near (joined ms bs) s).testBit j
  · rfl
  · obtain ⟨i, hi, h1, h2⟩ := testBit_near.1 e
    rw [joined_length] at hi
    rcases split_ix hi with h3 | ⟨i, h3, rfl⟩
    · rw [joined_get1 h3, bit_high (hf i h3) hj] at h2; cases h2
    · rw [bit_high hs (by omega)] at h1; cases h1

theorem wave_first (ms bs : List Nat) (hf : ∀ k, k < ms.length → ms.getD k 0 < 2 ^ ms.length) {s : Nat} (hs : s < 2 ^ ms.length) : ∀ t, front (joined ms bs) s t < 2 ^ ms.length
  | 0 => hs
  | t + 1 => less_lt (near_first ms bs hf (wave_first ms bs hf hs t))

/-- From the first nodes none of the others is come to. -/
theorem dist_first (ms bs : List Nat) (hf : ∀ k, k < ms.length → ms.getD k 0 < 2 ^ ms.length) {s : Nat} (hs : s < 2 ^ ms.length) (k : Nat) : ∀ t, dist (joined ms bs) s t (ms.length + k) = -1
  | 0 => rfl
  | t + 1 => by rw [dist, bit_high (wave_first ms bs hf hs t) (by omega), dist_first ms bs hf hs k t]; simp

end Nt
end Go.Proofs.Ytahjplaidkibpaa
