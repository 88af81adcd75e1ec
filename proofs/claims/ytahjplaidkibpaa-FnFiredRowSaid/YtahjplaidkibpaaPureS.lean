/-
  Plain mathematics of states: kinds, counts, raised and named states, numbers of states.
-/
import Derived.Test.YtahjplaidkibpaaPureO
namespace Go.Proofs.Ytahjplaidkibpaa
namespace Nt

/-- A state of so many kinds. -/
structure St (c : Nat) (ks : List Nat) : Prop where
  c3 : 3 ≤ c
  c5 : c ≤ 5
  some : 1 ≤ ks.length
  few : ks.length ≤ 6
  lt : ∀ k, k < ks.length → ks.getD k 0 < c

/-- A state, whatever numbers are handed over. -/
def stB (kinds : Int) (xs : List Int) : Bool := decide (3 ≤ kinds ∧ kinds ≤ 5) && decide (1 ≤ xs.length ∧ xs.length ≤ 6) && (List.range xs.length).all fun k => decide (0 ≤ xs.getD k 0 ∧ xs.getD k 0 < kinds)

def kindTo (kinds : Int) (xs : List Int) (k : Nat) : Prop := ∀ i, i < k → 0 ≤ xs.getD i 0 ∧ xs.getD i 0 < kinds
theorem kindTo_succ {kinds : Int} {xs : List Int} {k : Nat} (h : kindTo kinds xs k) (h1 : 0 ≤ xs.getD k 0 ∧ xs.getD k 0 < kinds) : kindTo kinds xs (k + 1) := by
  intro i hi
  by_cases e : i = k
  · subst e; exact h1
  · exact h i (by omega)

theorem stB_iff {kinds : Int} {xs : List Int} : stB kinds xs = true ↔ (3 ≤ kinds ∧ kinds ≤ 5) ∧ (1 ≤ xs.length ∧ xs.length ≤ 6) ∧ kindTo kinds xs xs.length := by
  unfold stB kindTo
  rw [Bool.and_eq_true, Bool.and_eq_true, List.all_eq_true, decide_eq_true_eq, decide_eq_true_eq]
  constructor
  · rintro ⟨⟨h1, h2⟩, h3⟩
    exact ⟨h1, h2, fun i hi => by simpa using h3 i (by simpa using hi)⟩
  · rintro ⟨h1, h2, h3⟩
    exact ⟨⟨h1, h2⟩, fun i hi => by simpa using h3 i (by simpa using hi)⟩

theorem stB_no {kinds : Int} {xs : List Int} (h : ¬ ((3 ≤ kinds ∧ kinds ≤ 5) ∧ (1 ≤ xs.length ∧ xs.length ≤ 6) ∧ kindTo kinds xs xs.length)) : stB kinds xs = false := by
  cases e : stB kinds xs
  · rfl
  · exact absurd (stB_iff.1 e) h

theorem stB_st {kinds : Int} {xs : List Int} (h : stB kinds xs = true) : ∃ c ks, kinds = ((c : Nat) : Int) ∧ xs = nats ks ∧ St c ks := by
  obtain ⟨h1, h2, h3⟩ := stB_iff.1 h
  obtain ⟨c, rfl⟩ := Int.eq_ofNat_of_zero_le (show 0 ≤ kinds by omega)
  obtain ⟨ks, rfl⟩ := nats_of_nonneg fun k hk => (h3 k hk).1
  rw [nats_length] at *
  refine ⟨c, ks, rfl, rfl, by omega, by omega, h2.1, h2.2, fun k hk => ?_⟩
  have := (h3 k hk).2
  rw [nats_get] at this
  omega

theorem st_stB {c : Nat} {ks : List Nat} (h : St c ks) : stB (c : Int) (nats ks) = true := by
  have h1 := h.c3
  have h2 := h.c5
  have h3 := h.some
  have h4 := h.few
  refine stB_iff.2 ⟨by omega, by rw [nats_length]; omega, fun i hi => ?_⟩
  rw [nats_length] at hi
  rw [nats_get]
  have := h.lt i hi
  omega

/-- How many of the first k nodes are of a kind. -/
def cntTo (ks : List Nat) (c : Nat) (k : Nat) : Nat := sumTo (fun i => if ks.getD i 0 = c then 1 else 0) k
def countsTo (c : Nat) (ks : List Nat) (k : Nat) : List Nat := (List.range c).map fun j => cntTo ks j k
def counts (c : Nat) (ks : List Nat) : List Nat := countsTo c ks ks.length
theorem countsTo_length (c : Nat) (ks : List Nat) (k : Nat) : (countsTo c ks k).length = c := by simp [countsTo]
theorem countsTo_zero (c : Nat) (ks : List Nat) : countsTo c ks 0 = List.replicate c 0 := by
  apply List.ext_getElem <;> simp [countsTo, cntTo, sumTo]
theorem countsTo_get (c : Nat) (ks : List Nat) (k j : Nat) (h : j < c) : (countsTo c ks k).getD j 0 = cntTo ks j k := by
  simp [countsTo, List.getD_eq_getElem?_getD, h]
theorem countsTo_set (c : Nat) (ks : List Nat) (k : Nat) : (countsTo c ks k).set (ks.getD k 0) (cntTo ks (ks.getD k 0) k + 1) = countsTo c ks (k + 1) := by
  apply List.ext_getElem
  · simp [countsTo]
  · intro i h1 _
    have hi : i < c := by simpa [countsTo] using h1
    simp only [countsTo, List.getElem_set, List.getElem_map, List.getElem_range]
    by_cases e : ks.getD k 0 = i
    · rw [if_pos e, e]
      show _ = cntTo ks i k + (if ks.getD k 0 = i then 1 else 0)
      rw [if_pos e]
    · rw [if_neg e]
      show _ = cntTo ks i k + (if ks.getD k 0 = i then 1 else 0)
      rw [if_neg e]; rfl
theorem cntTo_le (ks : List Nat) (c : Nat) : ∀ k, cntTo ks c k ≤ k
  | 0 => Nat.le_refl _
  | k + 1 => by
    have := cntTo_le ks c k
    show cntTo ks c k + (if ks.getD k 0 = c then 1 else 0) ≤ k + 1
    split <;> omega

def countsOf (kinds : Int) (xs : List Int) : List Int := if stB kinds xs = true then nats (counts kinds.toNat (xs.map Int.toNat)) else []
theorem countsOf_ok {c : Nat} {ks : List Nat} (h : St c ks) : countsOf (c : Int) (nats ks) = nats (counts c ks) := by
  unfold countsOf
  rw [if_pos (st_stB h), nats_toNat, Int.toNat_natCast]
theorem countsOf_no {kinds : Int} {xs : List Int} (h : stB kinds xs = false) : countsOf kinds xs = [] := by
  unfold countsOf
  rw [if_neg (by rw [h]; simp)]
theorem countsOf_small (kinds : Int) (xs : List Int) : (countsOf kinds xs).length ≤ 2000000 := by
  by_cases h : stB kinds xs = true
  · obtain ⟨c, ks, rfl, rfl, hs⟩ := stB_st h
    rw [countsOf_ok hs, nats_length, counts, countsTo_length]
    have := hs.c5
    omega
  · rw [countsOf_no (by simpa using h)]; simp

/-- The state in which the nodes of a set fire. -/
def lit (n s : Nat) : List Nat := (List.range n).map fun k => if s.testBit k then 1 else 0
theorem lit_length (n s : Nat) : (lit n s).length = n := by simp [lit]
theorem lit_get (n s k : Nat) (h : k < n) : (lit n s).getD k 0 = if s.testBit k then 1 else 0 := by
  simp [lit, List.getD_eq_getElem?_getD, h]
def litTo (n s k : Nat) : List Nat := (List.range n).map fun i => if i < k ∧ s.testBit i = true then 1 else 0
theorem litTo_length (n s k : Nat) : (litTo n s k).length = n := by simp [litTo]
theorem litTo_zero (n s : Nat) : litTo n s 0 = List.replicate n 0 := by
  apply List.ext_getElem <;> simp [litTo]
theorem litTo_end (n s : Nat) : litTo n s n = lit n s := by
  apply List.ext_getElem
  · simp [litTo, lit]
  · intro i h1 _
    have : i < n := by simpa [litTo] using h1
    simp [litTo, lit, this]
theorem litTo_hit {n s k : Nat} (h : s.testBit k = true) : (litTo n s k).set k 1 = litTo n s (k + 1) := by
  apply List.ext_getElem
  · simp [litTo]
  · intro i h1 _
    simp only [litTo, List.getElem_set, List.getElem_map, List.getElem_range]
    by_cases e : k = i
    · subst e; simp [h]
    · by_cases e2 : i < k
      · have : i < k + 1 := by omega
        simp [e, e2, this]
      · have : ¬ i < k + 1 := by omega
        simp [e, e2, this]
theorem litTo_miss {n s k : Nat} (h : s.testBit k = false) : litTo n s k = litTo n s (k + 1) := by
  apply List.ext_getElem
  · simp [litTo]
  · intro i _ _
    simp only [litTo, List.getElem_map, List.getElem_range]
    by_cases e : k = i
    · subst e; simp [h]
    · by_cases e2 : i < k
      · have : i < k + 1 := by omega
        simp [e2, this]
      · have : ¬ i < k + 1 := by omega
        simp [e2, this]
def litOf (nodes set : Int) : List Int := if (1 ≤ nodes ∧ nodes ≤ 6) ∧ 0 ≤ set ∧ set < 2 ^ nodes.toNat then nats (lit nodes.toNat set.toNat) else []
theorem litOf_ok {n s : Nat} (h1 : 1 ≤ n) (h6 : n ≤ 6) (hs : s < 2 ^ n) : litOf (n : Int) (s : Int) = nats (lit n s) := by
  unfold litOf
  rw [Int.toNat_natCast, Int.toNat_natCast, if_pos ⟨by omega, by omega, by exact_mod_cast hs⟩]
theorem litOf_no {nodes set : Int} (h : ¬ ((1 ≤ nodes ∧ nodes ≤ 6) ∧ 0 ≤ set ∧ set < 2 ^ nodes.toNat)) : litOf nodes set = [] := by
  unfold litOf
  rw [if_neg h]
theorem litOf_small (nodes set : Int) : (litOf nodes set).length ≤ 2000000 := by
  unfold litOf
  split
  · rw [nats_length, lit_length]; omega
  · simp

/-- Each kind one more. -/
def raised (c : Nat) (ks : List Nat) : List Nat := ks.map fun k => (k + 1) % c
theorem raised_length (c : Nat) (ks : List Nat) : (raised c ks).length = ks.length := by simp [raised]
theorem raised_get (c : Nat) (ks : List Nat) (k : Nat) (h : k < ks.length) : (raised c ks).getD k 0 = (ks.getD k 0 + 1) % c := by
  simp [raised, List.getD_eq_getElem?_getD, h]
theorem raised_st {c : Nat} {ks : List Nat} (h : St c ks) : St c (raised c ks) := by
  refine ⟨h.c3, h.c5, by rw [raised_length]; exact h.some, by rw [raised_length]; exact h.few, fun k hk => ?_⟩
  rw [raised_length] at hk
  rw [raised_get _ _ _ hk]
  exact Nat.mod_lt _ (by have := h.c3; omega)
def raisedOf (kinds : Int) (xs : List Int) : List Int := if stB kinds xs = true then nats (raised kinds.toNat (xs.map Int.toNat)) else []
theorem raisedOf_ok {c : Nat} {ks : List Nat} (h : St c ks) : raisedOf (c : Int) (nats ks) = nats (raised c ks) := by
  unfold raisedOf
  rw [if_pos (st_stB h), nats_toNat, Int.toNat_natCast]
theorem raisedOf_no {kinds : Int} {xs : List Int} (h : stB kinds xs = false) : raisedOf kinds xs = [] := by
  unfold raisedOf
  rw [if_neg (by rw [h]; simp)]
theorem raisedOf_small (kinds : Int) (xs : List Int) : (raisedOf kinds xs).length ≤ 2000000 := by
  by_cases h : stB kinds xs = true
  · obtain ⟨c, ks, rfl, rfl, hs⟩ := stB_st h
    rw [raisedOf_ok hs, nats_length, raised_length]
    have := hs.few
    omega
  · rw [raisedOf_no (by simpa using h)]; simp

/-- Raised up to a place; behind it zeros. -/
def raisedTo (c : Nat) (ks : List Nat) (k : Nat) : List Nat := (raised c ks).take k ++ List.replicate (ks.length - k) 0
theorem raisedTo_zero (c : Nat) (ks : List Nat) : raisedTo c ks 0 = List.replicate ks.length 0 := by simp [raisedTo]
theorem raisedTo_end (c : Nat) (ks : List Nat) : raisedTo c ks ks.length = raised c ks := by
  unfold raisedTo
  rw [Nat.sub_self, List.take_of_length_le (by rw [raised_length]; exact Nat.le_refl _)]
  simp
theorem raisedTo_length (c : Nat) (ks : List Nat) (k : Nat) (h : k ≤ ks.length) : (raisedTo c ks k).length = ks.length := by
  simp [raisedTo, raised_length]; omega
theorem raisedTo_set (c : Nat) (ks : List Nat) (k : Nat) (h : k < ks.length) : (raisedTo c ks k).set k ((ks.getD k 0 + 1) % c) = raisedTo c ks (k + 1) := by
  have hk : k < (raised c ks).length := by rw [raised_length]; exact h
  have hl : ((raised c ks).take k).length = k := by simp; omega
  have e : ks.length - k = (ks.length - (k + 1)) + 1 := by omega
  unfold raisedTo
  rw [List.set_append_right _ _ (by omega), hl, Nat.sub_self, e, List.replicate_succ, List.set_cons_zero, List.take_succ_eq_append_getElem hk, List.append_assoc]
  have := raised_get c ks k h
  rw [List.getD_eq_getElem?_getD, List.getElem?_eq_getElem hk] at this
  simp only [Option.getD_some] at this
  rw [this]
  rfl

/-- A state with other names. -/
def namedSt (ks os : List Nat) : List Nat := put ks.length os fun k => ks.getD k 0
def canNameSt (kinds : Int) (xs ys : List Int) : Bool := stB kinds xs && ordB xs.length ys
def namedStOf (kinds : Int) (xs ys : List Int) : List Int := if canNameSt kinds xs ys = true then nats (namedSt (xs.map Int.toNat) (ys.map Int.toNat)) else []
theorem canNameSt_yes {c : Nat} {ks os : List Nat} (h : St c ks) (k : Ord ks.length os) : canNameSt (c : Int) (nats ks) (nats os) = true := by
  unfold canNameSt
  rw [st_stB h, nats_length, ord_ordB k]; rfl
theorem canNameSt_no1 {kinds : Int} {xs ys : List Int} (h : stB kinds xs = false) : canNameSt kinds xs ys = false := by unfold canNameSt; rw [h]; rfl
theorem canNameSt_no2 {kinds : Int} {xs ys : List Int} (h : ordB xs.length ys = false) : canNameSt kinds xs ys = false := by unfold canNameSt; rw [h]; simp
theorem namedStOf_ok {c : Nat} {ks os : List Nat} (h : St c ks) (k : Ord ks.length os) : namedStOf (c : Int) (nats ks) (nats os) = nats (namedSt ks os) := by
  unfold namedStOf
  rw [if_pos (canNameSt_yes h k), nats_toNat, nats_toNat]
theorem namedStOf_no {kinds : Int} {xs ys : List Int} (h : canNameSt kinds xs ys = false) : namedStOf kinds xs ys = [] := by
  unfold namedStOf
  rw [if_neg (by rw [h]; simp)]
theorem namedStOf_small (kinds : Int) (xs ys : List Int) : (namedStOf kinds xs ys).length ≤ 2000000 := by
  by_cases h : canNameSt kinds xs ys = true
  · have h' := h
    unfold canNameSt at h'
    rw [Bool.and_eq_true] at h'
    obtain ⟨c, ks, rfl, rfl, hs⟩ := stB_st h'.1
    obtain ⟨os, rfl, ho⟩ := ordB_ord h'.2
    rw [nats_length] at ho
    rw [namedStOf_ok hs ho, nats_length, namedSt, put_length]
    have := hs.few
    omega
  · rw [namedStOf_no (by simpa using h)]; simp

theorem namedSt_length (ks os : List Nat) : (namedSt ks os).length = ks.length := put_length _ _ _
theorem namedSt_get {ks os : List Nat} (h : Ord ks.length os) {k : Nat} (hk : k < ks.length) : (namedSt ks os).getD (os.getD k 0) 0 = ks.getD k 0 := put_get h _ hk
theorem namedSt_st {c : Nat} {ks os : List Nat} (h : St c ks) (_k : Ord ks.length os) : St c (namedSt ks os) :=
  ⟨h.c3, h.c5, by rw [namedSt_length]; exact h.some, by rw [namedSt_length]; exact h.few, fun k _ => putTo_all (by have := h.c3; omega) h.lt _ (Nat.le_refl _) k⟩

/-- Names change no counts. -/
theorem counts_named {c : Nat} {ks os : List Nat} (h : Ord ks.length os) : counts c (namedSt ks os) = counts c ks := by
  unfold counts countsTo
  apply List.map_congr_left
  intro j _
  unfold cntTo
  rw [namedSt_length, ← ord_sum h]
  exact sumTo_congr _ fun k hk => by rw [namedSt_get h hk]

/-- Raised and named is named and raised. -/
theorem raised_named {c : Nat} {ks os : List Nat} (h : Ord ks.length os) : namedSt (raised c ks) os = raised c (namedSt ks os) := by
  have h' : Ord (raised c ks).length os := by rw [raised_length]; exact h
  refine ext_ord h (by rw [namedSt_length, raised_length]) (by rw [raised_length, namedSt_length]) fun k hk => ?_
  rw [namedSt_get h' (by rw [raised_length]; exact hk), raised_get _ _ _ hk, raised_get _ _ _ (by rw [namedSt_length]; exact h.lt k hk), namedSt_get h hk]

/-- Each count of the raised state is that of one kind less. -/
theorem counts_raised {c : Nat} {ks : List Nat} (h : St c ks) {j : Nat} (hj : j < c) : (counts c (raised c ks)).getD ((j + 1) % c) 0 = (counts c ks).getD j 0 := by
  have hc : 0 < c := by omega
  unfold counts
  rw [countsTo_get _ _ _ _ (Nat.mod_lt _ hc), countsTo_get _ _ _ _ hj, raised_length]
  refine sumTo_congr _ fun i hi => ?_
  rw [raised_get _ _ _ hi]
  have hlt := h.lt i hi
  generalize ks.getD i 0 = x at *
  have e : (x + 1) % c = (j + 1) % c ↔ x = j := by
    constructor
    · intro e
      by_cases h1 : x + 1 < c
      · rw [Nat.mod_eq_of_lt h1] at e
        by_cases h2 : j + 1 < c
        · rw [Nat.mod_eq_of_lt h2] at e; omega
        · have : j + 1 = c := by omega
          rw [this, Nat.mod_self] at e; omega
      · have h3 : x + 1 = c := by omega
        rw [h3, Nat.mod_self] at e
        by_cases h2 : j + 1 < c
        · rw [Nat.mod_eq_of_lt h2] at e; omega
        · omega
    · rintro rfl; rfl
  by_cases h1 : x = j
  · rw [if_pos h1, if_pos (e.2 h1)]
  · rw [if_neg h1, if_neg (fun h2 => h1 (e.1 h2))]

/-- All nodes are counted. -/
theorem counts_sum {c : Nat} {ks : List Nat} (h : St c ks) : sumTo (fun j => (counts c ks).getD j 0) c = ks.length := by
  have e1 : sumTo (fun j => (counts c ks).getD j 0) c = sumTo (fun j => sumTo (fun i => if ks.getD i 0 = j then 1 else 0) ks.length) c :=
    sumTo_congr c fun j hj => by rw [counts, countsTo_get _ _ _ _ hj]; rfl
  rw [e1, sum_swap]
  have e2 : sumTo (fun i => sumTo (fun j => if ks.getD i 0 = j then 1 else 0) c) ks.length = sumTo (fun _ => 1) ks.length :=
    sumTo_congr _ fun i hi => by
      have e3 : sumTo (fun j => if ks.getD i 0 = j then 1 else 0) c = sumTo (fun j => if j = ks.getD i 0 then (fun _ => 1) j else 0) c :=
        sumTo_congr c fun j _ => by
          by_cases e : ks.getD i 0 = j
          · rw [if_pos e, if_pos e.symm]
          · rw [if_neg e, if_neg (fun e2 => e e2.symm)]
      rw [e3, sum_pick, if_pos (h.lt i hi)]
  rw [e2]
  have : ∀ n, sumTo (fun _ => 1) n = n := by
    intro n
    induction n with
    | zero => rfl
    | succ n ih => rw [sumTo, ih]
  exact this _

/-- A state's number: from its last node on. -/
def num (c : Nat) : List Nat → Nat
  | [] => 0
  | x :: xs => num c xs * c + x
theorem num_lt {c : Nat} : ∀ {ks : List Nat}, (∀ x ∈ ks, x < c) → num c ks < c ^ ks.length
  | [], _ => by simp [num]
  | x :: xs, h => by
    have ih := num_lt (c := c) (ks := xs) fun y hy => h y (List.mem_cons_of_mem _ hy)
    have hx := h x (by simp)
    rw [num, List.length_cons, Nat.pow_succ]
    have : (num c xs + 1) * c ≤ c ^ xs.length * c := Nat.mul_le_mul_right _ ih
    rw [Nat.add_mul, Nat.one_mul] at this
    omega
theorem St.mem {c : Nat} {ks : List Nat} (h : St c ks) : ∀ x ∈ ks, x < c := by
  intro x hx
  obtain ⟨k, hk, rfl⟩ := List.getElem_of_mem hx
  have := h.lt k hk
  simpa [List.getD_eq_getElem?_getD, hk] using this
theorem num_drop {c : Nat} {ks : List Nat} {k : Nat} (h : k < ks.length) : num c (ks.drop k) = num c (ks.drop (k + 1)) * c + ks.getD k 0 := by
  rw [List.drop_eq_getElem_cons h, num]
  simp [List.getD_eq_getElem?_getD, h]
theorem pow5_le {c n : Nat} (hc : c ≤ 5) (hn : n ≤ 6) : c ^ n ≤ 15625 :=
  Nat.le_trans (Nat.pow_le_pow_left hc n) (Nat.le_trans (Nat.pow_le_pow_right (by omega) hn) (by decide))
theorem num_small {c : Nat} {ks : List Nat} (h : St c ks) (k : Nat) : num c (ks.drop k) < 15625 := by
  have h1 := num_lt (c := c) (ks := ks.drop k) fun x hx => h.mem x (List.mem_of_mem_drop hx)
  have h2 := pow5_le (c := c) (n := (ks.drop k).length) h.c5 (by rw [List.length_drop]; have := h.few; omega)
  omega
def numberOf (kinds : Int) (xs : List Int) : Int := if stB kinds xs = true then ((num kinds.toNat (xs.map Int.toNat) : Nat) : Int) else -1
theorem numberOf_ok {c : Nat} {ks : List Nat} (h : St c ks) : numberOf (c : Int) (nats ks) = ((num c ks : Nat) : Int) := by
  unfold numberOf
  rw [if_pos (st_stB h), nats_toNat, Int.toNat_natCast]
theorem numberOf_no {kinds : Int} {xs : List Int} (h : stB kinds xs = false) : numberOf kinds xs = -1 := by
  unfold numberOf
  rw [if_neg (by rw [h]; simp)]

/-- The state of a number. -/
def digits (c m n : Nat) : List Nat := (List.range n).map fun k => m / c ^ k % c
theorem digits_length (c m n : Nat) : (digits c m n).length = n := by simp [digits]
theorem digits_get (c m n k : Nat) (h : k < n) : (digits c m n).getD k 0 = m / c ^ k % c := by
  simp [digits, List.getD_eq_getElem?_getD, h]
theorem digits_succ (c m n : Nat) : digits c m (n + 1) = digits c m n ++ [m / c ^ n % c] := by
  simp [digits, List.range_succ]
theorem digits_st {c n : Nat} (h3 : 3 ≤ c) (h5 : c ≤ 5) (h1 : 1 ≤ n) (h6 : n ≤ 6) (m : Nat) : St c (digits c m n) :=
  ⟨h3, h5, by rw [digits_length]; exact h1, by rw [digits_length]; exact h6, fun k hk => by
    rw [digits_length] at hk
    rw [digits_get _ _ _ _ hk]
    exact Nat.mod_lt _ (by omega)⟩
/-- Digits laid down up to a place, zeros behind. -/
def digitsTo (c m n k : Nat) : List Nat := digits c m k ++ List.replicate (n - k) 0
theorem digitsTo_zero (c m n : Nat) : digitsTo c m n 0 = List.replicate n 0 := by simp [digitsTo, digits]
theorem digitsTo_end (c m n : Nat) : digitsTo c m n n = digits c m n := by simp [digitsTo]
theorem digitsTo_length (c m n k : Nat) (h : k ≤ n) : (digitsTo c m n k).length = n := by simp [digitsTo, digits_length]; omega
theorem digitsTo_set (c m n k : Nat) (h : k < n) : (digitsTo c m n k).set k (m / c ^ k % c) = digitsTo c m n (k + 1) := by
  have hl : (digits c m k).length = k := digits_length _ _ _
  have e : n - k = (n - (k + 1)) + 1 := by omega
  unfold digitsTo
  rw [List.set_append_right _ _ (by omega), hl, Nat.sub_self, e, List.replicate_succ, List.set_cons_zero, digits_succ, List.append_assoc]
  rfl

theorem digits_cons (c m n : Nat) : digits c m (n + 1) = m % c :: digits c (m / c) n := by
  apply List.ext_getElem
  · simp [digits]
  · intro i h1 h2
    cases i with
    | zero => simp [digits]
    | succ i =>
      simp only [digits, List.getElem_cons_succ, List.getElem_map, List.getElem_range]
      rw [Nat.pow_succ', Nat.div_div_eq_div_mul]

theorem num_digits {c : Nat} (hc : 0 < c) : ∀ (n m : Nat), m < c ^ n → num c (digits c m n) = m
  | 0, m, h => by simp at h; simp [digits, num, h]
  | n + 1, m, h => by
    rw [digits_cons, num, num_digits hc n (m / c) (by rw [Nat.pow_succ] at h; exact Nat.div_lt_of_lt_mul (by rw [Nat.mul_comm]; exact h))]
    have := Nat.div_add_mod m c
    rw [Nat.mul_comm] at this
    exact this

theorem digits_num {c : Nat} : ∀ (ks : List Nat), (∀ x ∈ ks, x < c) → digits c (num c ks) ks.length = ks
  | [], _ => by simp [digits]
  | x :: xs, h => by
    have hx := h x (by simp)
    have ih := digits_num xs fun y hy => h y (List.mem_cons_of_mem _ hy)
    have e1 : (num c xs * c + x) % c = x := by rw [Nat.add_comm, Nat.add_mul_mod_self_right, Nat.mod_eq_of_lt hx]
    have e2 : (num c xs * c + x) / c = num c xs := by
      rw [Nat.add_comm, Nat.add_mul_div_right _ _ (by omega), Nat.div_eq_of_lt hx, Nat.zero_add]
    rw [List.length_cons, digits_cons, num, e1, e2, ih]

def stateOf (nodes kinds number : Int) : List Int :=
  if (1 ≤ nodes ∧ nodes ≤ 6) ∧ (3 ≤ kinds ∧ kinds ≤ 5) ∧ 0 ≤ number ∧ number < kinds ^ nodes.toNat then nats (digits kinds.toNat number.toNat nodes.toNat) else []
theorem stateOf_ok {n c m : Nat} (h1 : 1 ≤ n ∧ n ≤ 6) (h3 : 3 ≤ c ∧ c ≤ 5) (hm : m < c ^ n) : stateOf (n : Int) (c : Int) (m : Int) = nats (digits c m n) := by
  unfold stateOf
  rw [Int.toNat_natCast, Int.toNat_natCast, Int.toNat_natCast, if_pos ⟨by omega, by omega, by omega, by exact_mod_cast hm⟩]
theorem stateOf_no {nodes kinds number : Int} (h : ¬ ((1 ≤ nodes ∧ nodes ≤ 6) ∧ (3 ≤ kinds ∧ kinds ≤ 5) ∧ 0 ≤ number ∧ number < kinds ^ nodes.toNat)) : stateOf nodes kinds number = [] := by
  unfold stateOf
  rw [if_neg h]
theorem stateOf_small (nodes kinds number : Int) : (stateOf nodes kinds number).length ≤ 2000000 := by
  unfold stateOf
  split
  · rw [nats_length, digits_length]; omega
  · simp

/-- Raised as often as there are kinds. -/
def raisedN (c : Nat) (ks : List Nat) : Nat → List Nat
  | 0 => ks
  | k + 1 => raised c (raisedN c ks k)
theorem raisedN_st {c : Nat} {ks : List Nat} (h : St c ks) : ∀ k, St c (raisedN c ks k)
  | 0 => h
  | k + 1 => raised_st (raisedN_st h k)
theorem raisedN_length (c : Nat) (ks : List Nat) : ∀ k, (raisedN c ks k).length = ks.length
  | 0 => rfl
  | k + 1 => by rw [raisedN, raised_length, raisedN_length c ks k]
theorem raisedN_get {c : Nat} {ks : List Nat} (h : St c ks) {i : Nat} (hi : i < ks.length) : ∀ k, (raisedN c ks k).getD i 0 = (ks.getD i 0 + k) % c
  | 0 => by rw [raisedN, Nat.add_zero, Nat.mod_eq_of_lt (h.lt i hi)]
  | k + 1 => by
    rw [raisedN, raised_get _ _ _ (by rw [raisedN_length]; exact hi), raisedN_get h hi k]
    rw [Nat.mod_add_mod, Nat.add_assoc]
theorem raisedN_round {c : Nat} {ks : List Nat} (h : St c ks) : raisedN c ks c = ks := by
  apply List.ext_getElem (raisedN_length _ _ _)
  intro i h1 h2
  have := raisedN_get h h2 c
  rw [Nat.add_mod_right, Nat.mod_eq_of_lt (h.lt i h2)] at this
  simpa [List.getD_eq_getElem?_getD, List.getElem?_eq_getElem h1, List.getElem?_eq_getElem h2] using this

theorem lit_st {n s : Nat} (h1 : 1 ≤ n) (h6 : n ≤ 6) : St 3 (lit n s) :=
  ⟨Nat.le_refl _, by omega, by rw [lit_length]; exact h1, by rw [lit_length]; exact h6, fun k hk => by
    rw [lit_length] at hk
    rw [lit_get _ _ _ hk]
    split <;> omega⟩
theorem lit_fire (n s : Nat) : (counts 3 (lit n s)).getD 1 0 = popTo s n := by
  rw [counts, countsTo_get _ _ _ _ (by omega), lit_length, popTo_sum]
  refine sumTo_congr _ fun i hi => ?_
  rw [lit_get _ _ _ hi]
  by_cases h : s.testBit i = true
  · rw [if_pos h]; simp
  · rw [if_neg h]; simp
theorem lit_tired (n s : Nat) : (counts 3 (lit n s)).getD 2 0 = 0 := by
  rw [counts, countsTo_get _ _ _ _ (by omega), lit_length]
  have : sumTo (fun i => if (lit n s).getD i 0 = 2 then 1 else 0) n = sumTo (fun _ => 0) n := sumTo_congr _ fun i hi => by
    rw [lit_get _ _ _ hi]
    by_cases h : s.testBit i = true
    · rw [if_pos h]; simp
    · rw [if_neg h]; simp
  exact this.trans (sum_zero n)

end Nt
end Go.Proofs.Ytahjplaidkibpaa
