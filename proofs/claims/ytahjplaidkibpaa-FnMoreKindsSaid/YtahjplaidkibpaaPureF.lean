/-
  Plain mathematics of firing: steps, runs, how often nodes fire; names, parts, more kinds.
-/
import Derived.Test.YtahjplaidkibpaaPureC
import Derived.Test.YtahjplaidkibpaaPureD
import Derived.Test.YtahjplaidkibpaaPureS
namespace Go.Proofs.Ytahjplaidkibpaa
namespace Nt

/-- The nodes that fire, as a set. -/
def firesTo (ks : List Nat) : Nat → Nat
  | 0 => 0
  | k + 1 => if ks.getD k 0 = 1 then firesTo ks k ||| 2 ^ k else firesTo ks k
def fires (ks : List Nat) : Nat := firesTo ks ks.length

theorem testBit_firesTo (ks : List Nat) (j : Nat) : ∀ n, (firesTo ks n).testBit j = true ↔ j < n ∧ ks.getD j 0 = 1
  | 0 => by simp [firesTo]
  | n + 1 => by
    have ih := testBit_firesTo ks j n
    unfold firesTo
    by_cases h : ks.getD n 0 = 1
    · rw [if_pos h, Nat.testBit_or, Bool.or_eq_true, ih, pow_bit]
      constructor
      · rintro (⟨h1, h2⟩ | rfl)
        · exact ⟨by omega, h2⟩
        · exact ⟨by omega, h⟩
      · rintro ⟨h1, h2⟩
        by_cases e : n = j
        · exact .inr e
        · exact .inl ⟨by omega, h2⟩
    · rw [if_neg h, ih]
      constructor
      · rintro ⟨h1, h2⟩; exact ⟨by omega, h2⟩
      · rintro ⟨h1, h2⟩
        have : j ≠ n := fun e => h (e ▸ h2)
        exact ⟨by omega, h2⟩
theorem firesTo_lt (ks : List Nat) : ∀ n, firesTo ks n < 2 ^ n
  | 0 => by simp [firesTo]
  | n + 1 => by
    have ih := firesTo_lt ks n
    have h1 : 2 ^ n < 2 ^ (n + 1) := two_pow_lt (by omega)
    unfold firesTo
    split
    · exact Nat.or_lt_two_pow (by omega) h1
    · omega

/-- Whether a neighbour of a node fires. -/
def litB (net ks : List Nat) (k : Nat) : Bool := decide ((net.getD k 0 &&& fires ks) ≠ 0)
theorem litB_iff {net ks : List Nat} {k : Nat} : litB net ks k = true ↔ ∃ j, j < ks.length ∧ (net.getD k 0).testBit j = true ∧ ks.getD j 0 = 1 := by
  unfold litB
  rw [decide_eq_true_eq]
  constructor
  · intro h
    obtain ⟨j, hj⟩ := Nat.exists_testBit_of_ne_zero h
    rw [Nat.testBit_and, Bool.and_eq_true] at hj
    obtain ⟨h1, h2⟩ := (testBit_firesTo ks j ks.length).1 hj.2
    exact ⟨j, h1, hj.1, h2⟩
  · rintro ⟨j, h1, h2, h3⟩ e
    have h4 : (net.getD k 0 &&& fires ks).testBit j = true := by
      rw [Nat.testBit_and, h2, Bool.true_and]
      exact (testBit_firesTo ks j ks.length).2 ⟨h1, h3⟩
    rw [e] at h4
    simp at h4

/-- A kind after a step. -/
def fireK (c x : Nat) (b : Bool) : Nat := if 0 < x then (x + 1) % c else if b then 1 else 0
theorem fireK_lt {c x : Nat} (h : 3 ≤ c) (b : Bool) : fireK c x b < c := by
  unfold fireK
  split
  · exact Nat.mod_lt _ (by omega)
  · split <;> omega
theorem succ_mod_cases {c x : Nat} (h : x < c) : (x + 1) % c = if x + 1 = c then 0 else x + 1 := by
  by_cases e : x + 1 = c
  · rw [if_pos e, e, Nat.mod_self]
  · rw [if_neg e, Nat.mod_eq_of_lt (by omega)]
theorem fireK_one {c x : Nat} (h : x < c) (b : Bool) : fireK c x b = 1 ↔ x = 0 ∧ b = true := by
  unfold fireK
  by_cases e : 0 < x
  · rw [if_pos e, succ_mod_cases h]
    constructor
    · intro h1; split at h1 <;> omega
    · rintro ⟨h1, _⟩; omega
  · rw [if_neg e]
    have e0 : x = 0 := by omega
    cases b <;> simp [e0]

/-- The state after a step. -/
def step (net : List Nat) (c : Nat) (ks : List Nat) : List Nat := (List.range ks.length).map fun k => fireK c (ks.getD k 0) (litB net ks k)
theorem step_length (net : List Nat) (c : Nat) (ks : List Nat) : (step net c ks).length = ks.length := by simp [step]
theorem step_get (net : List Nat) (c : Nat) (ks : List Nat) {k : Nat} (h : k < ks.length) : (step net c ks).getD k 0 = fireK c (ks.getD k 0) (litB net ks k) := by
  simp [step, List.getD_eq_getElem?_getD, h]
theorem step_st (net : List Nat) {c : Nat} {ks : List Nat} (h : St c ks) : St c (step net c ks) :=
  ⟨h.c3, h.c5, by rw [step_length]; exact h.some, by rw [step_length]; exact h.few, fun k hk => by
    rw [step_length] at hk
    rw [step_get _ _ _ hk]
    exact fireK_lt h.c3 _⟩

def run (net : List Nat) (c : Nat) (ks : List Nat) : Nat → List Nat
  | 0 => ks
  | t + 1 => step net c (run net c ks t)
theorem run_length (net : List Nat) (c : Nat) (ks : List Nat) : ∀ t, (run net c ks t).length = ks.length
  | 0 => rfl
  | t + 1 => by rw [run, step_length, run_length net c ks t]
theorem run_st (net : List Nat) {c : Nat} {ks : List Nat} (h : St c ks) : ∀ t, St c (run net c ks t)
  | 0 => h
  | t + 1 => step_st net (run_st net h t)
theorem run_add (net : List Nat) (c : Nat) (ks : List Nat) (a : Nat) : ∀ b, run net c ks (a + b) = run net c (run net c ks a) b
  | 0 => rfl
  | b + 1 => by
    show step net c (run net c ks (a + b)) = _
    rw [run_add net c ks a b]
    rfl
theorem run_one (net : List Nat) (c : Nat) (ks : List Nat) (t : Nat) : run net c (step net c ks) t = run net c ks (t + 1) := by
  rw [Nat.add_comm]; exact (run_add net c ks 1 t).symm

/-- All at rest. -/
def rest (n : Nat) : List Nat := List.replicate n 0
theorem rest_length (n : Nat) : (rest n).length = n := by simp [rest]
theorem rest_get (n k : Nat) : (rest n).getD k 0 = 0 := by
  unfold rest
  rw [List.getD_eq_getElem?_getD, List.getElem?_replicate]; split <;> rfl
theorem eq_rest {ks : List Nat} (h : ∀ k, k < ks.length → ks.getD k 0 = 0) : ks = rest ks.length := by
  apply List.ext_getElem (by simp [rest])
  intro i h1 h2
  have := h i h1
  simpa [rest, List.getD_eq_getElem?_getD, List.getElem?_eq_getElem h1] using this
theorem litB_rest (net : List Nat) (n k : Nat) : litB net (rest n) k = false := by
  cases e : litB net (rest n) k
  · rfl
  · obtain ⟨j, _, _, h⟩ := litB_iff.1 e
    rw [rest_get] at h
    omega
theorem step_rest (net : List Nat) (c n : Nat) : step net c (rest n) = rest n := by
  have h := eq_rest (ks := step net c (rest n)) (fun k hk => by
    rw [step_length] at hk
    rw [step_get _ _ _ hk, rest_get, litB_rest]
    rfl)
  rwa [step_length, rest_length] at h
theorem run_rest (net : List Nat) (c n : Nat) : ∀ t, run net c (rest n) t = rest n
  | 0 => rfl
  | t + 1 => by rw [run, run_rest net c n t, step_rest]
theorem rest_st {c n : Nat} (h3 : 3 ≤ c) (h5 : c ≤ 5) (h1 : 1 ≤ n) (h6 : n ≤ 6) : St c (rest n) :=
  ⟨h3, h5, by rw [rest_length]; exact h1, by rw [rest_length]; exact h6, fun k _ => by rw [rest_get]; omega⟩

/-- A state that stays is all at rest. -/
theorem still_rest {net : List Nat} {c : Nat} {ks : List Nat} (h : St c ks) (e : step net c ks = ks) : ks = rest ks.length := by
  refine eq_rest fun k hk => ?_
  have h1 := step_get net c ks hk
  rw [e] at h1
  have h2 := h.lt k hk
  have h3 := h.c3
  generalize ks.getD k 0 = x at *
  unfold fireK at h1
  by_cases h0 : 0 < x
  · rw [if_pos h0, succ_mod_cases h2] at h1
    split at h1 <;> omega
  · omega

/-- Renamed nets fire as before. -/
theorem step_named {ns os ks : List Nat} {c : Nat} (h : Ord ns.length os) (hl : ks.length = ns.length) : step (named ns os) c (namedSt ks os) = namedSt (step ns c ks) os := by
  have h1 : Ord ks.length os := by rw [hl]; exact h
  have h2 : Ord (step ns c ks).length os := by rw [step_length]; exact h1
  refine ext_ord h1 (by rw [step_length, namedSt_length]) (by rw [namedSt_length, step_length]) fun k hk => ?_
  rw [namedSt_get h2 (by rw [step_length]; exact hk), step_get _ _ _ hk, step_get _ _ _ (by rw [namedSt_length]; exact h1.lt k hk), namedSt_get h1 hk]
  congr 1
  apply bool_eq
  rw [litB_iff, litB_iff, namedSt_length]
  constructor
  · rintro ⟨j, hj, hb, hf⟩
    obtain ⟨l, hl2, rfl⟩ := h1.surj hj
    rw [named_get h (by rw [← hl]; exact hk), nset_bit h _ (by rw [← hl]; exact hl2)] at hb
    rw [namedSt_get h1 hl2] at hf
    exact ⟨l, hl2, hb, hf⟩
  · rintro ⟨l, hl2, hb, hf⟩
    refine ⟨os.getD l 0, h1.lt l hl2, ?_, ?_⟩
    · rw [named_get h (by rw [← hl]; exact hk), nset_bit h _ (by rw [← hl]; exact hl2)]; exact hb
    · rw [namedSt_get h1 hl2]; exact hf

/-- How often a node fires in so many steps. -/
def fired (net : List Nat) (c : Nat) (ks : List Nat) (k : Nat) : Nat → Nat
  | 0 => 0
  | t + 1 => fired net c ks k t + if (run net c ks (t + 1)).getD k 0 = 1 then 1 else 0
theorem fired_le (net : List Nat) (c : Nat) (ks : List Nat) (k : Nat) : ∀ t, fired net c ks k t ≤ t
  | 0 => Nat.le_refl _
  | t + 1 => by
    have := fired_le net c ks k t
    rw [fired]
    split <;> omega
theorem fired_add (net : List Nat) (c : Nat) (ks : List Nat) (k a : Nat) : ∀ b, fired net c ks k (a + b) = fired net c ks k a + fired net c (run net c ks a) k b
  | 0 => rfl
  | b + 1 => by
    have ih := fired_add net c ks k a b
    show fired net c ks k (a + b) + (if (run net c ks (a + b + 1)).getD k 0 = 1 then 1 else 0) = _
    rw [ih, show a + b + 1 = a + (b + 1) from rfl, run_add, fired]
    omega
theorem fired_most {net : List Nat} {c : Nat} {ks : List Nat} (h : St c ks) {k : Nat} (hk : k < ks.length) : ∀ t,
    (0 < (run net c ks t).getD k 0 → fired net c ks k t * c + (run net c ks t).getD k 0 ≤ t + c) ∧ ((run net c ks t).getD k 0 = 0 → fired net c ks k t * c ≤ t)
  | 0 => by
    have := h.lt k hk
    refine ⟨fun _ => ?_, fun _ => ?_⟩
    · show 0 * c + ks.getD k 0 ≤ 0 + c; omega
    · show 0 * c ≤ 0; omega
  | t + 1 => by
    have ih := fired_most (net := net) h hk t
    have hlt := (run_st net h t).lt k (by rw [run_length]; exact hk)
    have hs := step_get net c (run net c ks t) (k := k) (by rw [run_length]; exact hk)
    have h3 := h.c3
    rw [fired]
    show (0 < (step net c (run net c ks t)).getD k 0 → _) ∧ ((step net c (run net c ks t)).getD k 0 = 0 → _)
    rw [show run net c ks (t + 1) = step net c (run net c ks t) from rfl, hs]
    generalize litB net (run net c ks t) k = b at *
    generalize (run net c ks t).getD k 0 = x at *
    generalize fired net c ks k t = f at *
    unfold fireK
    by_cases e : 0 < x
    · rw [if_pos e, succ_mod_cases hlt]
      have i1 := ih.1 e
      by_cases e2 : x + 1 = c
      · rw [if_pos e2]
        refine ⟨fun h0 => absurd h0 (by omega), fun _ => ?_⟩
        rw [if_neg (by omega), Nat.add_zero]; omega
      · rw [if_neg e2]
        refine ⟨fun _ => ?_, fun h0 => absurd h0 (by omega)⟩
        rw [if_neg (by omega), Nat.add_zero]; omega
    · have i2 := ih.2 (by omega)
      rw [if_neg e]
      cases b
      · simp only [Bool.false_eq_true, if_false]
        refine ⟨fun h0 => absurd h0 (by omega), fun _ => ?_⟩
        rw [if_neg (by omega), Nat.add_zero]; omega
      · simp only [if_true]
        refine ⟨fun _ => ?_, fun h0 => absurd h0 (by omega)⟩
        rw [Nat.add_mul, Nat.one_mul]; omega
/-- No node fires more often than it recovers. -/
theorem fired_bound {net : List Nat} {c : Nat} {ks : List Nat} (h : St c ks) {k : Nat} (hk : k < ks.length) (t : Nat) : fired net c ks k t ≤ (t + 1) / c + 1 := by
  have h3 := h.c3
  obtain ⟨h1, h2⟩ := fired_most (net := net) h hk t
  have h4 : fired net c ks k t * c ≤ t + c := by
    by_cases e : 0 < (run net c ks t).getD k 0
    · have := h1 e; omega
    · have := h2 (by omega); omega
  generalize fired net c ks k t = f at *
  cases f with
  | zero => exact Nat.zero_le _
  | succ f =>
    rw [Nat.add_mul, Nat.one_mul] at h4
    have : f ≤ (t + 1) / c := (Nat.le_div_iff_mul_le (by omega)).2 (by omega)
    omega
/-- A node without neighbours never fires. -/
theorem fired_alone {net : List Nat} {c : Nat} {ks : List Nat} (h : St c ks) {k : Nat} (hk : k < ks.length) (h0 : net.getD k 0 = 0) : ∀ t, fired net c ks k t = 0
  | 0 => rfl
  | t + 1 => by
    have hlt := (run_st net h t).lt k (by rw [run_length]; exact hk)
    rw [fired, fired_alone h hk h0 t, run, step_get _ _ _ (by rw [run_length]; exact hk), if_neg]
    intro e
    have e1 := ((fireK_one hlt _).1 e).2
    obtain ⟨j, _, hb, _⟩ := litB_iff.1 e1
    rw [h0] at hb
    simp at hb

/-- The part of the first node alone, all others at rest. -/
def alone (net ks : List Nat) : List Nat := (List.range ks.length).map fun k => if (parts net).getD k 0 = 0 then ks.getD k 0 else 0
theorem alone_length (net ks : List Nat) : (alone net ks).length = ks.length := by simp [alone]
theorem alone_get (net ks : List Nat) {k : Nat} (h : k < ks.length) : (alone net ks).getD k 0 = if (parts net).getD k 0 = 0 then ks.getD k 0 else 0 := by
  simp [alone, List.getD_eq_getElem?_getD, h]
theorem alone_st {net : List Nat} {c : Nat} {ks : List Nat} (h : St c ks) : St c (alone net ks) :=
  ⟨h.c3, h.c5, by rw [alone_length]; exact h.some, by rw [alone_length]; exact h.few, fun k hk => by
    rw [alone_length] at hk
    rw [alone_get _ _ hk]
    split
    · exact h.lt k hk
    · have := h.c3; omega⟩
theorem step_alone {net : List Nat} (ok : Ok net) {c : Nat} {ks : List Nat} (hl : ks.length = net.length) {k : Nat} (hk : k < ks.length) :
    (step net c (alone net ks)).getD k 0 = if (parts net).getD k 0 = 0 then (step net c ks).getD k 0 else 0 := by
  rw [step_get _ _ _ (by rw [alone_length]; exact hk), alone_get _ _ hk, step_get _ _ _ hk]
  have hn : ∀ j, j < ks.length → (net.getD k 0).testBit j = true → (parts net).getD j 0 = (parts net).getD k 0 := fun j hj hb => (parts_wire ok (by omega) (by omega) hb).symm
  by_cases e : (parts net).getD k 0 = 0
  · rw [if_pos e, if_pos e]
    congr 1
    apply bool_eq
    rw [litB_iff, litB_iff, alone_length]
    constructor
    · rintro ⟨j, hj, hb, hf⟩
      rw [alone_get _ _ hj, if_pos (by rw [hn j hj hb]; exact e)] at hf
      exact ⟨j, hj, hb, hf⟩
    · rintro ⟨j, hj, hb, hf⟩
      exact ⟨j, hj, hb, by rw [alone_get _ _ hj, if_pos (by rw [hn j hj hb]; exact e)]; exact hf⟩
  · rw [if_neg e, if_neg e]
    have hlb : litB net (alone net ks) k = false := by
      cases eb : litB net (alone net ks) k
      · rfl
      · obtain ⟨j, hj, hb, hf⟩ := litB_iff.1 eb
        rw [alone_length] at hj
        rw [alone_get _ _ hj, if_neg (by rw [hn j hj hb]; exact e)] at hf
        omega
    rw [hlb]
    rfl

/-- With one kind more. -/
theorem step_more {net : List Nat} {c : Nat} {ks : List Nat} (h : St c ks) {k : Nat} (hk : k < ks.length) :
    ((step net c ks).getD k 0 = 1 ↔ (step net (c + 1) ks).getD k 0 = 1) ∧ (ks.getD k 0 + 1 < c → (step net c ks).getD k 0 = (step net (c + 1) ks).getD k 0) := by
  have hlt := h.lt k hk
  have h3 := h.c3
  rw [step_get _ _ _ hk, step_get _ _ _ hk]
  refine ⟨by rw [fireK_one hlt, fireK_one (show ks.getD k 0 < c + 1 by omega)], fun h1 => ?_⟩
  generalize ks.getD k 0 = x at *
  unfold fireK
  by_cases e : 0 < x
  · rw [if_pos e, if_pos e, Nat.mod_eq_of_lt (by omega), Nat.mod_eq_of_lt (by omega)]
  · rw [if_neg e, if_neg e]
theorem more_st {c : Nat} {ks : List Nat} (h : St c ks) (hc : c ≤ 4) : St (c + 1) ks :=
  ⟨by have := h.c3; omega, by omega, h.some, h.few, fun k hk => by have := h.lt k hk; omega⟩

/-- Without fire. -/
theorem tired_run {net : List Nat} {c : Nat} {ks : List Nat} (h : St c ks) (hf : ∀ k, k < ks.length → ks.getD k 0 ≠ 1) : ∀ t k, k < ks.length →
    (run net c ks t).getD k 0 = if ks.getD k 0 = 0 then 0 else if ks.getD k 0 + t < c then ks.getD k 0 + t else 0
  | 0, k, hk => by
    have := h.lt k hk
    show ks.getD k 0 = _
    split
    · omega
    · rw [if_pos (by omega)]; rfl
  | t + 1, k, hk => by
    have ih := fun j hj => tired_run (net := net) h hf t j hj
    have hlt := h.lt k hk
    have h3 := h.c3
    have hk1 := hf k hk
    have hlb : litB net (run net c ks t) k = false := by
      cases eb : litB net (run net c ks t) k
      · rfl
      · obtain ⟨j, hj, _, hf2⟩ := litB_iff.1 eb
        rw [run_length] at hj
        rw [ih j hj] at hf2
        have hj1 := hf j hj
        split at hf2
        · omega
        · split at hf2 <;> omega
    rw [run, step_get _ _ _ (by rw [run_length]; exact hk), hlb, ih k hk]
    generalize ks.getD k 0 = x at *
    unfold fireK
    by_cases e : x = 0
    · rw [if_pos e, if_pos e]; simp
    · rw [if_neg e, if_neg e]
      by_cases e2 : x + t < c
      · rw [if_pos e2, if_pos (by omega), succ_mod_cases e2]
        by_cases e3 : x + t + 1 = c
        · rw [if_pos e3, if_neg (by omega)]
        · rw [if_neg e3, if_pos (by omega)]; omega
      · rw [if_neg e2, if_neg (show ¬ x + (t + 1) < c by omega)]; rfl
theorem tired_rest {net : List Nat} {c : Nat} {ks : List Nat} (h : St c ks) (hf : ∀ k, k < ks.length → ks.getD k 0 ≠ 1) : run net c ks (c - 2) = rest ks.length := by
  have e := eq_rest (ks := run net c ks (c - 2)) (fun k hk => by
    rw [run_length] at hk
    rw [tired_run h hf _ k hk]
    have := hf k hk
    have := h.c3
    split
    · rfl
    · rw [if_neg (by omega)])
  rwa [run_length] at e

end Nt
end Go.Proofs.Ytahjplaidkibpaa
