/-
  Plain mathematics of tours: what they climb, and that this is how often nodes turn.
  Plain mathematics: what the functions of tours answer, whatever comes in.
-/
import Derived.Test.YtllbdhfckdljgaaTA
namespace Go.Proofs.Ytllbdhfckdljgaa
namespace Nt

/-- The greatest one of a first thing and some others. -/
def overTo (f : Nat → Int) (p : Nat → Bool) (a : Int) : Nat → Int
  | 0 => a
  | j + 1 => if p j = true then max (overTo f p a j) (f j) else overTo f p a j
theorem overTo_ge (f : Nat → Int) (p : Nat → Bool) (a : Int) : ∀ n, a ≤ overTo f p a n ∧ ∀ j, j < n → p j = true → f j ≤ overTo f p a n
  | 0 => ⟨Int.le_refl _, fun j hj => absurd hj (by omega)⟩
  | n + 1 => by
    obtain ⟨h1, h2⟩ := overTo_ge f p a n
    rw [overTo]
    refine ⟨by split <;> omega, fun j hj hp => ?_⟩
    by_cases e : j = n
    · subst e
      rw [if_pos hp]; omega
    · have := h2 j (by omega) hp
      split <;> omega
theorem overTo_le {f : Nat → Int} {p : Nat → Bool} {a b : Int} (ha : a ≤ b) : ∀ n, (∀ j, j < n → p j = true → f j ≤ b) → overTo f p a n ≤ b
  | 0, _ => ha
  | n + 1, h => by
    have h1 := overTo_le (f := f) (p := p) ha n (fun j hj hp => h j (by omega) hp)
    rw [overTo]
    split
    · rename_i hp
      have := h n (by omega) hp
      omega
    · exact h1
theorem overTo_cong {f g : Nat → Int} {p : Nat → Bool} {a b : Int} (ha : a = b) : ∀ n, (∀ j, j < n → f j = g j) → overTo f p a n = overTo g p b n
  | 0, _ => ha
  | n + 1, h => by
    rw [overTo, overTo, overTo_cong ha n (fun j hj => h j (by omega)), h n (by omega)]

/-- The most that a tour of at most so many steps climbs. -/
def mostK (net ks : List Nat) : Nat → Nat → Int
  | 0, _ => 0
  | t + 1, k => overTo (fun j => rise (ks.getD k 0) (ks.getD j 0) + mostK net ks t j) (fun j => (net.getD k 0).testBit j) (mostK net ks t k) ks.length

/-- One step to a neighbour and what that one has turned: no more than what a node turns. -/
theorem turned_ge {net ks : List Nat} (ok : Ok net) (h : St 3 ks) (hl : ks.length = net.length) {k j : Nat} (hk : k < ks.length) (hj : j < ks.length) (hb : (net.getD k 0).testBit j = true) (t : Nat) :
    rise (ks.getD k 0) (ks.getD j 0) + (turned net ks j t : Int) ≤ (turned net ks k (t + 1) : Int) := by
  have h1 := rise_turned ok h hl hk hj hb t
  have hk1 : k < (turns net ks t).length := by rw [turns_length]; exact hk
  have hj1 : j < (turns net ks t).length := by rw [turns_length]; exact hj
  have hy := (turns_st net h t).lt j hj1
  have h2 := @rise_hi ((turns net ks t).getD k 0) ((turns net ks t).getD j 0)
  rw [turned]
  by_cases e : pullB net (turns net ks t) k = true
  · rw [if_pos e]; omega
  · rw [if_neg e]
    have h3 : ¬ rise ((turns net ks t).getD k 0) ((turns net ks t).getD j 0) = 1 := fun hr => e (pullB_iff.2 ⟨j, hj1, hb, (rise_one hy).1 hr⟩)
    omega
/-- If a node turns, some step leads to as much. -/
theorem turned_some {net ks : List Nat} (ok : Ok net) (h : St 3 ks) (hl : ks.length = net.length) {k : Nat} (hk : k < ks.length) {t : Nat} (e : pullB net (turns net ks t) k = true) :
    ∃ j, j < ks.length ∧ (net.getD k 0).testBit j = true ∧ rise (ks.getD k 0) (ks.getD j 0) + (turned net ks j t : Int) = (turned net ks k (t + 1) : Int) := by
  obtain ⟨j, hj1, hb, he⟩ := pullB_iff.1 e
  have hj : j < ks.length := by rw [turns_length] at hj1; exact hj1
  have h1 := rise_turned ok h hl hk hj hb t
  have hy := (turns_st net h t).lt j hj1
  rw [(rise_one hy).2 he] at h1
  refine ⟨j, hj, hb, ?_⟩
  rw [turned, if_pos e]; omega
theorem turned_mono (net ks : List Nat) (k t : Nat) : turned net ks k t ≤ turned net ks k (t + 1) := by rw [turned]; omega
theorem turned_next (net ks : List Nat) (k t : Nat) : turned net ks k (t + 1) ≤ turned net ks k t + 1 := by rw [turned]; split <;> omega
/-- Turns are what tours climb. -/
theorem most_turned {net ks : List Nat} (ok : Ok net) (h : St 3 ks) (hl : ks.length = net.length) : ∀ (t k : Nat), k < ks.length → mostK net ks t k = (turned net ks k t : Int)
  | 0, _, _ => rfl
  | t + 1, k, hk => by
    rw [mostK, overTo_cong (g := fun j => rise (ks.getD k 0) (ks.getD j 0) + (turned net ks j t : Int)) (most_turned ok h hl t k hk) ks.length (fun j hj => by rw [most_turned ok h hl t j hj])]
    apply Int.le_antisymm
    · refine overTo_le ?_ _ fun j hj hp => turned_ge ok h hl hk hj hp t
      have := turned_mono net ks k t
      omega
    · obtain ⟨h1, h2⟩ := overTo_ge (fun j => rise (ks.getD k 0) (ks.getD j 0) + (turned net ks j t : Int)) (fun j => (net.getD k 0).testBit j) (turned net ks k t : Int) ks.length
      by_cases e : pullB net (turns net ks t) k = true
      · obtain ⟨j, hj, hb, he⟩ := turned_some ok h hl hk e
        rw [← he]
        exact h2 j hj hb
      · rw [turned, if_neg e]; exact h1

/-- A tour goes from each node to a neighbour of it. -/
structure Tour (net tr : List Nat) : Prop where
  some : 1 ≤ tr.length
  few : tr.length ≤ 12
  inn : ∀ k, k < tr.length → tr.getD k 0 < net.length
  near : ∀ k, k + 1 < tr.length → (net.getD (tr.getD k 0) 0).testBit (tr.getD (k + 1) 0) = true

theorem rev_get {l : List Nat} {k : Nat} (h : k < l.length) : l.reverse.getD k 0 = l.getD (l.length - 1 - k) 0 := by
  simp [List.getD_eq_getElem?_getD, List.getElem?_reverse h]
theorem tour_one {net : List Nat} {k : Nat} (h : k < net.length) : Tour net [k] :=
  ⟨by simp, by simp, fun i hi => by
    have : i = 0 := by simp at hi; exact hi
    subst this; exact h, fun i hi => by simp at hi⟩
theorem tour_back {net tr : List Nat} (ok : Ok net) (h : Tour net tr) : Tour net tr.reverse := by
  refine ⟨by simpa using h.some, by simpa using h.few, fun k hk => ?_, fun k hk => ?_⟩
  · rw [List.length_reverse] at hk
    rw [rev_get hk]
    exact h.inn _ (by omega)
  · rw [List.length_reverse] at hk
    have h1 := h.near (tr.length - 1 - (k + 1)) (by omega)
    have e : tr.length - 1 - (k + 1) + 1 = tr.length - 1 - k := by omega
    rw [e] at h1
    rw [rev_get (by omega), rev_get hk, ok.both _ _ (h.inn _ (by omega)) (h.inn _ (by omega))]
    exact h1
theorem tour_back_iff {net tr : List Nat} (ok : Ok net) : Tour net tr.reverse ↔ Tour net tr := by
  refine ⟨fun h => ?_, tour_back ok⟩
  have := tour_back ok h
  rwa [List.reverse_reverse] at this

/-- What a tour climbs in so many steps. -/
def climbTo (ks tr : List Nat) : Nat → Int
  | 0 => 0
  | i + 1 => climbTo ks tr i + rise (ks.getD (tr.getD i 0) 0) (ks.getD (tr.getD (i + 1) 0) 0)
def climb (ks tr : List Nat) : Int := climbTo ks tr (tr.length - 1)
theorem climbTo_bounds (ks tr : List Nat) : ∀ i, climbTo ks tr i ≤ (i : Int) ∧ -(i : Int) ≤ climbTo ks tr i
  | 0 => ⟨by simp [climbTo], by simp [climbTo]⟩
  | i + 1 => by
    have h1 := climbTo_bounds ks tr i
    have h2 := @rise_hi (ks.getD (tr.getD i 0) 0) (ks.getD (tr.getD (i + 1) 0) 0)
    have h3 := @rise_lo (ks.getD (tr.getD i 0) 0) (ks.getD (tr.getD (i + 1) 0) 0)
    rw [climbTo]; omega
theorem climbTo_cons (ks : List Nat) (a : Nat) (tr : List Nat) : ∀ i, climbTo ks (a :: tr) (i + 1) = rise (ks.getD a 0) (ks.getD (tr.getD 0 0) 0) + climbTo ks tr i
  | 0 => by
    show 0 + rise (ks.getD a 0) (ks.getD (tr.getD 0 0) 0) = rise (ks.getD a 0) (ks.getD (tr.getD 0 0) 0) + 0
    omega
  | i + 1 => by
    have ih := climbTo_cons ks a tr i
    rw [climbTo, ih]
    show _ + rise (ks.getD (tr.getD i 0) 0) (ks.getD (tr.getD (i + 1) 0) 0) = _
    rw [climbTo]; omega
theorem climbTo_cong {ks tr us : List Nat} : ∀ i, (∀ k, k ≤ i → tr.getD k 0 = us.getD k 0) → climbTo ks tr i = climbTo ks us i
  | 0, _ => rfl
  | i + 1, h => by rw [climbTo, climbTo, climbTo_cong i (fun k hk => h k (by omega)), h i (by omega), h (i + 1) (by omega)]
theorem climbTo_shift {ks tr us : List Nat} {a : Nat} : ∀ i, (∀ k, k ≤ i → us.getD k 0 = tr.getD (a + k) 0) → climbTo ks tr (a + i) = climbTo ks tr a + climbTo ks us i
  | 0, _ => by show climbTo ks tr a = _ + 0; omega
  | i + 1, h => by
    have ih := climbTo_shift (ks := ks) (tr := tr) (us := us) (a := a) i (fun k hk => h k (by omega))
    rw [climbTo, h i (by omega), h (i + 1) (by omega), ← Nat.add_assoc, climbTo, ih]; omega
theorem kinds_lt {ks : List Nat} (h : St 3 ks) (k : Nat) : ks.getD k 0 < 3 := by
  by_cases e : k < ks.length
  · exact h.lt k e
  · rw [List.getD_eq_getElem?_getD, List.getElem?_eq_none (by omega)]; simp
/-- Back it climbs as much less. -/
theorem climbTo_back {ks tr : List Nat} : ∀ i, i < tr.length → climbTo ks tr.reverse i = climbTo ks tr (tr.length - 1 - i) - climbTo ks tr (tr.length - 1)
  | 0, _ => by show 0 = climbTo ks tr (tr.length - 1) - _; omega
  | i + 1, hi => by
    have ih := climbTo_back (ks := ks) (tr := tr) i (by omega)
    have e : tr.length - 1 - i = tr.length - 1 - (i + 1) + 1 := by omega
    rw [climbTo, ih, rev_get (by omega), rev_get hi, e, climbTo, rise_back]; omega
theorem climb_back (ks : List Nat) {tr : List Nat} (h : 1 ≤ tr.length) : climb ks tr.reverse = - climb ks tr := by
  unfold climb
  rw [List.length_reverse, climbTo_back _ (by omega), Nat.sub_self, climbTo]; omega
/-- There and back together nothing. -/
theorem climb_both (ks : List Nat) {tr : List Nat} (h : 1 ≤ tr.length) : climb ks (tr ++ tr.reverse.drop 1) = 0 := by
  have hl : (tr ++ tr.reverse.drop 1).length - 1 = (tr.length - 1) + (tr.length - 1) := by
    rw [List.length_append, List.length_drop, List.length_reverse]; omega
  have h1 := climb_back ks h
  unfold climb at h1 ⊢
  rw [List.length_reverse] at h1
  rw [hl, climbTo_shift (us := tr.reverse) _ (fun k hk => ?_), h1, climbTo_cong (us := tr) _ (fun k hk => ?_)]
  · omega
  · rw [List.getD_eq_getElem?_getD, List.getElem?_append_left (by omega), ← List.getD_eq_getElem?_getD]
  · by_cases e : k = 0
    · subst e
      rw [rev_get (by omega), Nat.add_zero, List.getD_eq_getElem?_getD (l := tr ++ _), List.getElem?_append_left (by omega), ← List.getD_eq_getElem?_getD]
      rfl
    · rw [List.getD_eq_getElem?_getD (l := tr ++ _), List.getElem?_append_right (by omega), List.getElem?_drop, ← List.getD_eq_getElem?_getD]
      congr 1
      omega
/-- Climbs are added. -/
theorem climb_parts (ks : List Nat) {tr : List Nat} {m : Nat} (h : m < tr.length) : climb ks (tr.take (m + 1)) + climb ks (tr.drop m) = climb ks tr := by
  unfold climb
  rw [List.length_take, List.length_drop, show min (m + 1) tr.length - 1 = m by omega,
    show tr.length - 1 = m + (tr.length - m - 1) by omega, climbTo_shift (us := tr.drop m) _ (fun k hk => ?_), climbTo_cong (tr := tr.take (m + 1)) (us := tr) _ (fun k hk => ?_)]
  · rw [List.getD_eq_getElem?_getD, List.getElem?_take, if_pos (by omega), ← List.getD_eq_getElem?_getD]
  · rw [List.getD_eq_getElem?_getD, List.getElem?_drop, ← List.getD_eq_getElem?_getD]
theorem tour_take {net tr : List Nat} (h : Tour net tr) {m : Nat} (hm : 1 ≤ m) : Tour net (tr.take m) := by
  have hg : ∀ k, k < m → (tr.take m).getD k 0 = tr.getD k 0 := fun k hk => by
    rw [List.getD_eq_getElem?_getD, List.getElem?_take, if_pos hk, ← List.getD_eq_getElem?_getD]
  have := h.some
  have := h.few
  refine ⟨by rw [List.length_take]; omega, by rw [List.length_take]; omega, fun k hk => ?_, fun k hk => ?_⟩
  · rw [List.length_take] at hk
    rw [hg k (by omega)]
    exact h.inn k (by omega)
  · rw [List.length_take] at hk
    rw [hg k (by omega), hg (k + 1) (by omega)]
    exact h.near k (by omega)
theorem tour_drop {net tr : List Nat} (h : Tour net tr) {m : Nat} (hm : m < tr.length) : Tour net (tr.drop m) := by
  have hg : ∀ k, (tr.drop m).getD k 0 = tr.getD (m + k) 0 := fun k => by
    rw [List.getD_eq_getElem?_getD, List.getElem?_drop, ← List.getD_eq_getElem?_getD]
  have := h.few
  refine ⟨by rw [List.length_drop]; omega, by rw [List.length_drop]; omega, fun k hk => ?_, fun k hk => ?_⟩
  · rw [List.length_drop] at hk
    rw [hg]
    exact h.inn _ (by omega)
  · rw [List.length_drop] at hk
    rw [hg, hg]
    exact h.near (m + k) (by omega)

/-- No tour climbs more than its first node turns in as many steps. -/
theorem climb_le {net ks : List Nat} (ok : Ok net) (h : St 3 ks) (hl : ks.length = net.length) : ∀ (i : Nat) (tr : List Nat) (t : Nat), i < tr.length → i ≤ t → (∀ k, k < tr.length → tr.getD k 0 < net.length) →
    (∀ k, k + 1 < tr.length → (net.getD (tr.getD k 0) 0).testBit (tr.getD (k + 1) 0) = true) → climbTo ks tr i ≤ (turned net ks (tr.getD 0 0) t : Int)
  | 0, _, _, _, _, _, _ => by show (0 : Int) ≤ _; omega
  | i + 1, [], _, hi, _, _, _ => absurd hi (by simp)
  | i + 1, a :: tr, 0, _, ht, _, _ => absurd ht (by omega)
  | i + 1, a :: tr, t + 1, hi, ht, h1, h2 => by
    rw [List.length_cons] at hi h1 h2
    have ih := climb_le ok h hl i tr t (by omega) (by omega) (fun k hk => by simpa using h1 (k + 1) (by omega)) (fun k hk => by simpa using h2 (k + 1) (by omega))
    have ha : a < net.length := by simpa using h1 0 (by omega)
    have hb : tr.getD 0 0 < net.length := by simpa using h1 1 (by omega)
    have hn : (net.getD a 0).testBit (tr.getD 0 0) = true := by simpa using h2 0 (by omega)
    have h3 := turned_ge ok h hl (k := a) (j := tr.getD 0 0) (by omega) (by omega) hn t
    rw [climbTo_cons]
    show _ ≤ (turned net ks a (t + 1) : Int)
    omega

/-- The first neighbour by which a tour may go on. -/
def nextOf (net ks : List Nat) (t k : Nat) : Nat := ((List.range ks.length).find? fun j => (net.getD k 0).testBit j && decide (rise (ks.getD k 0) (ks.getD j 0) + (turned net ks j t : Int) = (turned net ks k (t + 1) : Int))).getD 0
def bestFrom (net ks : List Nat) : Nat → Nat → List Nat
  | 0, k => [k]
  | t + 1, k => k :: bestFrom net ks t (nextOf net ks t k)
theorem bestFrom_length (net ks : List Nat) : ∀ t k, (bestFrom net ks t k).length = t + 1
  | 0, _ => rfl
  | t + 1, k => by rw [bestFrom, List.length_cons, bestFrom_length net ks t]
theorem bestFrom_head (net ks : List Nat) (t k : Nat) : (bestFrom net ks t k).getD 0 0 = k := by cases t <;> rfl
theorem nextOf_good {net ks : List Nat} (ok : Ok net) (h : St 3 ks) (hl : ks.length = net.length) {k : Nat} (hk : k < ks.length) {t : Nat} (e : pullB net (turns net ks t) k = true) :
    nextOf net ks t k < ks.length ∧ (net.getD k 0).testBit (nextOf net ks t k) = true ∧ rise (ks.getD k 0) (ks.getD (nextOf net ks t k) 0) + (turned net ks (nextOf net ks t k) t : Int) = (turned net ks k (t + 1) : Int) := by
  obtain ⟨j, hj, hb, he⟩ := turned_some ok h hl hk e
  unfold nextOf
  cases hf : (List.range ks.length).find? fun j => (net.getD k 0).testBit j && decide (rise (ks.getD k 0) (ks.getD j 0) + (turned net ks j t : Int) = (turned net ks k (t + 1) : Int)) with
  | none =>
    have := List.find?_eq_none.1 hf j (List.mem_range.2 hj)
    rw [hb, decide_eq_true he] at this
    exact absurd rfl this
  | some i =>
    have h1 := List.find?_some hf
    have h2 := List.mem_range.1 (List.mem_of_find?_eq_some hf)
    rw [Bool.and_eq_true, decide_eq_true_eq] at h1
    exact ⟨h2, h1.1, h1.2⟩
/-- Behind a step of a best tour the next node has turned at the turn before. -/
theorem nextOf_turns {net ks : List Nat} (ok : Ok net) (h : St 3 ks) (hl : ks.length = net.length) {k : Nat} (hk : k < ks.length) {t : Nat} (e : pullB net (turns net ks (t + 1)) k = true) : pullB net (turns net ks t) (nextOf net ks (t + 1) k) = true := by
  obtain ⟨h1, h2, h3⟩ := nextOf_good ok h hl hk e
  have h4 := turned_ge ok h hl hk h1 h2 t
  generalize nextOf net ks (t + 1) k = j at *
  have e1 : turned net ks k (t + 2) = turned net ks k (t + 1) + 1 := by rw [turned, if_pos e]
  apply Classical.byContradiction
  intro hn
  have e2 : turned net ks j (t + 1) = turned net ks j t := by rw [turned, if_neg hn]; rfl
  have e3 : turned net ks k (t + 1 + 1) = turned net ks k (t + 2) := rfl
  rw [e2] at h3
  omega
theorem bestFrom_good {net ks : List Nat} (ok : Ok net) (h : St 3 ks) (hl : ks.length = net.length) : ∀ (t k : Nat), k < ks.length → (∀ s, t = s + 1 → pullB net (turns net ks s) k = true) →
    (∀ i, i < t + 1 → (bestFrom net ks t k).getD i 0 < ks.length) ∧ (∀ i, i < t → (net.getD ((bestFrom net ks t k).getD i 0) 0).testBit ((bestFrom net ks t k).getD (i + 1) 0) = true) ∧ climbTo ks (bestFrom net ks t k) t = (turned net ks k t : Int)
  | 0, k, hk, _ => ⟨fun i hi => by
      have : i = 0 := by omega
      subst this; exact hk, fun i hi => absurd hi (by omega), rfl⟩
  | t + 1, k, hk, hp => by
    have e := hp t rfl
    obtain ⟨h1, h2, h3⟩ := nextOf_good ok h hl hk e
    obtain ⟨g1, g2, g3⟩ := bestFrom_good ok h hl t (nextOf net ks t k) h1 (fun s hs => by subst hs; exact nextOf_turns ok h hl hk e)
    have hh := bestFrom_head net ks t (nextOf net ks t k)
    rw [bestFrom]
    refine ⟨fun i hi => ?_, fun i hi => ?_, ?_⟩
    · cases i with
      | zero => exact hk
      | succ i => simpa using g1 i (by omega)
    · cases i with
      | zero =>
        show (net.getD k 0).testBit ((bestFrom net ks t (nextOf net ks t k)).getD 0 0) = true
        rw [hh]; exact h2
      | succ i => simpa using g2 i (by omega)
    · rw [climbTo_cons, g3, hh]; exact h3

/-- The fewest steps in which a node turns as often as in so many. -/
def fewestT (net ks : List Nat) (k : Nat) : Nat → Nat
  | 0 => 0
  | t + 1 => if pullB net (turns net ks t) k = true then t + 1 else fewestT net ks k t
theorem fewestT_le (net ks : List Nat) (k : Nat) : ∀ t, fewestT net ks k t ≤ t
  | 0 => Nat.le_refl _
  | t + 1 => by
    have := fewestT_le net ks k t
    rw [fewestT]; split <;> omega
theorem fewestT_same (net ks : List Nat) (k : Nat) : ∀ t, turned net ks k (fewestT net ks k t) = turned net ks k t
  | 0 => rfl
  | t + 1 => by
    have ih := fewestT_same net ks k t
    rw [fewestT]
    by_cases e : pullB net (turns net ks t) k = true
    · rw [if_pos e]
    · rw [if_neg e, ih, turned, if_neg e]; rfl
theorem fewestT_pull (net ks : List Nat) (k : Nat) : ∀ t s, fewestT net ks k t = s + 1 → pullB net (turns net ks s) k = true
  | 0, s, h => by rw [fewestT] at h; omega
  | t + 1, s, h => by
    rw [fewestT] at h
    by_cases e : pullB net (turns net ks t) k = true
    · rw [if_pos e] at h
      have : t = s := by omega
      subst this; exact e
    · rw [if_neg e] at h
      exact fewestT_pull net ks k t s h
theorem turned_le_of (net ks : List Nat) (k : Nat) {s : Nat} : ∀ {t}, s ≤ t → turned net ks k s ≤ turned net ks k t
  | 0, h => by
    have : s = 0 := by omega
    subst this; exact Nat.le_refl _
  | t + 1, h => by
    by_cases e : s = t + 1
    · subst e; exact Nat.le_refl _
    · have h1 := turned_le_of net ks k (s := s) (t := t) (by omega)
      have h2 := turned_mono net ks k t
      omega
theorem fewestT_least (net ks : List Nat) (k t : Nat) {s : Nat} (h : s < fewestT net ks k t) : turned net ks k s < turned net ks k t := by
  obtain ⟨f, hf⟩ : ∃ f, fewestT net ks k t = f + 1 := ⟨fewestT net ks k t - 1, by omega⟩
  have h1 := fewestT_pull net ks k t f hf
  have h2 := fewestT_same net ks k t
  have h3 := turned_le_of net ks k (s := s) (t := f) (by omega)
  rw [hf, turned, if_pos h1] at h2
  omega
def best (net ks : List Nat) (k t : Nat) : List Nat := bestFrom net ks (fewestT net ks k t) k
theorem best_length (net ks : List Nat) (k t : Nat) : (best net ks k t).length = fewestT net ks k t + 1 := bestFrom_length _ _ _ _
theorem best_head (net ks : List Nat) (k t : Nat) : (best net ks k t).getD 0 0 = k := bestFrom_head _ _ _ _
theorem best_climb {net ks : List Nat} (ok : Ok net) (h : St 3 ks) (hl : ks.length = net.length) {k : Nat} (hk : k < ks.length) (t : Nat) : climb ks (best net ks k t) = (turned net ks k t : Int) := by
  obtain ⟨-, -, h3⟩ := bestFrom_good ok h hl (fewestT net ks k t) k hk (fun s hs => fewestT_pull net ks k t s hs)
  unfold climb
  rw [best_length, Nat.add_sub_cancel]
  show climbTo ks (bestFrom net ks (fewestT net ks k t) k) _ = _
  rw [h3, fewestT_same]
theorem best_tour {net ks : List Nat} (ok : Ok net) (h : St 3 ks) (hl : ks.length = net.length) {k : Nat} (hk : k < ks.length) {t : Nat} (ht : t ≤ 11) : Tour net (best net ks k t) := by
  obtain ⟨h1, h2, -⟩ := bestFrom_good ok h hl (fewestT net ks k t) k hk (fun s hs => fewestT_pull net ks k t s hs)
  have h4 := fewestT_le net ks k t
  refine ⟨by rw [best_length]; omega, by rw [best_length]; omega, fun i hi => ?_, fun i hi => ?_⟩
  · rw [best_length] at hi
    have := h1 i hi
    rw [← hl]; exact this
  · rw [best_length] at hi
    exact h2 i (by omega)
/-- Best tours climb most. -/
theorem best_most {net ks : List Nat} (ok : Ok net) (h : St 3 ks) (hl : ks.length = net.length) {k : Nat} (hk : k < ks.length) {t : Nat} {tr : List Nat} (ht : Tour net tr) (h0 : tr.getD 0 0 = k) (hn : tr.length ≤ t + 1) : climb ks tr ≤ climb ks (best net ks k t) := by
  have h1 := ht.some
  have h2 := climb_le ok h hl (tr.length - 1) tr t (by omega) (by omega) ht.inn ht.near
  rw [best_climb ok h hl hk, ← h0]
  exact h2

end Nt
end Go.Proofs.Ytllbdhfckdljgaa

namespace Go.Proofs.Ytllbdhfckdljgaa
namespace Nt

/-- Whether a number is a place of a row. -/
def inB (n : Nat) (a : Int) : Bool := decide (0 ≤ a ∧ a < (n : Int))
theorem inB_ok {n : Nat} {a : Int} (h : inB n a = true) : ∃ k : Nat, a = (k : Int) ∧ k < n := by
  unfold inB at h
  have h1 := of_decide_eq_true h
  exact ⟨a.toNat, by omega, by omega⟩
theorem inB_yes {n k : Nat} (h : k < n) : inB n (k : Int) = true := by unfold inB; exact decide_eq_true (by omega)
theorem inB_no {n : Nat} {a : Int} (h : inB n a = false) : ¬ (0 ≤ a ∧ a < (n : Int)) := by unfold inB at h; exact of_decide_eq_false h

theorem stB3_st {xs : List Int} (h : stB 3 xs = true) : ∃ ks, xs = nats ks ∧ St 3 ks := by
  obtain ⟨c, ks, h1, h2, h3⟩ := stB_st h
  have e : c = 3 := by omega
  subst e
  exact ⟨ks, h2, h3⟩
theorem st_stB3 {ks : List Nat} (h : St 3 ks) : stB 3 (nats ks) = true := st_stB h

def riseOf (ys : List Int) (a b : Int) : Int :=
  if (stB 3 ys && inB ys.length a && inB ys.length b) = true then rise ((ys.map Int.toNat).getD a.toNat 0) ((ys.map Int.toNat).getD b.toNat 0) else 0
theorem riseOf_ok {ks : List Nat} (st : St 3 ks) {a b : Nat} (ha : a < ks.length) (hb : b < ks.length) : riseOf (nats ks) (a : Int) (b : Int) = rise (ks.getD a 0) (ks.getD b 0) := by
  unfold riseOf
  rw [st_stB3 st, nats_length, inB_yes ha, inB_yes hb, Bool.true_and, Bool.true_and, if_pos rfl, nats_toNat, Int.toNat_natCast, Int.toNat_natCast]
theorem riseOf_no1 {ys : List Int} {a b : Int} (h : stB 3 ys = false) : riseOf ys a b = 0 := by unfold riseOf; rw [h, Bool.false_and, Bool.false_and, if_neg (by simp)]
theorem riseOf_no2 {ys : List Int} {a b : Int} (h : inB ys.length a = false) : riseOf ys a b = 0 := by unfold riseOf; rw [h, Bool.and_false, Bool.false_and, if_neg (by simp)]
theorem riseOf_no3 {ys : List Int} {a b : Int} (h : inB ys.length b = false) : riseOf ys a b = 0 := by unfold riseOf; rw [h, Bool.and_false, if_neg (by simp)]
theorem riseOf_in (ys : List Int) (a b : Int) : -1 ≤ riseOf ys a b ∧ riseOf ys a b ≤ 1 := by
  unfold riseOf
  split
  · exact ⟨rise_lo, rise_hi⟩
  · omega
theorem riseOf_back (ys : List Int) (a b : Int) : riseOf ys b a = - riseOf ys a b := by
  unfold riseOf
  rw [Bool.and_right_comm]
  split
  · exact rise_back
  · rfl
theorem riseOf_raised {ks : List Nat} (st : St 3 ks) (a b : Int) : riseOf (nats (raised 3 ks)) a b = riseOf (nats ks) a b := by
  have st2 := raised_st st
  cases ha : inB ks.length a
  · rw [riseOf_no2 (by rw [nats_length, raised_length]; exact ha), riseOf_no2 (by rw [nats_length]; exact ha)]
  · cases hb : inB ks.length b
    · rw [riseOf_no3 (by rw [nats_length, raised_length]; exact hb), riseOf_no3 (by rw [nats_length]; exact hb)]
    · obtain ⟨a, rfl, ha2⟩ := inB_ok ha
      obtain ⟨b, rfl, hb2⟩ := inB_ok hb
      clear ha hb
      have ha := ha2
      have hb := hb2
      rw [riseOf_ok st2 (by rw [raised_length]; exact ha) (by rw [raised_length]; exact hb), riseOf_ok st ha hb, raised_get _ _ _ ha, raised_get _ _ _ hb, rise_raised]

/-- Whether a tour's place is a node, and a neighbour of the one before. -/
def goesB (xs zs : List Int) (k : Nat) : Bool := inB xs.length (zs.getD k 0) && (k == 0 || bit (xs.getD (zs.getD (k - 1) 0).toNat 0) (zs.getD k 0).toNat)
def goesTo (xs zs : List Int) (k : Nat) : Prop := ∀ i, i < k → goesB xs zs i = true
theorem goesTo_succ {xs zs : List Int} {k : Nat} (h : goesTo xs zs k) (h1 : goesB xs zs k = true) : goesTo xs zs (k + 1) := by
  intro j hj
  by_cases e : j = k
  · subst e; exact h1
  · exact h j (by omega)
def tourB (xs zs : List Int) : Bool := okB xs && decide (1 ≤ zs.length ∧ zs.length ≤ 12) && (List.range zs.length).all fun k => goesB xs zs k
theorem tourB_yes {xs zs : List Int} (h1 : okB xs = true) (h2 : 1 ≤ zs.length) (h3 : zs.length ≤ 12) (h4 : goesTo xs zs zs.length) : tourB xs zs = true := by
  unfold tourB
  rw [h1, decide_eq_true (show 1 ≤ zs.length ∧ zs.length ≤ 12 from ⟨h2, h3⟩), Bool.true_and, Bool.true_and, List.all_eq_true]
  intro k hk
  exact h4 k (List.mem_range.1 hk)
theorem tourB_no1 {xs zs : List Int} (h : okB xs = false) : tourB xs zs = false := by unfold tourB; rw [h, Bool.false_and, Bool.false_and]
theorem tourB_no2 {xs zs : List Int} (h : ¬ (1 ≤ zs.length ∧ zs.length ≤ 12)) : tourB xs zs = false := by unfold tourB; rw [decide_eq_false h, Bool.and_false, Bool.false_and]
theorem tourB_no3 {xs zs : List Int} {k : Nat} (hk : k < zs.length) (h : goesB xs zs k = false) : tourB xs zs = false := by
  unfold tourB
  rw [Bool.and_eq_false_iff]
  right
  rw [List.all_eq_false]
  exact ⟨k, List.mem_range.2 hk, by rw [h]; simp⟩
theorem tourB_ok {xs zs : List Int} (h : tourB xs zs = true) : ∃ ns tr, xs = nats ns ∧ zs = nats tr ∧ Ok ns ∧ Tour ns tr := by
  unfold tourB at h
  rw [Bool.and_eq_true, Bool.and_eq_true, decide_eq_true_eq, List.all_eq_true] at h
  obtain ⟨⟨h1, h2, h3⟩, h4⟩ := h
  have h5 : ∀ k, k < zs.length → goesB xs zs k = true := fun k hk => h4 k (List.mem_range.2 hk)
  obtain ⟨ns, rfl, ok⟩ := okB_ok h1
  obtain ⟨tr, rfl⟩ := nats_of_nonneg (xs := zs) (fun k hk => by
    have := h5 k hk
    unfold goesB at this
    rw [Bool.and_eq_true] at this
    obtain ⟨a, ha, -⟩ := inB_ok this.1
    omega)
  rw [nats_length] at h2 h3 h5
  refine ⟨ns, tr, rfl, rfl, ok, h2, h3, fun k hk => ?_, fun k hk => ?_⟩
  · have := h5 k hk
    unfold goesB at this
    rw [Bool.and_eq_true, nats_length, nats_get] at this
    obtain ⟨a, ha, hb⟩ := inB_ok this.1
    omega
  · have := h5 (k + 1) hk
    unfold goesB at this
    rw [Bool.and_eq_true, Bool.or_eq_true, nats_get, Nat.add_sub_cancel, nats_get, nats_get, Int.toNat_natCast, Int.toNat_natCast, bit_nat] at this
    rcases this.2 with h6 | h6
    · simp at h6
    · exact h6
theorem goes_nat {ns tr : List Nat} (h : Tour ns tr) {k : Nat} (hk : k < tr.length) : goesB (nats ns) (nats tr) k = true := by
  unfold goesB
  rw [nats_length, nats_get, inB_yes (h.inn k hk), Bool.true_and]
  cases k with
  | zero => rfl
  | succ k => rw [Nat.add_sub_cancel, nats_get, nats_get, Int.toNat_natCast, Int.toNat_natCast, bit_nat, h.near k hk]; simp
theorem tour_tourB {ns tr : List Nat} (ok : Ok ns) (h : Tour ns tr) : tourB (nats ns) (nats tr) = true :=
  tourB_yes (ok_okB ok) (by rw [nats_length]; exact h.some) (by rw [nats_length]; exact h.few) (fun k hk => goes_nat h (by rw [nats_length] at hk; exact hk))

def climbB (xs ys zs : List Int) : Bool := tourB xs zs && fireB xs 3 ys
def climbOf (xs ys zs : List Int) : Int := if climbB xs ys zs = true then climb (ys.map Int.toNat) (zs.map Int.toNat) else 0
theorem climbB_ok {xs ys zs : List Int} (h : climbB xs ys zs = true) : ∃ ns ks tr, xs = nats ns ∧ ys = nats ks ∧ zs = nats tr ∧ Ok ns ∧ St 3 ks ∧ ks.length = ns.length ∧ Tour ns tr := by
  unfold climbB at h
  rw [Bool.and_eq_true] at h
  obtain ⟨ns, tr, rfl, rfl, ok, ht⟩ := tourB_ok h.1
  obtain ⟨ms, ks, e, rfl, _, st, hl⟩ := fireB3_ok h.2
  have e2 := nats_inj e
  subst e2
  exact ⟨ns, ks, tr, rfl, rfl, rfl, ok, st, hl, ht⟩
theorem climbB_yes {ns ks tr : List Nat} (ok : Ok ns) (st : St 3 ks) (hl : ks.length = ns.length) (ht : Tour ns tr) : climbB (nats ns) (nats ks) (nats tr) = true := by
  unfold climbB; rw [tour_tourB ok ht, fireB3_yes ok st hl]; rfl
theorem climbOf_ok {ns ks tr : List Nat} (ok : Ok ns) (st : St 3 ks) (hl : ks.length = ns.length) (ht : Tour ns tr) : climbOf (nats ns) (nats ks) (nats tr) = climb ks tr := by
  unfold climbOf; rw [climbB_yes ok st hl ht, if_pos rfl, nats_toNat, nats_toNat]
theorem climbOf_no {xs ys zs : List Int} (h : climbB xs ys zs = false) : climbOf xs ys zs = 0 := by unfold climbOf; rw [if_neg (by simp [h])]
theorem climbB_no1 {xs ys zs : List Int} (h : tourB xs zs = false) : climbB xs ys zs = false := by unfold climbB; rw [h, Bool.false_and]
theorem climbB_no2 {xs ys zs : List Int} (h : fireB xs 3 ys = false) : climbB xs ys zs = false := by unfold climbB; rw [h, Bool.and_false]
theorem climb_small {net tr : List Nat} (ht : Tour net tr) (ks : List Nat) : -11 ≤ climb ks tr ∧ climb ks tr ≤ 11 := by
  have h1 := climbTo_bounds ks tr (tr.length - 1)
  have := ht.some
  have := ht.few
  unfold climb
  omega

/-- Which neighbour among the first ones leads to most, and how much that is. -/
def leadTo (f : Nat → Int) (p : Nat → Bool) : Nat → Int × Int
  | 0 => (-1, 0)
  | j + 1 => if (p j && decide ((leadTo f p j).2 < f j)) = true then ((j : Int), f j) else leadTo f p j
theorem leadTo_most (f : Nat → Int) (p : Nat → Bool) : ∀ n, (leadTo f p n).2 = overTo f p 0 n
  | 0 => rfl
  | n + 1 => by
    have ih := leadTo_most f p n
    rw [leadTo, overTo]
    cases hp : p n
    · simp [ih]
    · by_cases h : (leadTo f p n).2 < f n
      · rw [decide_eq_true h]; simp; omega
      · rw [decide_eq_false h]; simp; omega
theorem leadTo_first (f : Nat → Int) (p : Nat → Bool) : ∀ n, ((leadTo f p n).2 = 0 ∧ (leadTo f p n).1 = -1) ∨
    ∃ j, j < n ∧ (leadTo f p n).1 = (j : Int) ∧ p j = true ∧ f j = (leadTo f p n).2 ∧ 0 < f j ∧ ∀ i, i < j → p i = true → f i < f j
  | 0 => .inl ⟨rfl, rfl⟩
  | n + 1 => by
    have ih := leadTo_first f p n
    have h0 := overTo_ge f p 0 n
    rw [← leadTo_most] at h0
    rw [leadTo]
    by_cases h : (p n && decide ((leadTo f p n).2 < f n)) = true
    · rw [if_pos h]
      rw [Bool.and_eq_true, decide_eq_true_eq] at h
      right
      refine ⟨n, by omega, rfl, h.1, rfl, by omega, fun i hi hp => ?_⟩
      have := h0.2 i hi hp
      omega
    · rw [if_neg h]
      rcases ih with ih | ⟨j, h1, h2, h3, h4, h5, h6⟩
      · exact .inl ih
      · exact .inr ⟨j, by omega, h2, h3, h4, h5, h6⟩
theorem leadTo_bounds {f : Nat → Int} {p : Nat → Bool} {b : Int} (hb : 0 ≤ b) (h : ∀ j, f j ≤ b) (n : Nat) : 0 ≤ (leadTo f p n).2 ∧ (leadTo f p n).2 ≤ b := by
  rw [leadTo_most]
  exact ⟨(overTo_ge f p 0 n).1, overTo_le hb n (fun j _ _ => h j)⟩

/-- By way of a neighbour, if so much is climbed from each one behind so many steps. -/
def viaK (net ks : List Nat) (t k j : Nat) : Int := rise (ks.getD k 0) (ks.getD j 0) + (turned net ks j t : Int)
def leadK (net ks : List Nat) (t k : Nat) (j : Nat) : Int × Int := leadTo (viaK net ks t k) (fun j => (net.getD k 0).testBit j) j
theorem viaK_le {net ks : List Nat} (t k j : Nat) : viaK net ks t k j ≤ (t : Int) + 1 := by
  unfold viaK
  have := @rise_hi (ks.getD k 0) (ks.getD j 0)
  have := turned_le net ks j t
  omega
theorem viaK_ge {net ks : List Nat} (t k j : Nat) : -1 ≤ viaK net ks t k j := by
  unfold viaK
  have := @rise_lo (ks.getD k 0) (ks.getD j 0)
  omega
/-- The most by way of a neighbour is what the node turns in one step more. -/
theorem via_turned {net ks : List Nat} (ok : Ok net) (h : St 3 ks) (hl : ks.length = net.length) {k : Nat} (hk : k < ks.length) (t : Nat) :
    overTo (viaK net ks t k) (fun j => (net.getD k 0).testBit j) 0 ks.length = (turned net ks k (t + 1) : Int) := by
  apply Int.le_antisymm
  · exact overTo_le (by omega) _ fun j hj hp => turned_ge ok h hl hk hj hp t
  · obtain ⟨h1, h2⟩ := overTo_ge (viaK net ks t k) (fun j => (net.getD k 0).testBit j) 0 ks.length
    obtain ⟨f, hf⟩ : ∃ f, f = fewestT net ks k (t + 1) := ⟨_, rfl⟩
    have h3 := fewestT_same net ks k (t + 1)
    have h4 := fewestT_le net ks k (t + 1)
    rw [← hf] at h3 h4
    cases f with
    | zero => rw [← h3]; exact h1
    | succ r =>
      obtain ⟨j, hj, hb, he⟩ := turned_some ok h hl hk (fewestT_pull net ks k (t + 1) r hf.symm)
      have h5 := h2 j hj hb
      have h6 := turned_le_of net ks j (s := r) (t := t) (by omega)
      unfold viaK at h5 ⊢
      rw [← h3]
      omega
theorem lead_most {net ks : List Nat} (ok : Ok net) (h : St 3 ks) (hl : ks.length = net.length) {k : Nat} (hk : k < ks.length) (t : Nat) : (leadK net ks t k ks.length).2 = (turned net ks k (t + 1) : Int) := by
  unfold leadK
  rw [leadTo_most, via_turned ok h hl hk]
theorem nextOf_first {net ks : List Nat} (ok : Ok net) (h : St 3 ks) (hl : ks.length = net.length) {k : Nat} (hk : k < ks.length) {t : Nat} (e : pullB net (turns net ks t) k = true) {j : Nat} (hj : j < nextOf net ks t k) (hp : (net.getD k 0).testBit j = true) :
    viaK net ks t k j ≠ (turned net ks k (t + 1) : Int) := fun e2 => by
  have hlt := (nextOf_good ok h hl hk e).1
  have h5 : ((List.range ks.length).find? fun j => (net.getD k 0).testBit j && decide (rise (ks.getD k 0) (ks.getD j 0) + (turned net ks j t : Int) = (turned net ks k (t + 1) : Int))) = some (nextOf net ks t k) := by
    cases hf : (List.range ks.length).find? fun j => (net.getD k 0).testBit j && decide (rise (ks.getD k 0) (ks.getD j 0) + (turned net ks j t : Int) = (turned net ks k (t + 1) : Int)) with
    | none =>
      have := List.find?_eq_none.1 hf j (List.mem_range.2 (by omega))
      simp only [hp, Bool.true_and] at this
      exact absurd (decide_eq_true e2) this
    | some i => unfold nextOf; rw [hf]; rfl
  rw [List.find?_range_eq_some] at h5
  have h6 := h5.2.2 j hj
  simp only [hp, Bool.true_and] at h6
  have h7 : viaK net ks t k j = (turned net ks k (t + 1) : Int) := e2
  unfold viaK at h7
  rw [decide_eq_true h7] at h6
  simp at h6
/-- By way of the first one that leads to most a tour goes on. -/
theorem lead_next {net ks : List Nat} (ok : Ok net) (h : St 3 ks) (hl : ks.length = net.length) {k : Nat} (hk : k < ks.length) {t : Nat} (e : pullB net (turns net ks t) k = true) :
    (leadK net ks t k ks.length).1 = (nextOf net ks t k : Int) := by
  have h1 := lead_most ok h hl hk t
  have h2 : 0 < turned net ks k (t + 1) := by rw [turned, if_pos e]; omega
  unfold leadK at h1 ⊢
  rcases leadTo_first (viaK net ks t k) (fun j => (net.getD k 0).testBit j) ks.length with h3 | ⟨j, hj, e1, hp, e2, hpos, hfirst⟩
  · omega
  · rw [e1]
    obtain ⟨g1, g2, g3⟩ := nextOf_good ok h hl hk e
    rw [h1] at e2
    have hx : ¬ nextOf net ks t k < j := fun hlt => by
      have h5 := hfirst _ hlt g2
      have h6 : viaK net ks t k (nextOf net ks t k) = (turned net ks k (t + 1) : Int) := g3
      omega
    have hy : ¬ j < nextOf net ks t k := fun hlt => nextOf_first ok h hl hk e hlt hp e2
    omega
/-- How a best tour goes on. -/
theorem bestFrom_next {net ks : List Nat} (ok : Ok net) (h : St 3 ks) (hl : ks.length = net.length) : ∀ (t k : Nat), k < ks.length → (∀ s, t = s + 1 → pullB net (turns net ks s) k = true) →
    ∀ i, i < t → (bestFrom net ks t k).getD i 0 < ks.length ∧ pullB net (turns net ks (t - 1 - i)) ((bestFrom net ks t k).getD i 0) = true ∧ (bestFrom net ks t k).getD (i + 1) 0 = nextOf net ks (t - 1 - i) ((bestFrom net ks t k).getD i 0)
  | 0, _, _, _, _, hi => absurd hi (by omega)
  | t + 1, k, hk, hp, i, hi => by
    have e := hp t rfl
    obtain ⟨h1, h2, h3⟩ := nextOf_good ok h hl hk e
    cases i with
    | zero =>
      have hh := bestFrom_head net ks t (nextOf net ks t k)
      rw [bestFrom]
      refine ⟨hk, ?_, ?_⟩
      · simpa using e
      · simpa using hh
    | succ i =>
      have ih := bestFrom_next ok h hl t (nextOf net ks t k) h1 (fun s hs => by subst hs; exact nextOf_turns ok h hl hk e) i (by omega)
      rw [bestFrom, show t + 1 - 1 - (i + 1) = t - 1 - i by omega]
      simpa using ih
theorem best_next {net ks : List Nat} (ok : Ok net) (h : St 3 ks) (hl : ks.length = net.length) {k : Nat} (hk : k < ks.length) (t : Nat) {i : Nat} (hi : i < fewestT net ks k t) :
    (best net ks k t).getD i 0 < ks.length ∧ (best net ks k t).getD (i + 1) 0 = nextOf net ks (fewestT net ks k t - 1 - i) ((best net ks k t).getD i 0) ∧ pullB net (turns net ks (fewestT net ks k t - 1 - i)) ((best net ks k t).getD i 0) = true := by
  have h1 := bestFrom_next ok h hl (fewestT net ks k t) k hk (fun s hs => fewestT_pull net ks k t s hs) i hi
  exact ⟨h1.1, h1.2.2, h1.2.1⟩
/-- With as many steps as a node turns for the first time so often no fewer do. -/
theorem fewest_find (net ks : List Nat) (k t : Nat) {s : Nat} (hs : s ≤ fewestT net ks k t) : turned net ks k s = turned net ks k t ↔ s = fewestT net ks k t := by
  constructor
  · intro e
    apply Classical.byContradiction
    intro hne
    have := fewestT_least net ks k t (s := s) (by omega)
    omega
  · intro e
    rw [e, fewestT_same]

def bestOf (xs ys : List Int) (node steps : Int) : List Int :=
  if (fireB xs 3 ys && inB xs.length node && decide (0 ≤ steps ∧ steps ≤ 11)) = true then nats (best (xs.map Int.toNat) (ys.map Int.toNat) node.toNat steps.toNat) else []
theorem bestOf_ok {ns ks : List Nat} (ok : Ok ns) (st : St 3 ks) (hl : ks.length = ns.length) {k t : Nat} (hk : k < ks.length) (ht : t ≤ 11) : bestOf (nats ns) (nats ks) (k : Int) (t : Int) = nats (best ns ks k t) := by
  unfold bestOf
  rw [fireB3_yes ok st hl, nats_length, inB_yes (by omega), decide_eq_true (show 0 ≤ (t : Int) ∧ (t : Int) ≤ 11 by omega), Bool.true_and, Bool.true_and, if_pos rfl, nats_toNat, nats_toNat, Int.toNat_natCast, Int.toNat_natCast]
theorem bestOf_no1 {xs ys : List Int} {node steps : Int} (h : fireB xs 3 ys = false) : bestOf xs ys node steps = [] := by unfold bestOf; rw [h, Bool.false_and, Bool.false_and, if_neg (by simp)]
theorem bestOf_no2 {xs ys : List Int} {node steps : Int} (h : inB xs.length node = false) : bestOf xs ys node steps = [] := by unfold bestOf; rw [h, Bool.and_false, Bool.false_and, if_neg (by simp)]
theorem bestOf_no3 {xs ys : List Int} {node steps : Int} (h : ¬ (0 ≤ steps ∧ steps ≤ 11)) : bestOf xs ys node steps = [] := by unfold bestOf; rw [decide_eq_false h, Bool.and_false, if_neg (by simp)]
theorem bestOf_small (xs ys : List Int) (node steps : Int) : (bestOf xs ys node steps).length ≤ 12 := by
  cases h : fireB xs 3 ys
  · rw [bestOf_no1 h]; simp
  · cases h2 : inB xs.length node
    · rw [bestOf_no2 h2]; simp
    · by_cases h3 : 0 ≤ steps ∧ steps ≤ 11
      · obtain ⟨ns, ks, rfl, rfl, ok, st, hl⟩ := fireB3_ok h
        obtain ⟨k, rfl, hk⟩ := inB_ok h2
        obtain ⟨t, rfl⟩ := Int.eq_ofNat_of_zero_le h3.1
        rw [nats_length] at hk
        rw [bestOf_ok ok st hl (by omega) (by omega), nats_length, best_length]
        have := fewestT_le ns ks k t
        omega
      · rw [bestOf_no3 h3]; simp

end Nt
end Go.Proofs.Ytllbdhfckdljgaa
