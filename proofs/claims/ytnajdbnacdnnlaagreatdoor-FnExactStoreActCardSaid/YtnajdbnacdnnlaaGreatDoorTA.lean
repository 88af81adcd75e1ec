/-
  Plain mathematics of turning wheels: turns, runs, how often nodes turn; rises, and what tours climb.
  Plain mathematics: what the functions of turning wheels answer, whatever comes in.
-/
import Derived.Test.YtnajdbnacdnnlaaGreatDoorPA
namespace Go.Proofs.YtnajdbnacdnnlaaGreatDoor
namespace Nt

theorem ext_getD {l r : List Nat} (hl : l.length = r.length) (h : ∀ k, k < l.length → l.getD k 0 = r.getD k 0) : l = r := by
  apply List.ext_getElem hl
  intro i h1 h2
  have := h i h1
  simpa [List.getD_eq_getElem?_getD, List.getElem?_eq_getElem h1, List.getElem?_eq_getElem h2] using this

/-- Whether a neighbour of a node has the next kind. -/
def pullB (net ks : List Nat) (k : Nat) : Bool := (List.range ks.length).any fun j => (net.getD k 0).testBit j && decide (ks.getD j 0 = (ks.getD k 0 + 1) % 3)
theorem pullB_iff {net ks : List Nat} {k : Nat} : pullB net ks k = true ↔ ∃ j, j < ks.length ∧ (net.getD k 0).testBit j = true ∧ ks.getD j 0 = (ks.getD k 0 + 1) % 3 := by
  unfold pullB
  rw [List.any_eq_true]
  constructor
  · rintro ⟨j, hj, h⟩
    rw [Bool.and_eq_true, decide_eq_true_eq] at h
    exact ⟨j, List.mem_range.1 hj, h.1, h.2⟩
  · rintro ⟨j, hj, h1, h2⟩
    exact ⟨j, List.mem_range.2 hj, by rw [Bool.and_eq_true, decide_eq_true_eq]; exact ⟨h1, h2⟩⟩
def turnK (x : Nat) (b : Bool) : Nat := if b then (x + 1) % 3 else x
theorem turnK_lt {x : Nat} (h : x < 3) (b : Bool) : turnK x b < 3 := by
  unfold turnK
  split <;> omega
theorem turnK_eq {x : Nat} (_h : x < 3) (b : Bool) : turnK x b = x ↔ b = false := by
  unfold turnK
  cases b
  · simp
  · simp only [if_true]
    constructor
    · intro e; omega
    · intro e; cases e

/-- A state after a turn. -/
def turn (net ks : List Nat) : List Nat := (List.range ks.length).map fun k => turnK (ks.getD k 0) (pullB net ks k)
theorem turn_length (net ks : List Nat) : (turn net ks).length = ks.length := by simp [turn]
theorem turn_get (net ks : List Nat) {k : Nat} (h : k < ks.length) : (turn net ks).getD k 0 = turnK (ks.getD k 0) (pullB net ks k) := by
  simp [turn, List.getD_eq_getElem?_getD, h]
theorem turn_st (net : List Nat) {ks : List Nat} (h : St 3 ks) : St 3 (turn net ks) :=
  ⟨h.c3, h.c5, by rw [turn_length]; exact h.some, by rw [turn_length]; exact h.few, fun k hk => by
    rw [turn_length] at hk
    rw [turn_get net ks hk]
    exact turnK_lt (h.lt k hk) _⟩

/-- A state after so many turns. -/
def turns (net ks : List Nat) : Nat → List Nat
  | 0 => ks
  | t + 1 => turn net (turns net ks t)
theorem turns_length (net ks : List Nat) : ∀ t, (turns net ks t).length = ks.length
  | 0 => rfl
  | t + 1 => by rw [turns, turn_length, turns_length net ks t]
theorem turns_st (net : List Nat) {ks : List Nat} (h : St 3 ks) : ∀ t, St 3 (turns net ks t)
  | 0 => h
  | t + 1 => turn_st net (turns_st net h t)
theorem turns_add (net ks : List Nat) (a : Nat) : ∀ b, turns net ks (a + b) = turns net (turns net ks a) b
  | 0 => rfl
  | b + 1 => by
    show turn net (turns net ks (a + b)) = turn net (turns net (turns net ks a) b)
    rw [turns_add net ks a b]
theorem turns_one (net ks : List Nat) (t : Nat) : turns net (turn net ks) t = turns net ks (t + 1) := by
  rw [Nat.add_comm, turns_add]; rfl
theorem turns_still {net ks : List Nat} (e : turn net ks = ks) : ∀ t, turns net ks t = ks
  | 0 => rfl
  | t + 1 => by rw [turns, turns_still e t, e]

/-- Raised kinds turn alike. -/
theorem turn_raised {net ks : List Nat} (h : St 3 ks) : turn net (raised 3 ks) = raised 3 (turn net ks) := by
  refine ext_getD (by rw [turn_length, raised_length, raised_length, turn_length]) fun k hk => ?_
  rw [turn_length, raised_length] at hk
  rw [turn_get net (raised 3 ks) (by rw [raised_length]; exact hk), raised_get 3 (turn net ks) k (by rw [turn_length]; exact hk), turn_get net ks hk, raised_get 3 ks k hk]
  have e : pullB net (raised 3 ks) k = pullB net ks k := by
    apply bool_eq
    rw [pullB_iff, pullB_iff, raised_length]
    constructor
    · rintro ⟨j, hj, hb, he⟩
      rw [raised_get _ _ _ hj, raised_get _ _ _ hk] at he
      have := h.lt j hj
      have := h.lt k hk
      exact ⟨j, hj, hb, by omega⟩
    · rintro ⟨j, hj, hb, he⟩
      refine ⟨j, hj, hb, ?_⟩
      rw [raised_get _ _ _ hj, raised_get _ _ _ hk, he]
  rw [e]
  unfold turnK
  split <;> rfl
theorem turns_raised {net ks : List Nat} (h : St 3 ks) : ∀ t, turns net (raised 3 ks) t = raised 3 (turns net ks t)
  | 0 => rfl
  | t + 1 => by rw [turns, turns_raised h t, turn_raised (turns_st net h t)]; rfl
theorem raised_inj {ks ls : List Nat} (h : St 3 ks) (k : St 3 ls) (e : raised 3 ks = raised 3 ls) : ks = ls := by
  have hl : ks.length = ls.length := by rw [← raised_length 3 ks, e, raised_length]
  refine ext_getD hl fun i hi => ?_
  have h1 : (raised 3 ks).getD i 0 = (raised 3 ls).getD i 0 := by rw [e]
  rw [raised_get _ _ _ hi, raised_get _ _ _ (by omega)] at h1
  have := h.lt i hi
  have := k.lt i (by omega)
  omega
/-- A state of one kind alone stays. -/
theorem turn_same {net ks : List Nat} (h : St 3 ks) (e : ∀ k, k < ks.length → ks.getD k 0 = ks.getD 0 0) : turn net ks = ks := by
  refine ext_getD (turn_length _ _) fun k hk => ?_
  rw [turn_length] at hk
  rw [turn_get _ _ hk, turnK_eq (h.lt k hk)]
  cases hp : pullB net ks k
  · rfl
  · obtain ⟨j, hj, -, he⟩ := pullB_iff.1 hp
    have h1 := e k hk
    have h2 := e j hj
    have := h.lt k hk
    omega

/-- Renamed nets turn as before. -/
theorem turn_named {ns os ks : List Nat} (h : Ord ns.length os) (hl : ks.length = ns.length) : turn (named ns os) (namedSt ks os) = namedSt (turn ns ks) os := by
  have h1 : Ord ks.length os := by rw [hl]; exact h
  have h2 : Ord (turn ns ks).length os := by rw [turn_length]; exact h1
  refine ext_ord h1 (by rw [turn_length, namedSt_length]) (by rw [namedSt_length, turn_length]) fun k hk => ?_
  rw [namedSt_get h2 (by rw [turn_length]; exact hk), turn_get _ _ hk, turn_get _ _ (by rw [namedSt_length]; exact h1.lt k hk), namedSt_get h1 hk]
  congr 1
  apply bool_eq
  rw [pullB_iff, pullB_iff, namedSt_length]
  constructor
  · rintro ⟨j, hj, hb, hf⟩
    obtain ⟨l, hl2, rfl⟩ := h1.surj hj
    rw [named_get h (by rw [← hl]; exact hk), nset_bit h _ (by rw [← hl]; exact hl2)] at hb
    rw [namedSt_get h1 hl2, namedSt_get h1 hk] at hf
    exact ⟨l, hl2, hb, hf⟩
  · rintro ⟨l, hl2, hb, hf⟩
    refine ⟨os.getD l 0, h1.lt l hl2, ?_, ?_⟩
    · rw [named_get h (by rw [← hl]; exact hk), nset_bit h _ (by rw [← hl]; exact hl2)]; exact hb
    · rw [namedSt_get h1 hl2, namedSt_get h1 hk]; exact hf

/-- How often a node turns in so many turns. -/
def turned (net ks : List Nat) (k : Nat) : Nat → Nat
  | 0 => 0
  | t + 1 => turned net ks k t + if pullB net (turns net ks t) k = true then 1 else 0
theorem turned_le (net ks : List Nat) (k : Nat) : ∀ t, turned net ks k t ≤ t
  | 0 => Nat.le_refl _
  | t + 1 => by
    have := turned_le net ks k t
    rw [turned]
    split <;> omega
theorem turned_add (net ks : List Nat) (k a : Nat) : ∀ b, turned net ks k (a + b) = turned net ks k a + turned net (turns net ks a) k b
  | 0 => rfl
  | b + 1 => by
    have ih := turned_add net ks k a b
    show turned net ks k (a + b) + (if pullB net (turns net ks (a + b)) k = true then 1 else 0) = _
    rw [ih, turns_add, turned]
    omega
/-- A node turns exactly if its kind changes. -/
theorem pull_changes {net ks : List Nat} (h : St 3 ks) {k : Nat} (hk : k < ks.length) : (turn net ks).getD k 0 ≠ ks.getD k 0 ↔ pullB net ks k = true := by
  rw [turn_get _ _ hk, Ne, turnK_eq (h.lt k hk)]
  cases pullB net ks k <;> simp
/-- Counted turns tell the state. -/
theorem turns_get {net ks : List Nat} (h : St 3 ks) {k : Nat} (hk : k < ks.length) : ∀ t, (turns net ks t).getD k 0 = (ks.getD k 0 + turned net ks k t) % 3
  | 0 => by
    show ks.getD k 0 = (ks.getD k 0 + 0) % 3
    have := h.lt k hk
    omega
  | t + 1 => by
    have ih := turns_get (net := net) h hk t
    rw [turns, turn_get _ _ (by rw [turns_length]; exact hk), turned, ih]
    unfold turnK
    split <;> omega
/-- It is still exactly if no node turns. -/
theorem still_iff {net ks : List Nat} (h : St 3 ks) : turn net ks = ks ↔ ∀ k, k < ks.length → turned net ks k 1 = 0 := by
  constructor
  · intro e k hk
    have h1 : ¬ pullB net ks k = true := fun hp => (pull_changes h hk).2 hp (by rw [e])
    show 0 + (if pullB net ks k = true then 1 else 0) = 0
    rw [if_neg h1]
  · intro e
    refine ext_getD (turn_length _ _) fun k hk => ?_
    rw [turn_length] at hk
    have h1 : 0 + (if pullB net ks k = true then 1 else 0) = 0 := e k hk
    apply Classical.byContradiction
    intro hne
    rw [if_pos ((pull_changes h hk).1 hne)] at h1
    omega

/-- Turns come to a loop. -/
theorem turns_tells (net ks : List Nat) : Tells (turns net ks) := fun a b e => by
  show turn net (turns net ks a) = turn net (turns net ks b)
  rw [e]
theorem turns_loop (net : List Nat) {ks : List Nat} (h : St 3 ks) : ∃ m l, IsLoop (turns net ks) m l ∧ m + l ≤ 3 ^ ks.length := by
  obtain ⟨i, j, hij, hj, e⟩ := two_same (f := fun t => num 3 (turns net ks t)) (N := 3 ^ ks.length) (fun t => by
    have := num_lt (turns_st net h t).mem
    rwa [turns_length] at this)
  obtain ⟨m, l, hl, hb⟩ := loop_of (turns_tells net ks) hij (num_inj (turns_st net h i) (turns_st net h j) (by rw [turns_length, turns_length]) e)
  exact ⟨m, l, hl, by omega⟩
theorem loop_raised {net ks : List Nat} (h : St 3 ks) {m l : Nat} (hl : IsLoop (turns net ks) m l) : IsLoop (turns net (raised 3 ks)) m l := by
  have key : ∀ a b, turns net (raised 3 ks) a = turns net (raised 3 ks) b ↔ turns net ks a = turns net ks b := fun a b => by
    rw [turns_raised h, turns_raised h]
    exact ⟨fun e => raised_inj (turns_st net h a) (turns_st net h b) e, fun e => by rw [e]⟩
  exact ⟨hl.pos, (key _ _).2 hl.back, fun a b hab e => hl.first a b hab ((key _ _).1 e), fun k h1 h2 e => hl.least k h1 h2 ((key _ _).1 e)⟩
theorem loop_still {net ks : List Nat} {m l : Nat} (hl : IsLoop (turns net ks) m l) : turn net (turns net ks m) = turns net ks m ↔ l = 1 := by
  constructor
  · intro e
    have h1 : turns net ks (m + 1) = turns net ks m := e
    have h2 := (hl.meets (turns_tells net ks) (a := m) (d := 1) (by omega)).1 h1
    have := hl.pos
    apply Classical.byContradiction
    intro hne
    have h3 := h2.2
    rw [Nat.mod_eq_of_lt (by omega)] at h3
    omega
  · intro e
    have h1 := hl.back
    rw [e] at h1
    exact h1

/-- How much one climbs from a kind to another one. -/
def rise (x y : Nat) : Int := ((y : Int) - (x : Int) + 4) % 3 - 1
theorem rise_lo {x y : Nat} : -1 ≤ rise x y := by unfold rise; omega
theorem rise_hi {x y : Nat} : rise x y ≤ 1 := by unfold rise; omega
theorem rise_back {x y : Nat} : rise y x = - rise x y := by unfold rise; omega
theorem rise_raised {x y : Nat} : rise ((x + 1) % 3) ((y + 1) % 3) = rise x y := by unfold rise; omega
theorem rise_one {x y : Nat} (hy : y < 3) : rise x y = 1 ↔ y = (x + 1) % 3 := by unfold rise; omega
theorem rise_zero {x y : Nat} (hx : x < 3) (hy : y < 3) : rise x y = 0 ↔ x = y := by unfold rise; omega
theorem rise_down {x y : Nat} (hx : x < 3) : rise x y = -1 ↔ x = (y + 1) % 3 := by unfold rise; omega
theorem rise_round {x y z : Nat} (hx : x < 3) (hy : y < 3) (hz : z < 3) : (rise x y + rise y z + rise z x = 0 ∨ rise x y + rise y z + rise z x = 3 ∨ rise x y + rise y z + rise z x = -3) ∧ (rise x y + rise y z + rise z x = 0 ↔ x = y ∨ y = z ∨ x = z) := by
  unfold rise
  constructor <;> omega

/-- What neighbours have turned more is what the rise between them has changed. -/
theorem rise_turned {net ks : List Nat} (ok : Ok net) (h : St 3 ks) (hl : ks.length = net.length) {k j : Nat} (hk : k < ks.length) (hj : j < ks.length) (hb : (net.getD k 0).testBit j = true) : ∀ t,
    rise ((turns net ks t).getD k 0) ((turns net ks t).getD j 0) = rise (ks.getD k 0) (ks.getD j 0) + (turned net ks j t : Int) - (turned net ks k t : Int)
  | 0 => by show _ = _ + ((0 : Nat) : Int) - ((0 : Nat) : Int); simp [turns]
  | t + 1 => by
    have ih := rise_turned ok h hl hk hj hb t
    have st := turns_st net h t
    have hk1 : k < (turns net ks t).length := by rw [turns_length]; exact hk
    have hj1 : j < (turns net ks t).length := by rw [turns_length]; exact hj
    have hx := st.lt k hk1
    have hy := st.lt j hj1
    have hb2 : (net.getD j 0).testBit k = true := by rw [ok.both j k (by omega) (by omega)]; exact hb
    have p1 : (turns net ks t).getD j 0 = ((turns net ks t).getD k 0 + 1) % 3 → pullB net (turns net ks t) k = true := fun e => pullB_iff.2 ⟨j, hj1, hb, e⟩
    have p2 : (turns net ks t).getD k 0 = ((turns net ks t).getD j 0 + 1) % 3 → pullB net (turns net ks t) j = true := fun e => pullB_iff.2 ⟨k, hk1, hb2, e⟩
    rw [turns, turn_get _ _ hk1, turn_get _ _ hj1, turned, turned]
    generalize pullB net (turns net ks t) k = a at *
    generalize pullB net (turns net ks t) j = b at *
    generalize (turns net ks t).getD k 0 = x at *
    generalize (turns net ks t).getD j 0 = y at *
    generalize turned net ks k t = u at *
    generalize turned net ks j t = v at *
    generalize rise (ks.getD k 0) (ks.getD j 0) = r at *
    unfold rise at *
    unfold turnK
    cases a <;> cases b <;> simp only [if_true, Bool.false_eq_true, if_false, imp_false, Nat.add_zero, implies_true] at * <;> omega
/-- Of two neighbours none has turned more than two times more often. -/
theorem turned_near {net ks : List Nat} (ok : Ok net) (h : St 3 ks) (hl : ks.length = net.length) {k j : Nat} (hk : k < ks.length) (hj : j < ks.length) (hb : (net.getD k 0).testBit j = true) (t : Nat) : turned net ks j t ≤ turned net ks k t + 2 := by
  have h1 := rise_turned ok h hl hk hj hb t
  have h2 := @rise_hi ((turns net ks t).getD k 0) ((turns net ks t).getD j 0)
  have h3 := @rise_lo (ks.getD k 0) (ks.getD j 0)
  omega

end Nt
end Go.Proofs.YtnajdbnacdnnlaaGreatDoor

namespace Go.Proofs.YtnajdbnacdnnlaaGreatDoor
namespace Nt

theorem fireB3_ok {xs ys : List Int} (h : fireB xs 3 ys = true) : ∃ ns ks, xs = nats ns ∧ ys = nats ks ∧ Ok ns ∧ St 3 ks ∧ ks.length = ns.length := by
  obtain ⟨ns, c, ks, h1, h2, h3, h4, h5, h6⟩ := fireB_ok h
  have e : c = 3 := by omega
  subst e
  exact ⟨ns, ks, h1, h3, h4, h5, h6⟩
theorem fireB3_yes {ns ks : List Nat} (ok : Ok ns) (st : St 3 ks) (hl : ks.length = ns.length) : fireB (nats ns) 3 (nats ks) = true := fireB_yes ok st hl

def turnOf (xs ys : List Int) : List Int := if fireB xs 3 ys = true then nats (turn (xs.map Int.toNat) (ys.map Int.toNat)) else []
theorem turnOf_ok {ns ks : List Nat} (ok : Ok ns) (st : St 3 ks) (hl : ks.length = ns.length) : turnOf (nats ns) (nats ks) = nats (turn ns ks) := by
  unfold turnOf; rw [if_pos (fireB3_yes ok st hl), nats_toNat, nats_toNat]
theorem turnOf_no {xs ys : List Int} (h : fireB xs 3 ys = false) : turnOf xs ys = [] := by unfold turnOf; rw [if_neg (by simp [h])]
theorem turnOf_small (xs ys : List Int) : (turnOf xs ys).length ≤ 2000000 := by
  cases h : fireB xs 3 ys
  · rw [turnOf_no h]; simp
  · obtain ⟨ns, ks, rfl, rfl, ok, st, hl⟩ := fireB3_ok h
    rw [turnOf_ok ok st hl, nats_length, turn_length]; exact st_small st.few

def trunOf (xs ys : List Int) (steps : Int) : List Int :=
  if (fireB xs 3 ys && stepsB steps) = true then nats (turns (xs.map Int.toNat) (ys.map Int.toNat) steps.toNat) else []
theorem trunOf_ok {ns ks : List Nat} {t : Nat} (ok : Ok ns) (st : St 3 ks) (hl : ks.length = ns.length) (ht : t ≤ 60) : trunOf (nats ns) (nats ks) (t : Int) = nats (turns ns ks t) := by
  unfold trunOf; rw [fireB3_yes ok st hl, stepsB_yes ht, Bool.true_and, if_pos rfl, nats_toNat, nats_toNat, Int.toNat_natCast]
theorem trunOf_no1 {xs ys : List Int} {steps : Int} (h : fireB xs 3 ys = false) : trunOf xs ys steps = [] := by unfold trunOf; rw [h, Bool.false_and, if_neg (by simp)]
theorem trunOf_no2 {xs ys : List Int} {steps : Int} (h : stepsB steps = false) : trunOf xs ys steps = [] := by unfold trunOf; rw [h, Bool.and_false, if_neg (by simp)]
theorem trunOf_small (xs ys : List Int) (steps : Int) : (trunOf xs ys steps).length ≤ 2000000 := by
  cases h : fireB xs 3 ys
  · rw [trunOf_no1 h]; simp
  · cases h2 : stepsB steps
    · rw [trunOf_no2 h2]; simp
    · obtain ⟨ns, ks, rfl, rfl, ok, st, hl⟩ := fireB3_ok h
      obtain ⟨t, rfl, ht⟩ := stepsB_ok h2
      rw [trunOf_ok ok st hl ht, nats_length, turns_length]; exact st_small st.few

/-- How often each node turns. -/
def turnedL (net ks : List Nat) (t : Nat) : List Nat := (List.range ks.length).map fun k => turned net ks k t
theorem turnedL_length (net ks : List Nat) (t : Nat) : (turnedL net ks t).length = ks.length := by simp [turnedL]
theorem turnedL_get (net ks : List Nat) (t : Nat) {k : Nat} (h : k < ks.length) : (turnedL net ks t).getD k 0 = turned net ks k t := by
  simp [turnedL, List.getD_eq_getElem?_getD, h]
theorem turnedL_zero (net ks : List Nat) : turnedL net ks 0 = List.replicate ks.length 0 := by
  apply List.ext_getElem (by simp [turnedL])
  intro i h1 h2
  simp [turnedL, turned]
theorem turnedL_next {net ks : List Nat} (h : St 3 ks) (t : Nat) {k : Nat} (hk : k < ks.length) :
    (turnedL net ks (t + 1)).getD k 0 = (turnedL net ks t).getD k 0 + if (turns net ks (t + 1)).getD k 0 ≠ (turns net ks t).getD k 0 then 1 else 0 := by
  rw [turnedL_get _ _ _ hk, turnedL_get _ _ _ hk, turned]
  congr 1
  have h1 := pull_changes (net := net) (turns_st net h t) (k := k) (by rw [turns_length]; exact hk)
  have h2 : (turns net ks (t + 1)).getD k 0 ≠ (turns net ks t).getD k 0 ↔ pullB net (turns net ks t) k = true := h1
  by_cases e : pullB net (turns net ks t) k = true
  · rw [if_pos e, if_pos (h2.2 e)]
  · rw [if_neg e, if_neg (fun e2 => e (h2.1 e2))]

def tturnedOf (xs ys : List Int) (steps : Int) : List Int :=
  if (fireB xs 3 ys && stepsB steps) = true then nats (turnedL (xs.map Int.toNat) (ys.map Int.toNat) steps.toNat) else []
theorem tturnedOf_ok {ns ks : List Nat} {t : Nat} (ok : Ok ns) (st : St 3 ks) (hl : ks.length = ns.length) (ht : t ≤ 60) : tturnedOf (nats ns) (nats ks) (t : Int) = nats (turnedL ns ks t) := by
  unfold tturnedOf; rw [fireB3_yes ok st hl, stepsB_yes ht, Bool.true_and, if_pos rfl, nats_toNat, nats_toNat, Int.toNat_natCast]
theorem tturnedOf_no1 {xs ys : List Int} {steps : Int} (h : fireB xs 3 ys = false) : tturnedOf xs ys steps = [] := by unfold tturnedOf; rw [h, Bool.false_and, if_neg (by simp)]
theorem tturnedOf_no2 {xs ys : List Int} {steps : Int} (h : stepsB steps = false) : tturnedOf xs ys steps = [] := by unfold tturnedOf; rw [h, Bool.and_false, if_neg (by simp)]
theorem tturnedOf_small (xs ys : List Int) (steps : Int) : (tturnedOf xs ys steps).length ≤ 2000000 := by
  cases h : fireB xs 3 ys
  · rw [tturnedOf_no1 h]; simp
  · cases h2 : stepsB steps
    · rw [tturnedOf_no2 h2]; simp
    · obtain ⟨ns, ks, rfl, rfl, ok, st, hl⟩ := fireB3_ok h
      obtain ⟨t, rfl, ht⟩ := stepsB_ok h2
      rw [tturnedOf_ok ok st hl ht, nats_length, turnedL_length]; exact st_small st.few

def stillOf (xs ys : List Int) : Bool := fireB xs 3 ys && decide (turn (xs.map Int.toNat) (ys.map Int.toNat) = ys.map Int.toNat)
theorem stillOf_ok {ns ks : List Nat} (ok : Ok ns) (st : St 3 ks) (hl : ks.length = ns.length) : stillOf (nats ns) (nats ks) = decide (turn ns ks = ks) := by
  unfold stillOf; rw [fireB3_yes ok st hl, nats_toNat, nats_toNat, Bool.true_and]
theorem stillOf_no {xs ys : List Int} (h : fireB xs 3 ys = false) : stillOf xs ys = false := by unfold stillOf; rw [h, Bool.false_and]

/-- What TurnLoop answers, whatever comes in. -/
def TLoopIs (xs ys : List Int) (a b : Int) : Prop :=
  (∃ (ns ks : List Nat) (m l : Nat), xs = nats ns ∧ ys = nats ks ∧ Ok ns ∧ St 3 ks ∧ ks.length = ns.length ∧ IsLoop (turns ns ks) m l ∧ m + l ≤ 3 ^ ks.length ∧ a = (m : Int) ∧ b = (l : Int)) ∨
    (fireB xs 3 ys = false ∧ a = -1 ∧ b = -1)
theorem tloopIs_ex (xs ys : List Int) : ∃ a b, TLoopIs xs ys a b := by
  cases h : fireB xs 3 ys
  · exact ⟨-1, -1, .inr ⟨h, rfl, rfl⟩⟩
  · obtain ⟨ns, ks, rfl, rfl, ok, st, hl⟩ := fireB3_ok h
    obtain ⟨m, l, hloop, hb⟩ := turns_loop ns st
    exact ⟨m, l, .inl ⟨ns, ks, m, l, rfl, rfl, ok, st, hl, hloop, hb, rfl, rfl⟩⟩

end Nt
end Go.Proofs.YtnajdbnacdnnlaaGreatDoor
