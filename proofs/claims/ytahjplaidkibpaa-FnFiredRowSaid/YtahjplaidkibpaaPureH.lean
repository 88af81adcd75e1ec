/-
  Plain mathematics: what the functions of firing answer, whatever comes in; rows overwritten from the front.
-/
import Derived.Test.YtahjplaidkibpaaPureG
namespace Go.Proofs.Ytahjplaidkibpaa
namespace Nt

/-- A row overwritten by another one up to k. -/
def mix (new old : List Nat) (k : Nat) : List Nat := new.take k ++ old.drop k
theorem mix_zero (new old : List Nat) : mix new old 0 = old := by simp [mix]
theorem mix_end {new old : List Nat} (h : new.length = old.length) : mix new old old.length = new := by
  unfold mix
  rw [List.drop_length, List.append_nil, ← h, List.take_length]
theorem mix_length {new old : List Nat} (h : new.length = old.length) (k : Nat) : (mix new old k).length = old.length := by
  unfold mix
  rw [List.length_append, List.length_take, List.length_drop]; omega
theorem mix_get {new old : List Nat} (h : new.length = old.length) {k : Nat} (hk : k < old.length) : (mix new old k).getD k 0 = old.getD k 0 := by
  unfold mix
  rw [List.getD_eq_getElem?_getD, List.getD_eq_getElem?_getD, List.getElem?_append_right (by rw [List.length_take]; omega), List.length_take, List.getElem?_drop]
  congr 2
  omega
theorem mix_set {new old : List Nat} (h : new.length = old.length) {k : Nat} (hk : k < old.length) : (mix new old k).set k (new.getD k 0) = mix new old (k + 1) := by
  unfold mix
  have hl : (new.take k).length = k := by rw [List.length_take]; omega
  rw [List.set_append_right _ _ (by omega), hl, Nat.sub_self, List.drop_eq_getElem_cons hk, List.set_cons_zero, List.take_succ_eq_append_getElem (by omega), List.append_assoc]
  congr 1
  simp [List.getD_eq_getElem?_getD, List.getElem?_eq_getElem (show k < new.length by omega)]
theorem mix_keep {new old : List Nat} (h : new.length = old.length) {k : Nat} (hk : k < old.length) (e : new.getD k 0 = old.getD k 0) : mix new old k = mix new old (k + 1) := by
  rw [← mix_set h hk, e, ← mix_get h hk]
  apply List.ext_getElem (by simp)
  intro i h1 h2
  rw [List.getElem_set]
  split
  · rename_i e2
    subst e2
    rw [List.getD_eq_getElem?_getD, List.getElem?_eq_getElem h1]
    rfl
  · rfl

theorem fires_lt (ks : List Nat) : fires ks < 2 ^ ks.length := firesTo_lt ks ks.length
theorem firesTo_small {ks : List Nat} (h6 : ks.length ≤ 6) {k : Nat} (hk : k ≤ ks.length) : firesTo ks k < 64 := by
  have h1 := firesTo_lt ks k
  have h2 := pow_le (show k ≤ 6 by omega)
  omega
/-- The neighbours of the nodes that fire are the nodes that a neighbour of fires. -/
theorem near_fires {ns ks : List Nat} (ok : Ok ns) (hl : ks.length = ns.length) {k : Nat} (hk : k < ks.length) : (near ns (fires ks)).testBit k = litB ns ks k := by
  apply bool_eq
  rw [testBit_near, litB_iff]
  constructor
  · rintro ⟨j, hj, hf, hb⟩
    obtain ⟨h1, h2⟩ := (testBit_firesTo ks j ks.length).1 hf
    exact ⟨j, h1, by rw [ok.both k j (by omega) (by omega)]; exact hb, h2⟩
  · rintro ⟨j, hj, hb, hf⟩
    exact ⟨j, by omega, (testBit_firesTo ks j ks.length).2 ⟨hj, hf⟩, by rw [ok.both j k (by omega) (by omega)]; exact hb⟩

/-- Whether kinds and a state are those of a net. -/
def fireB (xs : List Int) (kinds : Int) (ys : List Int) : Bool := okB xs && stB kinds ys && decide (ys.length = xs.length)
theorem fireB_ok {xs ys : List Int} {kinds : Int} (h : fireB xs kinds ys = true) :
    ∃ ns c ks, xs = nats ns ∧ kinds = ((c : Nat) : Int) ∧ ys = nats ks ∧ Ok ns ∧ St c ks ∧ ks.length = ns.length := by
  unfold fireB at h
  rw [Bool.and_eq_true, Bool.and_eq_true, decide_eq_true_eq] at h
  obtain ⟨⟨h1, h2⟩, h3⟩ := h
  obtain ⟨ns, rfl, hok⟩ := okB_ok h1
  obtain ⟨c, ks, rfl, rfl, hst⟩ := stB_st h2
  exact ⟨ns, c, ks, rfl, rfl, rfl, hok, hst, by rwa [nats_length, nats_length] at h3⟩
theorem fireB_yes {ns ks : List Nat} {c : Nat} (ok : Ok ns) (st : St c ks) (hl : ks.length = ns.length) : fireB (nats ns) (c : Int) (nats ks) = true := by
  unfold fireB
  rw [ok_okB ok, st_stB st, nats_length, nats_length, hl]
  simp
theorem fireB_no1 {xs ys : List Int} {kinds : Int} (h : okB xs = false) : fireB xs kinds ys = false := by unfold fireB; rw [h]; rfl
theorem fireB_no2 {xs ys : List Int} {kinds : Int} (h : stB kinds ys = false) : fireB xs kinds ys = false := by unfold fireB; rw [h]; simp
theorem fireB_no3 {xs ys : List Int} {kinds : Int} (h : ¬ ys.length = xs.length) : fireB xs kinds ys = false := by unfold fireB; rw [decide_eq_false h]; simp
theorem fireB_all {xs ys : List Int} {kinds : Int} (h1 : okB xs = true) (h2 : stB kinds ys = true) (h3 : ys.length = xs.length) : fireB xs kinds ys = true := by
  unfold fireB; rw [h1, h2, decide_eq_true h3]; rfl

def stepOf (xs : List Int) (kinds : Int) (ys : List Int) : List Int := if fireB xs kinds ys = true then nats (step (xs.map Int.toNat) kinds.toNat (ys.map Int.toNat)) else []
theorem stepOf_ok {ns ks : List Nat} {c : Nat} (ok : Ok ns) (st : St c ks) (hl : ks.length = ns.length) : stepOf (nats ns) (c : Int) (nats ks) = nats (step ns c ks) := by
  unfold stepOf; rw [if_pos (fireB_yes ok st hl), nats_toNat, nats_toNat, Int.toNat_natCast]
theorem stepOf_no {xs ys : List Int} {kinds : Int} (h : fireB xs kinds ys = false) : stepOf xs kinds ys = [] := by unfold stepOf; rw [if_neg (by simp [h])]
theorem st_small {n : Nat} (h : n ≤ 6) : n ≤ 2000000 := by omega
theorem stepOf_small (xs ys : List Int) (kinds : Int) : (stepOf xs kinds ys).length ≤ 2000000 := by
  cases h : fireB xs kinds ys
  · rw [stepOf_no h]; simp
  · obtain ⟨ns, c, ks, rfl, rfl, rfl, ok, st, hl⟩ := fireB_ok h
    rw [stepOf_ok ok st hl, nats_length, step_length]; exact st_small st.few

def stepsB (steps : Int) : Bool := decide (0 ≤ steps ∧ steps ≤ 60)
theorem stepsB_ok {steps : Int} (h : stepsB steps = true) : ∃ t : Nat, steps = (t : Int) ∧ t ≤ 60 := by
  unfold stepsB at h
  rw [decide_eq_true_eq] at h
  exact ⟨steps.toNat, by omega, by omega⟩
theorem stepsB_yes {t : Nat} (h : t ≤ 60) : stepsB (t : Int) = true := by unfold stepsB; exact decide_eq_true (by omega)

def runOf (xs : List Int) (kinds : Int) (ys : List Int) (steps : Int) : List Int :=
  if (fireB xs kinds ys && stepsB steps) = true then nats (run (xs.map Int.toNat) kinds.toNat (ys.map Int.toNat) steps.toNat) else []
theorem runOf_ok {ns ks : List Nat} {c t : Nat} (ok : Ok ns) (st : St c ks) (hl : ks.length = ns.length) (ht : t ≤ 60) : runOf (nats ns) (c : Int) (nats ks) (t : Int) = nats (run ns c ks t) := by
  unfold runOf; rw [fireB_yes ok st hl, stepsB_yes ht, Bool.true_and, if_pos rfl, nats_toNat, nats_toNat, Int.toNat_natCast, Int.toNat_natCast]
theorem runOf_no1 {xs ys : List Int} {kinds steps : Int} (h : fireB xs kinds ys = false) : runOf xs kinds ys steps = [] := by unfold runOf; rw [h, Bool.false_and, if_neg (by simp)]
theorem runOf_no2 {xs ys : List Int} {kinds steps : Int} (h : stepsB steps = false) : runOf xs kinds ys steps = [] := by unfold runOf; rw [h, Bool.and_false, if_neg (by simp)]
theorem runOf_small (xs ys : List Int) (kinds steps : Int) : (runOf xs kinds ys steps).length ≤ 2000000 := by
  cases h : fireB xs kinds ys
  · rw [runOf_no1 h]; simp
  · cases h2 : stepsB steps
    · rw [runOf_no2 h2]; simp
    · obtain ⟨ns, c, ks, rfl, rfl, rfl, ok, st, hl⟩ := fireB_ok h
      obtain ⟨t, rfl, ht⟩ := stepsB_ok h2
      rw [runOf_ok ok st hl ht, nats_length, run_length]; exact st_small st.few

/-- How often each node fires in so many steps. -/
def firedL (net : List Nat) (c : Nat) (ks : List Nat) (t : Nat) : List Nat := (List.range ks.length).map fun k => fired net c ks k t
theorem firedL_length (net : List Nat) (c : Nat) (ks : List Nat) (t : Nat) : (firedL net c ks t).length = ks.length := by simp [firedL]
theorem firedL_get (net : List Nat) (c : Nat) (ks : List Nat) (t : Nat) {k : Nat} (h : k < ks.length) : (firedL net c ks t).getD k 0 = fired net c ks k t := by
  simp [firedL, List.getD_eq_getElem?_getD, h]
theorem firedL_zero (net : List Nat) (c : Nat) (ks : List Nat) : firedL net c ks 0 = List.replicate ks.length 0 := by
  apply List.ext_getElem (by simp [firedL])
  intro i h1 h2
  simp [firedL, fired]
/-- A row of counts, counted on by a state. -/
def counted (cs ks : List Nat) : List Nat := (List.range cs.length).map fun k => cs.getD k 0 + if ks.getD k 0 = 1 then 1 else 0
theorem counted_length (cs ks : List Nat) : (counted cs ks).length = cs.length := by simp [counted]
theorem counted_get (cs ks : List Nat) {k : Nat} (h : k < cs.length) : (counted cs ks).getD k 0 = cs.getD k 0 + if ks.getD k 0 = 1 then 1 else 0 := by
  simp [counted, List.getD_eq_getElem?_getD, h]
theorem firedL_succ (net : List Nat) (c : Nat) (ks : List Nat) (t : Nat) : counted (firedL net c ks t) (run net c ks (t + 1)) = firedL net c ks (t + 1) := by
  apply List.ext_getElem (by rw [counted_length, firedL_length, firedL_length])
  intro i h1 h2
  have h3 : i < ks.length := by rwa [firedL_length] at h2
  have e1 := counted_get (firedL net c ks t) (run net c ks (t + 1)) (k := i) (by rw [firedL_length]; exact h3)
  rw [firedL_get _ _ _ _ h3] at e1
  have e2 := firedL_get net c ks (t + 1) h3
  rw [List.getD_eq_getElem?_getD, List.getElem?_eq_getElem h1, Option.getD_some] at e1
  rw [List.getD_eq_getElem?_getD, List.getElem?_eq_getElem h2, Option.getD_some] at e2
  rw [e1, e2]
  rfl

def firedOf (xs : List Int) (kinds : Int) (ys : List Int) (steps : Int) : List Int :=
  if (fireB xs kinds ys && stepsB steps) = true then nats (firedL (xs.map Int.toNat) kinds.toNat (ys.map Int.toNat) steps.toNat) else []
theorem firedOf_ok {ns ks : List Nat} {c t : Nat} (ok : Ok ns) (st : St c ks) (hl : ks.length = ns.length) (ht : t ≤ 60) : firedOf (nats ns) (c : Int) (nats ks) (t : Int) = nats (firedL ns c ks t) := by
  unfold firedOf; rw [fireB_yes ok st hl, stepsB_yes ht, Bool.true_and, if_pos rfl, nats_toNat, nats_toNat, Int.toNat_natCast, Int.toNat_natCast]
theorem firedOf_no1 {xs ys : List Int} {kinds steps : Int} (h : fireB xs kinds ys = false) : firedOf xs kinds ys steps = [] := by unfold firedOf; rw [h, Bool.false_and, if_neg (by simp)]
theorem firedOf_no2 {xs ys : List Int} {kinds steps : Int} (h : stepsB steps = false) : firedOf xs kinds ys steps = [] := by unfold firedOf; rw [h, Bool.and_false, if_neg (by simp)]
theorem firedOf_small (xs ys : List Int) (kinds steps : Int) : (firedOf xs kinds ys steps).length ≤ 2000000 := by
  cases h : fireB xs kinds ys
  · rw [firedOf_no1 h]; simp
  · cases h2 : stepsB steps
    · rw [firedOf_no2 h2]; simp
    · obtain ⟨ns, c, ks, rfl, rfl, rfl, ok, st, hl⟩ := fireB_ok h
      obtain ⟨t, rfl, ht⟩ := stepsB_ok h2
      rw [firedOf_ok ok st hl ht, nats_length, firedL_length]; exact st_small st.few

theorem nats_inj {ms ns : List Nat} (h : nats ms = nats ns) : ms = ns := by
  have := congrArg (List.map Int.toNat) h
  rwa [nats_toNat, nats_toNat] at this

/-- What LoopOf answers, whatever comes in. -/
def LoopIs (xs : List Int) (kinds : Int) (ys : List Int) (a b : Int) : Prop :=
  (∃ (ns : List Nat) (c : Nat) (ks : List Nat) (m l : Nat), xs = nats ns ∧ kinds = (c : Int) ∧ ys = nats ks ∧ Ok ns ∧ St c ks ∧ ks.length = ns.length ∧ IsLoop (run ns c ks) m l ∧ m + l ≤ c ^ ks.length ∧ a = (m : Int) ∧ b = (l : Int)) ∨
    (fireB xs kinds ys = false ∧ a = -1 ∧ b = -1)
theorem loopIs_ex (xs : List Int) (kinds : Int) (ys : List Int) : ∃ a b, LoopIs xs kinds ys a b := by
  cases h : fireB xs kinds ys
  · exact ⟨-1, -1, .inr ⟨h, rfl, rfl⟩⟩
  · obtain ⟨ns, c, ks, rfl, rfl, rfl, ok, st, hl⟩ := fireB_ok h
    obtain ⟨m, l, hloop, hb⟩ := run_loop ns st
    exact ⟨m, l, .inl ⟨ns, c, ks, m, l, rfl, rfl, rfl, ok, st, hl, hloop, hb, rfl, rfl⟩⟩
theorem loop_small {c n m l : Nat} (hc : c ≤ 5) (hn : n ≤ 6) (h : m + l ≤ c ^ n) : m + l ≤ 15625 := Nat.le_trans h (pow5_le hc hn)

/-- The first round in which the two runners meet. -/
theorem IsLoop.first_meet {α : Type} {s : Nat → α} {m l : Nat} (h : IsLoop s m l) (t : Tells s) : ∃ i, 1 ≤ i ∧ i ≤ m + l ∧ s i = s (i + i) ∧ ∀ j, 1 ≤ j → j < i → s j ≠ s (j + j) := by
  obtain ⟨i0, h1, h2, h3⟩ := h.runners_meet t
  obtain ⟨i, hi, ⟨hp1, hp2⟩, hmin⟩ := least_of (P := fun i => 1 ≤ i ∧ s i = s (i + i)) i0 ⟨h1, h3.symm⟩
  exact ⟨i, hp1, by omega, hp2, fun j hj1 hj2 e => hmin j hj2 ⟨hj1, e⟩⟩
/-- From there on and from the first thing on, two that go alike meet where the loop begins. -/
theorem IsLoop.second_meet {α : Type} {s : Nat → α} {m l i : Nat} (h : IsLoop s m l) (t : Tells s) (hi : 1 ≤ i) (e : s i = s (i + i)) (b : Nat) : s b = s (i + b) ↔ m ≤ b := by
  have h1 := (h.runners t hi).1 e.symm
  constructor
  · intro e2
    exact ((h.meets t (a := b) (d := i) (by omega)).1 (by rw [Nat.add_comm]; exact e2.symm)).1
  · intro hb
    have := (h.meets t (a := b) (d := i) (by omega)).2 ⟨hb, h1.2⟩
    rw [Nat.add_comm] at this
    exact this.symm
/-- Round the loop. -/
theorem IsLoop.third_meet {α : Type} {s : Nat → α} {m l : Nat} (h : IsLoop s m l) {k : Nat} (hk : 1 ≤ k) (hkl : k ≤ l) : s m = s (m + k) ↔ k = l := by
  constructor
  · intro e
    apply Classical.byContradiction
    intro hne
    exact h.least k hk (by omega) e.symm
  · rintro rfl
    exact h.back.symm

/-- What EndsAt answers. -/
def endsOf (a b : Int) : Int := if b = 1 then a else -1

end Nt
end Go.Proofs.Ytahjplaidkibpaa
