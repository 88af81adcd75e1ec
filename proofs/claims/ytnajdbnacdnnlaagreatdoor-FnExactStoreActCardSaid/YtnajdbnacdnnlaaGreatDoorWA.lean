/-
  Plain mathematics of deeds and journals: texts of deeds, what is read of a text line by line.
  Plain mathematics of places: their texts, and what is read of them.
  Plain mathematics of desks and stores: deeds that are done, runs of deeds, what a crash leaves.
  Plain mathematics: what the functions of places, desks and stores answer, for all arguments.
  Plain mathematics of stores: what stores open to, behind each of the things that are done with them.
-/
import Derived.Test.YtnajdbnacdnnlaaGreatDoorSA
import Derived.Test.YtnajdbnacdnnlaaGreatDoorPA
namespace Go.Proofs.YtnajdbnacdnnlaaGreatDoor
namespace Nt

/-- A deed. -/
structure Dd where
  kind : Int
  a : Int
  b : Int
  deriving DecidableEq

def wJoin : List Nat := [106, 111, 105, 110]
def wLight : List Nat := [108, 105, 103, 104, 116]
def wKinds : List Nat := [107, 105, 110, 100, 115]
def wStep : List Nat := [115, 116, 101, 112]
def wBack : List Nat := [98, 97, 99, 107]

/-- The text of a deed: the words of it, or none. -/
def deedW (d : Dd) : List (List Nat) :=
  if (0 ≤ d.a ∧ d.a ≤ 99) ∧ (0 ≤ d.b ∧ d.b ≤ 99) then
    if d.kind = 0 then [wJoin, digs d.a.toNat, digs d.b.toNat]
    else if d.kind = 1 ∧ d.b = 0 then [wLight, digs d.a.toNat]
    else if d.kind = 3 ∧ d.b = 0 then [wKinds, digs d.a.toNat]
    else if d.kind = 2 ∧ d.a = 0 ∧ d.b = 0 then [wStep]
    else if d.kind = 4 ∧ d.a = 0 ∧ d.b = 0 then [wBack]
    else []
  else []
def deedT (d : Dd) : List Nat := join 32 (deedW d)
/-- Whether a deed has a text. -/
def DOk (d : Dd) : Prop := deedW d ≠ []
instance (d : Dd) : Decidable (DOk d) := by unfold DOk; infer_instance

theorem deedW_join {a b : Nat} (ha : a ≤ 99) (hb : b ≤ 99) : deedW ⟨0, a, b⟩ = [wJoin, digs a, digs b] := by
  have h : (0 ≤ (a : Int) ∧ (a : Int) ≤ 99) ∧ (0 ≤ (b : Int) ∧ (b : Int) ≤ 99) := by omega
  simp only [deedW, if_pos h, if_true, Int.toNat_natCast]
theorem deedW_light {a : Nat} (ha : a ≤ 99) : deedW ⟨1, a, 0⟩ = [wLight, digs a] := by
  have h : (0 ≤ (a : Int) ∧ (a : Int) ≤ 99) ∧ ((0 : Int) ≤ 0 ∧ (0 : Int) ≤ 99) := by omega
  have h1 : ¬ (1 : Int) = 0 := by omega
  simp only [deedW, if_pos h, if_neg h1, and_self, if_true, Int.toNat_natCast]
theorem deedW_kinds {a : Nat} (ha : a ≤ 99) : deedW ⟨3, a, 0⟩ = [wKinds, digs a] := by
  have h : (0 ≤ (a : Int) ∧ (a : Int) ≤ 99) ∧ ((0 : Int) ≤ 0 ∧ (0 : Int) ≤ 99) := by omega
  have h1 : ¬ (3 : Int) = 0 := by omega
  have h2 : ¬ (3 : Int) = 1 := by omega
  simp only [deedW, if_pos h, if_neg h1, h2, false_and, and_self, if_true, if_false, Int.toNat_natCast]
theorem deedW_step : deedW ⟨2, 0, 0⟩ = [wStep] := by decide
theorem deedW_back : deedW ⟨4, 0, 0⟩ = [wBack] := by decide
/-- The five makes of deeds that have a text. -/
theorem DOk.cases {d : Dd} (h : DOk d) : (∃ a b : Nat, a ≤ 99 ∧ b ≤ 99 ∧ d = ⟨0, a, b⟩) ∨ (∃ a : Nat, a ≤ 99 ∧ d = ⟨1, a, 0⟩) ∨ (∃ a : Nat, a ≤ 99 ∧ d = ⟨3, a, 0⟩) ∨ d = ⟨2, 0, 0⟩ ∨ d = ⟨4, 0, 0⟩ := by
  obtain ⟨k, a, b⟩ := d
  unfold DOk deedW at h
  by_cases h1 : (0 ≤ a ∧ a ≤ 99) ∧ (0 ≤ b ∧ b ≤ 99)
  · obtain ⟨x, rfl⟩ := Int.eq_ofNat_of_zero_le h1.1.1
    obtain ⟨y, rfl⟩ := Int.eq_ofNat_of_zero_le h1.2.1
    rw [if_pos h1] at h
    by_cases k0 : k = 0
    · subst k0
      exact .inl ⟨x, y, by omega, by omega, rfl⟩
    · simp only [if_neg k0] at h
      by_cases k1 : k = 1 ∧ ((y : Nat) : Int) = 0
      · right; left
        exact ⟨x, by omega, by rw [k1.1, k1.2]⟩
      · simp only [if_neg k1] at h
        by_cases k3 : k = 3 ∧ ((y : Nat) : Int) = 0
        · right; right; left
          exact ⟨x, by omega, by rw [k3.1, k3.2]⟩
        · simp only [if_neg k3] at h
          by_cases k2 : k = 2 ∧ ((x : Nat) : Int) = 0 ∧ ((y : Nat) : Int) = 0
          · right; right; right; left
            rw [k2.1, k2.2.1, k2.2.2]
          · simp only [if_neg k2] at h
            by_cases k4 : k = 4 ∧ ((x : Nat) : Int) = 0 ∧ ((y : Nat) : Int) = 0
            · right; right; right; right
              rw [k4.1, k4.2.1, k4.2.2]
            · simp only [if_neg k4] at h
              exact absurd rfl h
  · rw [if_neg h1] at h
    exact absurd rfl h
theorem DOk.words {d : Dd} (h : DOk d) : ∀ p, p ∈ deedW d → 32 ∉ p ∧ 10 ∉ p ∧ p ≠ [] := by
  have hd : ∀ n : Nat, 32 ∉ digs n ∧ 10 ∉ digs n ∧ digs n ≠ [] := fun n => ⟨digs_free (.inl (by omega)), digs_free (.inl (by omega)), digs_ne n⟩
  intro p hp
  rcases h.cases with ⟨a, b, ha, hb, rfl⟩ | ⟨a, ha, rfl⟩ | ⟨a, ha, rfl⟩ | rfl | rfl
  · rw [deedW_join ha hb] at hp
    simp at hp
    rcases hp with rfl | rfl | rfl
    · decide
    · exact hd _
    · exact hd _
  · rw [deedW_light ha] at hp
    simp at hp
    rcases hp with rfl | rfl
    · decide
    · exact hd _
  · rw [deedW_kinds ha] at hp
    simp at hp
    rcases hp with rfl | rfl
    · decide
    · exact hd _
  · rw [deedW_step] at hp
    simp at hp
    subst hp
    decide
  · rw [deedW_back] at hp
    simp at hp
    subst hp
    decide
theorem cut_deedT {d : Dd} (h : DOk d) : cut 32 (deedT d) = deedW d := cut_join 32 _ h fun p hp => (h.words p hp).1
theorem join_mem {sep x : Nat} : ∀ ps : List (List Nat), x ∈ join sep ps → x = sep ∨ ∃ p, p ∈ ps ∧ x ∈ p
  | [], h => by simp [join] at h
  | [p], h => .inr ⟨p, by simp, h⟩
  | p :: q :: rest, h => by
    rw [join_cons sep p (by simp), List.mem_append, List.mem_cons] at h
    rcases h with h | h | h
    · exact .inr ⟨p, by simp, h⟩
    · exact .inl h
    · rcases join_mem (q :: rest) h with h | ⟨r, hr, hx⟩
      · exact .inl h
      · exact .inr ⟨r, by simp [List.mem_cons] at hr ⊢; exact .inr hr, hx⟩
theorem deedT_line {d : Dd} (h : DOk d) : 10 ∉ deedT d := fun hm => by
  rcases join_mem _ hm with e | ⟨p, hp, hx⟩
  · omega
  · exact (h.words p hp).2.1 hx
theorem deedT_ne {d : Dd} (h : DOk d) : deedT d ≠ [] := fun e => by
  have h1 := cut_deedT h
  rw [e] at h1
  have h2 : ([] : List Nat) ∈ deedW d := by rw [← h1]; simp [cut, cutFrom]
  exact (h.words [] h2).2.2 rfl
theorem deedT_none {d : Dd} (h : ¬ DOk d) : deedT d = [] := by
  unfold DOk at h
  unfold deedT
  rw [Classical.not_not.1 h]
  rfl
theorem deedW_inj {d e : Dd} (h : DOk d) (k : DOk e) (hw : deedW d = deedW e) : d = e := by
  rcases h.cases with ⟨a, b, ha, hb, rfl⟩ | ⟨a, ha, rfl⟩ | ⟨a, ha, rfl⟩ | rfl | rfl <;>
    rcases k.cases with ⟨x, y, hx, hy, rfl⟩ | ⟨x, hx, rfl⟩ | ⟨x, hx, rfl⟩ | rfl | rfl
  all_goals
    first
    | rw [deedW_join ha hb] at hw
    | rw [deedW_light ha] at hw
    | rw [deedW_kinds ha] at hw
    | rw [deedW_step] at hw
    | rw [deedW_back] at hw
  all_goals
    first
    | rw [deedW_join hx hy] at hw
    | rw [deedW_light hx] at hw
    | rw [deedW_kinds hx] at hw
    | rw [deedW_step] at hw
    | rw [deedW_back] at hw
    | skip
  all_goals simp only [List.cons.injEq, and_true, List.nil_eq, reduceCtorEq, and_false] at hw
  all_goals
    first
    | rfl
    | (exact absurd hw.1 (by decide))
    | (exact absurd hw (by decide))
    | (rw [digs_inj hw.2.1, digs_inj hw.2.2])
    | (rw [digs_inj hw.2])
theorem deedT_inj {d e : Dd} (h : DOk d) (k : deedT d = deedT e) : d = e := by
  have ke : DOk e := by
    apply Classical.byContradiction
    intro hn
    rw [deedT_none hn] at k
    exact deedT_ne h k
  have h1 := congrArg (cut 32) k
  rw [cut_deedT h, cut_deedT ke] at h1
  exact deedW_inj h ke h1
theorem deedT_space {d e : Dd} (h : DOk d) : deedT d ++ [32] ≠ deedT e := fun k => by
  have ke : DOk e := by
    apply Classical.byContradiction
    intro hn
    rw [deedT_none hn] at k
    simp at k
  have h1 := congrArg (cut 32) k
  rw [cut_snoc, cut_deedT h, cut_deedT ke] at h1
  have h2 : ([] : List Nat) ∈ deedW e := by rw [← h1]; simp
  exact (ke.words [] h2).2.2 rfl

/-- The deeds that a text may be of. -/
def cands (s : List Nat) : List Dd :=
  [⟨2, 0, 0⟩, ⟨4, 0, 0⟩] ++
    (if (cut 32 s).length = 2 then [⟨1, dval ((cut 32 s).getD 1 []), 0⟩, ⟨3, dval ((cut 32 s).getD 1 []), 0⟩] else []) ++
    (if (cut 32 s).length = 3 then [⟨0, dval ((cut 32 s).getD 1 []), dval ((cut 32 s).getD 2 [])⟩] else [])
theorem mem_cands {d : Dd} (h : DOk d) : d ∈ cands (deedT d) := by
  unfold cands
  rw [cut_deedT h]
  rcases h.cases with ⟨a, b, ha, hb, rfl⟩ | ⟨a, ha, rfl⟩ | ⟨a, ha, rfl⟩ | rfl | rfl
  · rw [deedW_join ha hb]
    simp [dval_digs (show a < 1000000 by omega), dval_digs (show b < 1000000 by omega)]
  · rw [deedW_light ha]
    simp [dval_digs (show a < 1000000 by omega)]
  · rw [deedW_kinds ha]
    simp [dval_digs (show a < 1000000 by omega)]
  · simp
  · simp
/-- The deed of a text, if there is one. -/
def readD (s : List Nat) : Option Dd := if s = [] then none else (cands s).find? fun d => decide (deedT d = s)
theorem readD_some {s : List Nat} {d : Dd} : readD s = some d ↔ deedT d = s ∧ s ≠ [] := by
  unfold readD
  by_cases h0 : s = []
  · rw [if_pos h0]; simp [h0]
  · rw [if_neg h0]
    constructor
    · intro h
      exact ⟨of_decide_eq_true (List.find?_some (p := fun d => decide (deedT d = s)) h), h0⟩
    · rintro ⟨rfl, _⟩
      have hd : DOk d := by
        apply Classical.byContradiction
        intro hn
        exact h0 (deedT_none hn)
      cases e : (cands (deedT d)).find? fun d' => decide (deedT d' = deedT d) with
      | none =>
        have := List.find?_eq_none.1 e d (mem_cands hd)
        simp at this
      | some x =>
        have hx := of_decide_eq_true (List.find?_some (p := fun d' => decide (deedT d' = deedT d)) e)
        rw [deedT_inj hd hx.symm]
theorem readD_text {d : Dd} (h : DOk d) : readD (deedT d) = some d := readD_some.2 ⟨rfl, deedT_ne h⟩
theorem readD_ok {s : List Nat} {d : Dd} (h : readD s = some d) : DOk d := by
  obtain ⟨h1, h2⟩ := readD_some.1 h
  apply Classical.byContradiction
  intro hn
  exact h2 (h1.symm.trans (deedT_none hn))

/-- The text of a journal: a newline behind each deed. -/
def jrnT : List Dd → List Nat
  | [] => []
  | d :: rest => deedT d ++ 10 :: jrnT rest
/-- What is read of a text, line by line: the deeds, and how many bytes they have. -/
def jgo (seen : List Nat) : List Nat → List Dd
  | [] => []
  | x :: rest => if x = 10 then (match readD seen with | some d => d :: jgo [] rest | none => []) else jgo (seen ++ [x]) rest
def jlen (seen : List Nat) : List Nat → Nat
  | [] => 0
  | x :: rest => if x = 10 then (match readD seen with | some _ => seen.length + 1 + jlen [] rest | none => 0) else jlen (seen ++ [x]) rest
theorem jgo_nl {seen : List Nat} {d : Dd} (h : readD seen = some d) (rest : List Nat) : jgo seen (10 :: rest) = d :: jgo [] rest ∧ jlen seen (10 :: rest) = seen.length + 1 + jlen [] rest := by
  rw [jgo, jlen, if_pos rfl, if_pos rfl, h]
  exact ⟨rfl, rfl⟩
theorem jgo_stop {seen : List Nat} (h : readD seen = none) (rest : List Nat) : jgo seen (10 :: rest) = [] ∧ jlen seen (10 :: rest) = 0 := by
  rw [jgo, jlen, if_pos rfl, if_pos rfl, h]
  exact ⟨rfl, rfl⟩
theorem jgo_on {x : Nat} (hx : x ≠ 10) (seen rest : List Nat) : jgo seen (x :: rest) = jgo (seen ++ [x]) rest ∧ jlen seen (x :: rest) = jlen (seen ++ [x]) rest := by
  rw [jgo, jlen, if_neg hx, if_neg hx]
  exact ⟨rfl, rfl⟩
theorem jgo_free : ∀ (p rest seen : List Nat), 10 ∉ p → jgo seen (p ++ rest) = jgo (seen ++ p) rest ∧ jlen seen (p ++ rest) = jlen (seen ++ p) rest
  | [], rest, seen, _ => by simp
  | x :: p, rest, seen, h => by
    have hx : x ≠ 10 := fun e => h (by simp [e])
    have ih := jgo_free p rest (seen ++ [x]) (fun e => h (by simp [e]))
    rw [List.append_assoc, List.singleton_append] at ih
    rw [List.cons_append, (jgo_on hx seen (p ++ rest)).1, (jgo_on hx seen (p ++ rest)).2]
    exact ih
theorem jgo_line {d : Dd} (h : DOk d) (rest : List Nat) : jgo [] (deedT d ++ 10 :: rest) = d :: jgo [] rest ∧ jlen [] (deedT d ++ 10 :: rest) = (deedT d).length + 1 + jlen [] rest := by
  obtain ⟨h1, h2⟩ := jgo_free (deedT d) (10 :: rest) [] (deedT_line h)
  rw [h1, h2, List.nil_append]
  exact jgo_nl (readD_text h) rest
/-- A journal's text is read, whatever stands behind it. -/
theorem jgo_jrnT : ∀ (l : List Dd) (rest : List Nat), (∀ d ∈ l, DOk d) → jgo [] (jrnT l ++ rest) = l ++ jgo [] rest ∧ jlen [] (jrnT l ++ rest) = (jrnT l).length + jlen [] rest
  | [], rest, _ => by simp [jrnT]
  | d :: l, rest, h => by
    have hd := h d (by simp)
    obtain ⟨i1, i2⟩ := jgo_jrnT l rest (fun e he => h e (by simp [he]))
    obtain ⟨j1, j2⟩ := jgo_line hd (jrnT l ++ rest)
    have e : jrnT (d :: l) ++ rest = deedT d ++ 10 :: (jrnT l ++ rest) := by simp [jrnT]
    rw [e, j1, j2, i1, i2]
    refine ⟨rfl, ?_⟩
    simp [jrnT]
    omega
theorem jrn_read {l : List Dd} (h : ∀ d ∈ l, DOk d) : jgo [] (jrnT l) = l ∧ jlen [] (jrnT l) = (jrnT l).length := by
  have := jgo_jrnT l [] h
  simpa [jgo, jlen] using this
/-- What is read is the text's beginning. -/
theorem jgo_take : ∀ (s seen : List Nat), 10 ∉ seen → (∀ d ∈ jgo seen s, DOk d) ∧ jrnT (jgo seen s) = (seen ++ s).take (jlen seen s) ∧ jlen seen s ≤ (seen ++ s).length
  | [], seen, _ => by simp [jgo, jlen, jrnT]
  | x :: rest, seen, h => by
    by_cases hx : x = 10
    · subst hx
      cases e : readD seen with
      | none =>
        rw [(jgo_stop e rest).1, (jgo_stop e rest).2]
        simp [jrnT]
      | some d =>
        obtain ⟨i1, i2, i3⟩ := jgo_take rest [] (by simp)
        have hd := readD_ok e
        have ht := (readD_some.1 e).1
        rw [(jgo_nl e rest).1, (jgo_nl e rest).2]
        refine ⟨fun x hx => ?_, ?_, ?_⟩
        · rw [List.mem_cons] at hx
          rcases hx with rfl | hx
          · exact hd
          · exact i1 x hx
        · show deedT d ++ 10 :: jrnT (jgo [] rest) = _
          have e1 : (seen ++ 10 :: rest).take (seen.length + 1 + jlen [] rest) = seen ++ 10 :: rest.take (jlen [] rest) := by
            rw [List.take_append, List.take_of_length_le (l := seen) (by omega), show seen.length + 1 + jlen [] rest - seen.length = jlen [] rest + 1 by omega, List.take_succ_cons]
          rw [ht, i2, List.nil_append, e1]
        · rw [List.nil_append] at i3
          rw [List.length_append, List.length_cons]
          omega
    · have ih := jgo_take rest (seen ++ [x]) (by simp; exact ⟨h, fun e => hx e.symm⟩)
      rw [List.append_assoc, List.singleton_append] at ih
      rw [(jgo_on hx seen rest).1, (jgo_on hx seen rest).2]
      exact ih
theorem jgo_ok (s : List Nat) : ∀ d ∈ jgo [] s, DOk d := (jgo_take s [] (by simp)).1
theorem jgo_text (s : List Nat) : jrnT (jgo [] s) = s.take (jlen [] s) := (jgo_take s [] (by simp)).2.1
theorem jlen_le (s : List Nat) : jlen [] s ≤ s.length := (jgo_take s [] (by simp)).2.2
/-- Of a text's beginning no more is read, and what is read is the beginning of it. -/
theorem jgo_prefix : ∀ (s seen : List Nat) (k : Nat), jgo seen (s.take k) <+: jgo seen s ∧ (jlen seen (s.take k) ≤ jlen seen s)
  | [], seen, k => by simp
  | x :: rest, seen, 0 => by simp [jgo, jlen]
  | x :: rest, seen, k + 1 => by
    rw [List.take_succ_cons]
    by_cases hx : x = 10
    · subst hx
      cases e : readD seen with
      | none =>
        rw [(jgo_stop e rest).1, (jgo_stop e rest).2, (jgo_stop e (rest.take k)).1, (jgo_stop e (rest.take k)).2]
        simp
      | some d =>
        obtain ⟨i1, i2⟩ := jgo_prefix rest [] k
        rw [(jgo_nl e rest).1, (jgo_nl e rest).2, (jgo_nl e (rest.take k)).1, (jgo_nl e (rest.take k)).2]
        exact ⟨(List.prefix_cons_inj d).2 i1, by omega⟩
    · rw [(jgo_on hx seen rest).1, (jgo_on hx seen rest).2, (jgo_on hx seen (rest.take k)).1, (jgo_on hx seen (rest.take k)).2]
      exact jgo_prefix rest (seen ++ [x]) k
/-- What is left of a log when just what is read is kept is all read. -/
theorem jgo_kept (s : List Nat) : jgo [] (s.take (jlen [] s)) = jgo [] s ∧ jlen [] (s.take (jlen [] s)) = jlen [] s := by
  obtain ⟨h1, h2⟩ := jrn_read (jgo_ok s)
  rw [jgo_text s] at h1 h2
  refine ⟨h1, ?_⟩
  rw [h2, List.length_take]
  have := jlen_le s
  omega
/-- A deed behind a log that is all read is read too. -/
theorem jgo_more {s : List Nat} (h : jlen [] s = s.length) {d : Dd} (hd : DOk d) : jgo [] (s ++ (deedT d ++ [10])) = jgo [] s ++ [d] ∧ jlen [] (s ++ (deedT d ++ [10])) = (s ++ (deedT d ++ [10])).length := by
  have ht := jgo_text s
  rw [h, List.take_length] at ht
  have ho := jgo_ok s
  generalize jgo [] s = l at *
  rw [← ht]
  have e : jrnT l ++ (deedT d ++ [10]) = jrnT (l ++ [d]) := by
    clear ht ho h
    induction l with
    | nil => simp [jrnT]
    | cons x l ih => simp [jrnT, ← ih]
  rw [e]
  exact jrn_read fun x hx => by
    rw [List.mem_append, List.mem_singleton] at hx
    rcases hx with hx | rfl
    · exact ho x hx
    · exact hd

end Nt
end Go.Proofs.YtnajdbnacdnnlaaGreatDoor

namespace Go.Proofs.YtnajdbnacdnnlaaGreatDoor
namespace Nt

/-- The pairs of neighbours whose lesser one is a node, as texts of two digits. -/
def rowW (ns : List Nat) (k n : Nat) : List (List Nat) := ((List.range n).filter fun j => decide (k < j) && (ns.getD k 0).testBit j).map fun j => [48 + k, 48 + j]
/-- Those of the first m nodes. -/
def wiresL (ns : List Nat) : Nat → List (List Nat)
  | 0 => []
  | m + 1 => wiresL ns m ++ rowW ns m ns.length
theorem mem_rowW {ns : List Nat} {k n : Nat} {p : List Nat} : p ∈ rowW ns k n ↔ ∃ j, j < n ∧ k < j ∧ (ns.getD k 0).testBit j = true ∧ p = [48 + k, 48 + j] := by
  unfold rowW
  rw [List.mem_map]
  constructor
  · rintro ⟨j, hj, rfl⟩
    rw [List.mem_filter, List.mem_range, Bool.and_eq_true, decide_eq_true_eq] at hj
    exact ⟨j, hj.1, hj.2.1, hj.2.2, rfl⟩
  · rintro ⟨j, h1, h2, h3, rfl⟩
    exact ⟨j, by rw [List.mem_filter, List.mem_range, Bool.and_eq_true, decide_eq_true_eq]; exact ⟨h1, h2, h3⟩, rfl⟩
theorem mem_wiresL {ns : List Nat} {p : List Nat} : ∀ m, p ∈ wiresL ns m ↔ ∃ k j, k < m ∧ j < ns.length ∧ k < j ∧ (ns.getD k 0).testBit j = true ∧ p = [48 + k, 48 + j]
  | 0 => by simp [wiresL]
  | m + 1 => by
    rw [wiresL, List.mem_append, mem_wiresL m, mem_rowW]
    constructor
    · rintro (⟨k, j, h1, h2⟩ | ⟨j, h1, h2⟩)
      · exact ⟨k, j, by omega, h2⟩
      · exact ⟨m, j, by omega, h1, h2⟩
    · rintro ⟨k, j, h1, h2, h3⟩
      by_cases e : k = m
      · subst e; exact .inr ⟨j, h2, h3⟩
      · exact .inl ⟨k, j, by omega, h2, h3⟩
def wiresAll (ns : List Nat) : List (List Nat) := wiresL ns ns.length
def wireT (ns : List Nat) : List Nat := if wiresAll ns = [] then [46] else join 44 (wiresAll ns)
def kindT (ks : List Nat) : List Nat := ks.map (48 + ·)
/-- The text of a place. -/
def placeT (ns : List Nat) (c : Nat) (ks : List Nat) : List Nat := join 32 [digs ns.length, wireT ns, digs c, kindT ks]

theorem wire_parts {ns : List Nat} (_h6 : ns.length ≤ 6) : ∀ p, p ∈ wiresAll ns → 44 ∉ p ∧ 32 ∉ p ∧ p ≠ [46] := fun p hp => by
  obtain ⟨k, j, h1, h2, _, _, rfl⟩ := (mem_wiresL _).1 hp
  refine ⟨?_, ?_, by simp⟩
  · simp; omega
  · simp; omega
theorem join_memP {sep x : Nat} : ∀ ps : List (List Nat), x ∈ join sep ps → x = sep ∨ ∃ p, p ∈ ps ∧ x ∈ p
  | [], h => by simp [join] at h
  | [p], h => .inr ⟨p, by simp, h⟩
  | p :: q :: rest, h => by
    rw [join_cons sep p (by simp), List.mem_append, List.mem_cons] at h
    rcases h with h | h | h
    · exact .inr ⟨p, by simp, h⟩
    · exact .inl h
    · rcases join_memP (q :: rest) h with h | ⟨r, hr, hx⟩
      · exact .inl h
      · exact .inr ⟨r, List.mem_cons_of_mem _ hr, hx⟩
theorem wireT_free {ns : List Nat} (h6 : ns.length ≤ 6) : 32 ∉ wireT ns := by
  unfold wireT
  split
  · simp
  · intro h
    rcases join_memP _ h with e | ⟨p, hp, hx⟩
    · omega
    · exact (wire_parts h6 p hp).2.1 hx
theorem kindT_free {c : Nat} {ks : List Nat} (_h : St c ks) : 32 ∉ kindT ks := by
  unfold kindT
  rw [List.mem_map]
  rintro ⟨x, _, e⟩
  omega
theorem cut_placeT {ns : List Nat} {c : Nat} {ks : List Nat} (h6 : ns.length ≤ 6) (h : St c ks) : cut 32 (placeT ns c ks) = [digs ns.length, wireT ns, digs c, kindT ks] := by
  refine cut_join 32 _ (by simp) fun p hp => ?_
  simp at hp
  rcases hp with rfl | rfl | rfl | rfl
  · exact digs_free (.inl (by omega))
  · exact wireT_free h6
  · exact digs_free (.inl (by omega))
  · exact kindT_free h
theorem cut_wireT {ns : List Nat} (h6 : ns.length ≤ 6) (hne : wiresAll ns ≠ []) : cut 44 (wireT ns) = wiresAll ns := by
  unfold wireT
  rw [if_neg hne]
  exact cut_join 44 _ hne fun p hp => (wire_parts h6 p hp).1
theorem wireT_dot {ns : List Nat} (h6 : ns.length ≤ 6) : wireT ns = [46] ↔ wiresAll ns = [] := by
  constructor
  · intro h
    apply Classical.byContradiction
    intro hne
    have h1 := cut_wireT h6 hne
    rw [h, show cut 44 [46] = [[46]] by decide] at h1
    exact (wire_parts h6 [46] (by rw [← h1]; simp)).2.2 rfl
  · intro h
    unfold wireT
    rw [if_pos h]
theorem kindT_inj {a b : List Nat} (h : kindT a = kindT b) : a = b := by
  have h1 := congrArg (List.map (· - 48)) h
  unfold kindT at h1
  simpa [List.map_map, Function.comp_def] using h1
/-- Nets with the same pairs of neighbours are the same. -/
theorem net_ext {ms ns : List Nat} (h : Ok ms) (k : Ok ns) (hl : ms.length = ns.length) (hb : ∀ a b, a < b → b < ns.length → (ms.getD a 0).testBit b = (ns.getD a 0).testBit b) : ms = ns := by
  apply List.ext_getElem hl
  intro i h1 h2
  have hget : ms.getD i 0 = ns.getD i 0 := by
    apply Nat.eq_of_testBit_eq
    intro j
    by_cases hj : j < ns.length
    · rcases Nat.lt_trichotomy i j with hij | hij | hij
      · exact hb i j hij hj
      · subst hij
        rw [h.own i h1, k.own i h2]
      · rw [h.both i j h1 (by omega), k.both i j h2 hj]
        exact hb j i hij h2
    · have f1 := h.fit i h1
      have f2 := k.fit i h2
      rw [Nat.testBit_lt_two_pow (Nat.lt_of_lt_of_le f1 (Nat.pow_le_pow_right (by omega) (by omega))), Nat.testBit_lt_two_pow (Nat.lt_of_lt_of_le f2 (Nat.pow_le_pow_right (by omega) (by omega)))]
  rwa [List.getD_eq_getElem?_getD, List.getD_eq_getElem?_getD, List.getElem?_eq_getElem h1, List.getElem?_eq_getElem h2] at hget
theorem wires_bit {ns : List Nat} (a b : Nat) (hab : a < b) (hb : b < ns.length) : [48 + a, 48 + b] ∈ wiresAll ns ↔ (ns.getD a 0).testBit b = true := by
  unfold wiresAll
  rw [mem_wiresL]
  constructor
  · rintro ⟨k, j, _, _, _, h4, h5⟩
    simp at h5
    rw [h5.1, h5.2]
    exact h4
  · intro h
    exact ⟨a, b, by omega, hb, hab, h, rfl⟩
theorem wireT_inj {ms ns : List Nat} (h : Ok ms) (k : Ok ns) (hl : ms.length = ns.length) (hw : wireT ms = wireT ns) : ms = ns := by
  have hall : wiresAll ms = wiresAll ns := by
    by_cases e : wiresAll ms = []
    · rw [e]
      have h1 := (wireT_dot h.few).2 e
      rw [hw] at h1
      exact ((wireT_dot k.few).1 h1).symm
    · have e2 : wiresAll ns ≠ [] := fun e2 => by
        have h1 := (wireT_dot k.few).2 e2
        rw [← hw] at h1
        exact e ((wireT_dot h.few).1 h1)
      rw [← cut_wireT h.few e, ← cut_wireT k.few e2, hw]
  refine net_ext h k hl fun a b hab hb => ?_
  have h1 := wires_bit (ns := ms) a b hab (by omega)
  have h2 := wires_bit (ns := ns) a b hab hb
  rw [hall] at h1
  apply bool_eq
  exact h1.symm.trans h2
/-- A text is of one place alone. -/
theorem placeT_inj {ms ns ls ks : List Nat} {c d : Nat} (h : Ok ms) (k : Ok ns) (hs : St c ls) (ht : St d ks) (e : placeT ms c ls = placeT ns d ks) : ms = ns ∧ c = d ∧ ls = ks := by
  have h1 := congrArg (cut 32) e
  rw [cut_placeT h.few hs, cut_placeT k.few ht] at h1
  simp only [List.cons.injEq, and_true] at h1
  exact ⟨wireT_inj h k (digs_inj h1.1) h1.2.1, digs_inj h1.2.2.1, kindT_inj h1.2.2.2⟩
theorem kindT_ne {c : Nat} {ks : List Nat} (h : St c ks) : kindT ks ≠ [] := fun e => by
  have := h.some
  have h1 := congrArg List.length e
  unfold kindT at h1
  simp at h1
  rw [h1] at this
  simp at this
theorem placeT_space {ms ns ls ks : List Nat} {c d : Nat} (h : Ok ms) (k : Ok ns) (hs : St c ls) (ht : St d ks) : placeT ms c ls ++ [32] ≠ placeT ns d ks := fun e => by
  have h1 := congrArg (cut 32) e
  rw [cut_snoc, cut_placeT h.few hs, cut_placeT k.few ht] at h1
  simp at h1

/-- Wires laid one by one. -/
def layW (ns : List Nat) : List (List Nat) → List Nat
  | [] => ns
  | p :: rest => layW (wire ns (p.getD 0 0 - 48) (p.getD 1 0 - 48)) rest
theorem wire_get2 (ns : List Nat) (a b : Nat) {k : Nat} (hk : k < ns.length) : (wire ns a b).getD k 0 = if k = b ∧ k = a then ns.getD k 0 ||| 2 ^ b ||| 2 ^ a else if k = b then ns.getD k 0 ||| 2 ^ a else if k = a then ns.getD k 0 ||| 2 ^ b else ns.getD k 0 := by
  unfold wire
  simp only [List.getD_eq_getElem?_getD, List.getElem?_set, List.length_set]
  by_cases h1 : b = k
  · subst h1
    by_cases h2 : a = b
    · subst h2
      simp [hk]
    · have h3 : ¬ b = a := fun e => h2 e.symm
      simp [hk, h2, h3]
  · have h1' : ¬ k = b := fun e => h1 e.symm
    by_cases h2 : a = k
    · subst h2
      simp [hk, h1, h1']
    · have h2' : ¬ k = a := fun e => h2 e.symm
      simp [h1, h1', h2, h2']
theorem layW_length : ∀ (ps : List (List Nat)) (ns : List Nat), (layW ns ps).length = ns.length
  | [], _ => rfl
  | p :: rest, ns => by rw [layW, layW_length rest, wire_length]
theorem layW_bit : ∀ (ps : List (List Nat)) (ns : List Nat) (_h : ∀ p ∈ ps, ∃ a b, a < b ∧ p = [48 + a, 48 + b]) {i : Nat} (_ : i < ns.length) (j : Nat),
    ((layW ns ps).getD i 0).testBit j = true ↔ (ns.getD i 0).testBit j = true ∨ [48 + i, 48 + j] ∈ ps ∨ [48 + j, 48 + i] ∈ ps
  | [], ns, _, i, _, j => by simp [layW]
  | p :: rest, ns, h, i, hi, j => by
    obtain ⟨a, b, hab, rfl⟩ := h p List.mem_cons_self
    have ih := layW_bit rest (wire ns a b) (fun q hq => h q (List.mem_cons_of_mem _ hq)) (i := i) (by rw [wire_length]; exact hi) j
    have e1 : [48 + a, 48 + b].getD 0 0 - 48 = a := by simp
    have e2 : [48 + a, 48 + b].getD 1 0 - 48 = b := by simp
    rw [layW, e1, e2, ih, wire_get2 ns a b hi]
    have m1 : [48 + i, 48 + j] ∈ [48 + a, 48 + b] :: rest ↔ (i = a ∧ j = b) ∨ [48 + i, 48 + j] ∈ rest := by simp
    have m2 : [48 + j, 48 + i] ∈ [48 + a, 48 + b] :: rest ↔ (j = a ∧ i = b) ∨ [48 + j, 48 + i] ∈ rest := by simp
    rw [m1, m2]
    have pb : ∀ x y : Nat, (2 ^ x).testBit y = true ↔ x = y := fun x y => by rw [Nat.testBit_two_pow]; simp
    by_cases h1 : i = b
    · rw [if_neg (by omega), if_pos h1, Nat.testBit_or, Bool.or_eq_true, pb]
      constructor
      · rintro ((h2 | h2) | h2 | h2)
        · exact .inl h2
        · exact .inr (.inr (.inl ⟨h2.symm, h1⟩))
        · exact .inr (.inl (.inr h2))
        · exact .inr (.inr (.inr h2))
      · rintro (h2 | (h2 | h2) | (h2 | h2))
        · exact .inl (.inl h2)
        · omega
        · exact .inr (.inl h2)
        · exact .inl (.inr h2.1.symm)
        · exact .inr (.inr h2)
    · by_cases h2 : i = a
      · rw [if_neg (by omega), if_neg h1, if_pos h2, Nat.testBit_or, Bool.or_eq_true, pb]
        constructor
        · rintro ((h3 | h3) | h3 | h3)
          · exact .inl h3
          · exact .inr (.inl (.inl ⟨h2, h3.symm⟩))
          · exact .inr (.inl (.inr h3))
          · exact .inr (.inr (.inr h3))
        · rintro (h3 | (h3 | h3) | (h3 | h3))
          · exact .inl (.inl h3)
          · exact .inl (.inr h3.2.symm)
          · exact .inr (.inl h3)
          · omega
          · exact .inr (.inr h3)
      · rw [if_neg (by omega), if_neg h1, if_neg h2]
        constructor
        · rintro (h3 | h3 | h3)
          · exact .inl h3
          · exact .inr (.inl (.inr h3))
          · exact .inr (.inr (.inr h3))
        · rintro (h3 | (h3 | h3) | (h3 | h3))
          · exact .inl h3
          · omega
          · exact .inr (.inl h3)
          · omega
          · exact .inr (.inr h3)
/-- The wires of a net's text, laid on no wires, are the net. -/
theorem layW_all {ns : List Nat} (ok : Ok ns) : layW (List.replicate ns.length 0) (wiresAll ns) = ns := by
  have hz : ∀ i j : Nat, ((List.replicate ns.length 0).getD i 0).testBit j = false := fun i j => by
    rw [List.getD_eq_getElem?_getD, List.getElem?_replicate]
    split <;> simp
  have hb : ∀ p ∈ wiresAll ns, ∃ a b, a < b ∧ p = [48 + a, 48 + b] := fun p hp => by
    obtain ⟨k, j, _, _, h3, _, h5⟩ := (mem_wiresL _).1 hp
    exact ⟨k, j, h3, h5⟩
  have hl : (layW (List.replicate ns.length 0) (wiresAll ns)).length = ns.length := by rw [layW_length]; simp
  apply List.ext_getElem hl
  intro i h1 h2
  have hget : (layW (List.replicate ns.length 0) (wiresAll ns)).getD i 0 = ns.getD i 0 := by
    apply Nat.eq_of_testBit_eq
    intro j
    apply bool_eq
    rw [layW_bit (wiresAll ns) _ hb (i := i) (by simpa using h2) j, hz]
    have hmem : ∀ x y, [48 + x, 48 + y] ∈ wiresAll ns ↔ x < y ∧ y < ns.length ∧ (ns.getD x 0).testBit y = true := fun x y => by
      constructor
      · intro hm
        obtain ⟨k, j, e1, e2, e3, e4, e5⟩ := (mem_wiresL _).1 hm
        simp at e5
        rw [e5.1, e5.2]
        exact ⟨e3, e2, e4⟩
      · rintro ⟨e1, e2, e3⟩
        exact (wires_bit x y e1 e2).2 e3
    rw [hmem, hmem]
    constructor
    · rintro (h | ⟨_, _, h⟩ | ⟨h3, h4, h⟩)
      · cases h
      · exact h
      · rw [ok.both i j h2 (by omega)]; exact h
    · intro h
      have hj : j < ns.length := by
        apply Classical.byContradiction
        intro hn
        rw [Nat.testBit_lt_two_pow (Nat.lt_of_lt_of_le (ok.fit i h2) (Nat.pow_le_pow_right (by omega) (by omega)))] at h
        cases h
      rcases Nat.lt_trichotomy i j with h3 | h3 | h3
      · exact .inr (.inl ⟨h3, hj, h⟩)
      · subst h3
        rw [ok.own i h2] at h
        cases h
      · exact .inr (.inr ⟨h3, h2, by rw [ok.both j i hj h2]; exact h⟩)
  rwa [List.getD_eq_getElem?_getD, List.getD_eq_getElem?_getD, List.getElem?_eq_getElem h1, List.getElem?_eq_getElem h2] at hget
theorem kindT_read (ks : List Nat) : (kindT ks).map (· - 48) = ks := by
  unfold kindT
  simp [List.map_map, Function.comp_def]

end Nt
end Go.Proofs.YtnajdbnacdnnlaaGreatDoor

namespace Go.Proofs.YtnajdbnacdnnlaaGreatDoor
namespace Nt

/-- A place: a net, kinds, a state. -/
structure Pl where
  ns : List Nat
  c : Nat
  ks : List Nat
  deriving DecidableEq
structure POk (p : Pl) : Prop where
  ok : Ok p.ns
  st : St p.c p.ks
  len : p.ks.length = p.ns.length
structure Dk where
  now : Pl
  past : List Pl
  deriving DecidableEq
structure DkOk (d : Dk) : Prop where
  now : POk d.now
  past : ∀ p ∈ d.past, POk p
  few : d.past.length ≤ 8

/-- A wire between two nodes, or none if there was one. -/
def tog (ns : List Nat) (a b : Nat) : List Nat := (ns.set a (ns.getD a 0 ^^^ 2 ^ b)).set b ((ns.set a (ns.getD a 0 ^^^ 2 ^ b)).getD b 0 ^^^ 2 ^ a)
theorem tog_length (ns : List Nat) (a b : Nat) : (tog ns a b).length = ns.length := by simp [tog]
theorem tog_get {ns : List Nat} {a b : Nat} (hab : a ≠ b) {k : Nat} (hk : k < ns.length) :
    (tog ns a b).getD k 0 = if k = a then ns.getD a 0 ^^^ 2 ^ b else if k = b then ns.getD b 0 ^^^ 2 ^ a else ns.getD k 0 := by
  have h0 : (ns.set a (ns.getD a 0 ^^^ 2 ^ b)).getD b 0 = ns.getD b 0 := by
    rw [List.getD_eq_getElem?_getD, List.getElem?_set_ne hab, List.getD_eq_getElem?_getD]
  unfold tog
  rw [h0]
  by_cases h1 : k = b
  · subst h1
    rw [if_neg (fun e => hab e.symm), if_pos rfl, List.getD_eq_getElem?_getD, List.getElem?_set_self (by rw [List.length_set]; exact hk)]
    rfl
  · rw [List.getD_eq_getElem?_getD, List.getElem?_set_ne (fun e => h1 e.symm)]
    by_cases h2 : k = a
    · subst h2
      rw [if_pos rfl, List.getElem?_set_self hk]
      rfl
    · rw [if_neg h2, if_neg h1, List.getElem?_set_ne (fun e => h2 e.symm), List.getD_eq_getElem?_getD]
theorem tog_bit {ns : List Nat} {a b : Nat} (hab : a ≠ b) {k : Nat} (hk : k < ns.length) (j : Nat) :
    ((tog ns a b).getD k 0).testBit j = ((ns.getD k 0).testBit j ^^ (decide (k = a ∧ j = b) || decide (k = b ∧ j = a))) := by
  have pb : ∀ x y : Nat, (2 ^ x).testBit y = decide (x = y) := fun x y => Nat.testBit_two_pow
  rw [tog_get hab hk]
  by_cases h1 : k = a
  · subst h1
    rw [if_pos rfl, Nat.testBit_xor, pb]
    congr 1
    by_cases h2 : b = j
    · subst h2; simp
    · have h3 : ¬ j = b := fun e => h2 e.symm
      simp [h2, h3]
      intro e; exact absurd e hab
  · rw [if_neg h1]
    by_cases h2 : k = b
    · subst h2
      rw [if_pos rfl, Nat.testBit_xor, pb]
      congr 1
      by_cases h3 : a = j
      · subst h3; simp
      · have h4 : ¬ j = a := fun e => h3 e.symm
        simp [h1, h3, h4]
    · rw [if_neg h2]
      simp [h1, h2]
theorem tog_ok {ns : List Nat} (ok : Ok ns) {a b : Nat} (hab : a ≠ b) (ha : a < ns.length) (hb : b < ns.length) : Ok (tog ns a b) := by
  have hl := tog_length ns a b
  refine ⟨by rw [hl]; exact ok.some, by rw [hl]; exact ok.few, fun k hk => ?_, fun k j hk hj => ?_, fun k hk => ?_⟩
  · rw [hl] at hk ⊢
    rw [tog_get hab hk]
    have p : ∀ x, x < ns.length → 2 ^ x < 2 ^ ns.length := fun x hx => two_pow_lt hx
    split
    · exact Nat.xor_lt_two_pow (ok.fit a ha) (p b hb)
    · split
      · exact Nat.xor_lt_two_pow (ok.fit b hb) (p a ha)
      · exact ok.fit k hk
  · rw [hl] at hk hj
    rw [tog_bit hab hk, tog_bit hab hj, ok.both k j hk hj]
    congr 1
    apply bool_eq
    simp only [Bool.or_eq_true, decide_eq_true_eq]
    constructor
    · rintro (⟨h1, h2⟩ | ⟨h1, h2⟩)
      · exact .inr ⟨h2, h1⟩
      · exact .inl ⟨h2, h1⟩
    · rintro (⟨h1, h2⟩ | ⟨h1, h2⟩)
      · exact .inr ⟨h2, h1⟩
      · exact .inl ⟨h2, h1⟩
  · rw [hl] at hk
    rw [tog_bit hab hk, ok.own k hk]
    have h1 : ¬ (k = a ∧ k = b) := fun h => hab (h.1.symm.trans h.2)
    have h2 : ¬ (k = b ∧ k = a) := fun h => hab (h.2.symm.trans h.1)
    simp [h1, h2]
theorem tog_ne {ns : List Nat} {a b : Nat} (hab : a ≠ b) (ha : a < ns.length) : tog ns a b ≠ ns := fun e => by
  have h := tog_bit hab ha b
  rw [e] at h
  simp at h

/-- A node lit. -/
theorem lightK_st {c : Nat} {ks : List Nat} (h : St c ks) (a : Nat) : St c (ks.set a 1) :=
  ⟨h.c3, h.c5, by rw [List.length_set]; exact h.some, by rw [List.length_set]; exact h.few, fun k hk => by
    rw [List.length_set] at hk
    have h1 := h.lt k hk
    have h3 := h.c3
    rw [List.getD_eq_getElem?_getD, List.getElem?_set]
    by_cases e : a = k
    · subst e
      rw [if_pos rfl, if_pos hk]
      show 1 < c
      omega
    · rw [if_neg e, ← List.getD_eq_getElem?_getD]
      exact h1⟩

def stBn (c : Nat) (ks : List Nat) : Bool := decide (3 ≤ c ∧ c ≤ 5) && ks.all fun x => decide (x < c)
/-- What a deed makes of a place, if it can be done. -/
def made (p : Pl) (d : Dd) : Option Pl :=
  if d.kind = 0 then
    if 0 ≤ d.a ∧ d.a < p.ns.length ∧ 0 ≤ d.b ∧ d.b < p.ns.length ∧ d.a ≠ d.b then some ⟨tog p.ns d.a.toNat d.b.toNat, p.c, p.ks⟩ else none
  else if d.kind = 1 ∧ d.b = 0 then
    if 0 ≤ d.a ∧ d.a < p.ns.length ∧ p.ks.getD d.a.toNat 0 = 0 then some ⟨p.ns, p.c, p.ks.set d.a.toNat 1⟩ else none
  else if d.kind = 2 ∧ d.a = 0 ∧ d.b = 0 then
    if step p.ns p.c p.ks ≠ p.ks then some ⟨p.ns, p.c, step p.ns p.c p.ks⟩ else none
  else if d.kind = 3 ∧ d.b = 0 then
    if 0 ≤ d.a ∧ d.a ≠ p.c ∧ stBn d.a.toNat p.ks = true then some ⟨p.ns, d.a.toNat, p.ks⟩ else none
  else none
/-- A deed at a desk, if it can be done. -/
def doD (x : Dk) (d : Dd) : Option Dk :=
  if d.kind = 4 ∧ d.a = 0 ∧ d.b = 0 then
    match x.past.getLast? with
    | some p => some ⟨p, x.past.dropLast⟩
    | none => none
  else match made x.now d with
    | some p => some ⟨p, if x.past.length < 8 then x.past ++ [x.now] else (x.past ++ [x.now]).drop 1⟩
    | none => none

theorem made_ok {p : Pl} (h : POk p) {d : Dd} {q : Pl} (e : made p d = some q) : POk q ∧ q ≠ p := by
  have hl := h.len
  unfold made at e
  by_cases k0 : d.kind = 0
  · rw [if_pos k0] at e
    by_cases h1 : 0 ≤ d.a ∧ d.a < p.ns.length ∧ 0 ≤ d.b ∧ d.b < p.ns.length ∧ d.a ≠ d.b
    · rw [if_pos h1] at e
      simp at e
      subst e
      have hab : d.a.toNat ≠ d.b.toNat := by omega
      exact ⟨⟨tog_ok h.ok hab (by omega) (by omega), h.st, by show p.ks.length = (tog _ _ _).length; rw [tog_length]; exact hl⟩, fun e2 => tog_ne hab (by omega) (congrArg Pl.ns e2)⟩
    · rw [if_neg h1] at e; simp at e
  · rw [if_neg k0] at e
    by_cases k1 : d.kind = 1 ∧ d.b = 0
    · rw [if_pos k1] at e
      by_cases h1 : 0 ≤ d.a ∧ d.a < p.ns.length ∧ p.ks.getD d.a.toNat 0 = 0
      · rw [if_pos h1] at e
        simp at e
        subst e
        refine ⟨⟨h.ok, lightK_st h.st _, by show (p.ks.set _ _).length = _; rw [List.length_set]; exact hl⟩, fun e2 => ?_⟩
        have e3 : p.ks.set d.a.toNat 1 = p.ks := congrArg Pl.ks e2
        have h2 := h1.2.2
        rw [← e3, List.getD_eq_getElem?_getD, List.getElem?_set_self (by omega)] at h2
        simp at h2
      · rw [if_neg h1] at e; simp at e
    · rw [if_neg k1] at e
      by_cases k2 : d.kind = 2 ∧ d.a = 0 ∧ d.b = 0
      · rw [if_pos k2] at e
        by_cases h1 : step p.ns p.c p.ks ≠ p.ks
        · rw [if_pos h1] at e
          simp at e
          subst e
          exact ⟨⟨h.ok, step_st p.ns h.st, by show (step _ _ _).length = _; rw [step_length]; exact hl⟩, fun e2 => h1 (congrArg Pl.ks e2)⟩
        · rw [if_neg h1] at e; simp at e
      · rw [if_neg k2] at e
        by_cases k3 : d.kind = 3 ∧ d.b = 0
        · rw [if_pos k3] at e
          by_cases h1 : 0 ≤ d.a ∧ d.a ≠ p.c ∧ stBn d.a.toNat p.ks = true
          · rw [if_pos h1] at e
            simp at e
            subst e
            obtain ⟨h2, h3, h4⟩ := h1
            unfold stBn at h4
            rw [Bool.and_eq_true, decide_eq_true_eq, List.all_eq_true] at h4
            refine ⟨⟨h.ok, ⟨h4.1.1, h4.1.2, h.st.some, h.st.few, fun k hk => ?_⟩, hl⟩, fun e2 => ?_⟩
            · have := of_decide_eq_true (h4.2 (p.ks[k]) (List.getElem_mem hk))
              rw [List.getD_eq_getElem?_getD, List.getElem?_eq_getElem hk]
              exact this
            · have e3 : d.a.toNat = p.c := congrArg Pl.c e2
              omega
          · rw [if_neg h1] at e; simp at e
        · rw [if_neg k3] at e; simp at e
theorem doD_ok {x : Dk} (h : DkOk x) {d : Dd} {y : Dk} (e : doD x d = some y) : DkOk y := by
  unfold doD at e
  by_cases k4 : d.kind = 4 ∧ d.a = 0 ∧ d.b = 0
  · rw [if_pos k4] at e
    cases hl : x.past.getLast? with
    | none => rw [hl] at e; simp at e
    | some p =>
      rw [hl] at e
      simp at e
      subst e
      refine ⟨h.past p (List.mem_of_getLast? hl), fun q hq => h.past q ((List.dropLast_sublist _).subset hq), ?_⟩
      show x.past.dropLast.length ≤ 8
      rw [List.length_dropLast]
      have := h.few
      omega
  · rw [if_neg k4] at e
    cases hm : made x.now d with
    | none => rw [hm] at e; simp at e
    | some p =>
      rw [hm] at e
      simp only [Option.some.injEq] at e
      subst e
      refine ⟨(made_ok h.now hm).1, fun q hq => ?_, ?_⟩
      · have hin : q ∈ x.past ++ [x.now] := by
          by_cases hlt : x.past.length < 8
          · simpa [hlt] using hq
          · have : q ∈ (x.past ++ [x.now]).drop 1 := by simpa only [if_neg hlt] using hq
            exact List.mem_of_mem_drop this
        rw [List.mem_append, List.mem_singleton] at hin
        rcases hin with hin | rfl
        · exact h.past q hin
        · exact h.now
      · have := h.few
        show (if x.past.length < 8 then x.past ++ [x.now] else (x.past ++ [x.now]).drop 1).length ≤ 8
        split
        · rw [List.length_append]; simp; omega
        · rw [List.length_drop, List.length_append]; simp; omega
/-- What was done is taken back. -/
theorem doD_back {x : Dk} {d : Dd} {y : Dk} (e : doD x d = some y) (hb : ¬ (d.kind = 4 ∧ d.a = 0 ∧ d.b = 0)) (hf : x.past.length < 8) : doD y ⟨4, 0, 0⟩ = some x := by
  unfold doD at e
  rw [if_neg hb] at e
  cases hm : made x.now d with
  | none => rw [hm] at e; simp at e
  | some p =>
    rw [hm] at e
    simp only [Option.some.injEq, if_pos hf] at e
    subst e
    unfold doD
    rw [if_pos ⟨rfl, rfl, rfl⟩]
    simp
/-- Whether a deed that does not take back can be done hangs on the place alone. -/
theorem doD_now {x y : Dk} {d : Dd} (hb : ¬ (d.kind = 4 ∧ d.a = 0 ∧ d.b = 0)) (h : x.now = y.now) :
    (∃ x', doD x d = some x') ↔ ∃ y', doD y d = some y' := by
  unfold doD
  rw [if_neg hb, if_neg hb, h]
  cases made y.now d <;> simp
theorem doD_same {x y x' y' : Dk} {d : Dd} (hb : ¬ (d.kind = 4 ∧ d.a = 0 ∧ d.b = 0)) (h : x.now = y.now) (e1 : doD x d = some x') (e2 : doD y d = some y') : x'.now = y'.now := by
  unfold doD at e1 e2
  rw [if_neg hb] at e1 e2
  rw [h] at e1
  cases hm : made y.now d with
  | none => rw [hm] at e2; simp at e2
  | some p =>
    rw [hm] at e1 e2
    simp only [Option.some.injEq] at e1 e2
    subst e1
    subst e2
    rfl

/-- Deeds one after the other, those left out that cannot be done; and how many were done. -/
def goD (x : Dk) (d : Dd) : Dk := (doD x d).getD x
def runD (x : Dk) : List Dd → Dk
  | [] => x
  | d :: rest => runD (goD x d) rest
def cntD (x : Dk) : List Dd → Nat
  | [] => 0
  | d :: rest => (if (doD x d).isSome then 1 else 0) + cntD (goD x d) rest
theorem goD_ok {x : Dk} (h : DkOk x) (d : Dd) : DkOk (goD x d) := by
  unfold goD
  cases e : doD x d with
  | none => exact h
  | some y => exact doD_ok h e
theorem runD_ok {x : Dk} (h : DkOk x) (l : List Dd) : DkOk (runD x l) := by
  induction l generalizing x with
  | nil => exact h
  | cons d l ih => exact ih (goD_ok h d)
theorem runD_append (x : Dk) (l m : List Dd) : runD x (l ++ m) = runD (runD x l) m := by
  induction l generalizing x with
  | nil => rfl
  | cons d l ih => exact ih _
theorem cntD_append (x : Dk) (l m : List Dd) : cntD x (l ++ m) = cntD x l + cntD (runD x l) m := by
  induction l generalizing x with
  | nil => simp [cntD, runD]
  | cons d l ih =>
    show (if (doD x d).isSome then 1 else 0) + cntD (goD x d) (l ++ m) = (if (doD x d).isSome then 1 else 0) + cntD (goD x d) l + cntD (runD (goD x d) l) m
    rw [ih]
    omega
theorem cntD_le (x : Dk) (l : List Dd) : cntD x l ≤ l.length := by
  induction l generalizing x with
  | nil => simp [cntD]
  | cons d l ih =>
    have := ih (goD x d)
    show (if (doD x d).isSome then 1 else 0) + cntD (goD x d) l ≤ l.length + 1
    split <;> omega
/-- Deeds that cannot be done may be left out: a run of the others. -/
def onlyD (x : Dk) : List Dd → List Dd
  | [] => []
  | d :: rest => if (doD x d).isSome then d :: onlyD (goD x d) rest else onlyD x rest
theorem runD_only (x : Dk) (l : List Dd) : runD x (onlyD x l) = runD x l := by
  induction l generalizing x with
  | nil => rfl
  | cons d l ih =>
    unfold onlyD
    cases e : doD x d with
    | none =>
      have hg : goD x d = x := by unfold goD; rw [e]; rfl
      simp only [Option.isSome_none, Bool.false_eq_true, if_false]
      rw [ih x]
      show runD x l = runD (goD x d) l
      rw [hg]
    | some y =>
      simp only [Option.isSome_some, if_true]
      exact ih _
theorem jrnT_append (l m : List Dd) : jrnT (l ++ m) = jrnT l ++ jrnT m := by
  induction l with
  | nil => rfl
  | cons d l ih => simp [jrnT, ih]
theorem jrnT_only_le (x : Dk) (l : List Dd) : (jrnT (onlyD x l)).length ≤ (jrnT l).length := by
  induction l generalizing x with
  | nil => simp [onlyD]
  | cons d l ih =>
    unfold onlyD
    have h1 := ih (goD x d)
    have h2 := ih x
    split
    · show (deedT d ++ 10 :: jrnT (onlyD (goD x d) l)).length ≤ (deedT d ++ 10 :: jrnT l).length
      rw [List.length_append, List.length_append, List.length_cons, List.length_cons]
      omega
    · show (jrnT (onlyD x l)).length ≤ (deedT d ++ 10 :: jrnT l).length
      rw [List.length_append, List.length_cons]
      omega
theorem onlyD_mem (x : Dk) (l : List Dd) : ∀ d, d ∈ onlyD x l → d ∈ l := by
  induction l generalizing x with
  | nil => intro d h; simp [onlyD] at h
  | cons e l ih =>
    intro d h
    unfold onlyD at h
    split at h
    · rw [List.mem_cons] at h ⊢
      rcases h with h | h
      · exact .inl h
      · exact .inr (ih _ d h)
    · exact List.mem_cons_of_mem _ (ih _ d h)

/-- What a store opens to: the place that is saved, and all that is read of its log. -/
def openD (p : Pl) (log : List Nat) : Dk := runD ⟨p, []⟩ (jgo [] log)
theorem openD_ok {p : Pl} (h : POk p) (log : List Nat) : DkOk (openD p log) := runD_ok ⟨h, fun _ hq => by simp at hq, by simp⟩ _
theorem openD_kept (p : Pl) (log : List Nat) : openD p (log.take (jlen [] log)) = openD p log := by
  unfold openD; rw [(jgo_kept log).1]
/-- A deed written behind a log that is all read. -/
theorem openD_act {p : Pl} {log : List Nat} (h : jlen [] log = log.length) {d : Dd} (hd : DOk d) {y : Dk} (e : doD (openD p log) d = some y) :
    openD p (log ++ (deedT d ++ [10])) = y ∧ jlen [] (log ++ (deedT d ++ [10])) = (log ++ (deedT d ++ [10])).length := by
  obtain ⟨h1, h2⟩ := jgo_more h hd
  refine ⟨?_, h2⟩
  unfold openD at e ⊢
  rw [h1, runD_append]
  show goD _ d = y
  unfold goD
  rw [e]
  rfl
/-- Of a crash some first deeds are left, and no less than those that were sure. -/
theorem crash_prefix (log : List Nat) {a b : Nat} (h : a ≤ b) : jgo [] (log.take a) <+: jgo [] (log.take b) := by
  have h1 := (jgo_prefix (log.take b) [] a).1
  rwa [List.take_take, Nat.min_eq_left h] at h1
/-- Behind a crash, what was lost is done again. -/
theorem crash_again {p : Pl} {log : List Nat} {left : Nat} : runD (openD p (log.take left)) ((jgo [] log).drop (jgo [] (log.take left)).length) = openD p log := by
  have h := (jgo_prefix log [] left).1
  obtain ⟨t, ht⟩ := h
  have e : (jgo [] log).drop (jgo [] (log.take left)).length = t := by rw [← ht, List.drop_left]
  rw [e]
  unfold openD
  rw [← runD_append, ht]
theorem jrn_lost {log : List Nat} {left : Nat} : (log.take (jlen [] (log.take left))).length + (jrnT ((jgo [] log).drop (jgo [] (log.take left)).length)).length ≤ log.length := by
  have h := (jgo_prefix log [] left).1
  obtain ⟨t, ht⟩ := h
  have e : (jgo [] log).drop (jgo [] (log.take left)).length = t := by rw [← ht, List.drop_left]
  have h1 := jgo_text log
  have h2 := jgo_text (log.take left)
  have h3 := jlen_le (log.take left)
  have h4 : (jrnT (jgo [] log)).length ≤ log.length := by rw [h1, List.length_take]; omega
  rw [← ht, jrnT_append, List.length_append] at h4
  have h5 : (jrnT (jgo [] (log.take left))).length = jlen [] (log.take left) := by
    rw [h2, List.length_take]
    omega
  rw [e, List.length_take]
  omega

end Nt
end Go.Proofs.YtnajdbnacdnnlaaGreatDoor

namespace Go.Proofs.YtnajdbnacdnnlaaGreatDoor
namespace Nt

/-- A place as it comes: any numbers. -/
structure Pi where
  ns : List Int
  c : Int
  ks : List Int
  deriving DecidableEq
def Pi.zero : Pi := ⟨[], 0, []⟩
structure Di where
  now : Pi
  past : List Pi
  deriving DecidableEq
def Di.zero : Di := ⟨Pi.zero, []⟩
def Pl.i (p : Pl) : Pi := ⟨nats p.ns, p.c, nats p.ks⟩
def Pi.n (p : Pi) : Pl := ⟨p.ns.map Int.toNat, p.c.toNat, p.ks.map Int.toNat⟩
theorem Pl.i_n (p : Pl) : p.i.n = p := by
  unfold Pl.i Pi.n
  rw [nats_toNat, nats_toNat, Int.toNat_natCast]
theorem Pl.i_inj {p q : Pl} (h : p.i = q.i) : p = q := by rw [← Pl.i_n p, h, Pl.i_n]
def plB (p : Pi) : Bool := fireB p.ns p.c p.ks
theorem plB_ok {p : Pi} (h : plB p = true) : ∃ q : Pl, p = q.i ∧ POk q := by
  obtain ⟨ns, c, ks⟩ := p
  obtain ⟨ms, d, ls, h1, h2, h3, ok, st, hl⟩ := fireB_ok h
  simp only at h1 h2 h3
  exact ⟨⟨ms, d, ls⟩, by rw [h1, h2, h3]; rfl, ok, st, hl⟩
theorem plB_yes {q : Pl} (h : POk q) : plB q.i = true := fireB_yes h.ok h.st h.len
theorem plB_zero : plB Pi.zero = false := by decide
def Dk.i (d : Dk) : Di := ⟨d.now.i, d.past.map Pl.i⟩
def Di.n (d : Di) : Dk := ⟨d.now.n, d.past.map Pi.n⟩
theorem Dk.i_n (d : Dk) : d.i.n = d := by
  obtain ⟨p, l⟩ := d
  unfold Dk.i Di.n
  simp only [Pl.i_n, List.map_map]
  congr 1
  refine (List.map_congr_left fun x _ => ?_).trans (List.map_id _)
  exact Pl.i_n x
theorem Dk.i_inj {d e : Dk} (h : d.i = e.i) : d = e := by rw [← Dk.i_n d, h, Dk.i_n]
def dkB (d : Di) : Bool := plB d.now && d.past.all plB && decide (d.past.length ≤ 8)
theorem dkB_ok {d : Di} (h : dkB d = true) : ∃ e : Dk, d = e.i ∧ DkOk e := by
  unfold dkB at h
  rw [Bool.and_eq_true, Bool.and_eq_true, List.all_eq_true, decide_eq_true_eq] at h
  obtain ⟨⟨h1, h2⟩, h3⟩ := h
  obtain ⟨q, hq, hp⟩ := plB_ok h1
  obtain ⟨now, past⟩ := d
  simp only at hq h2 h3
  have hall : ∀ l : List Pi, (∀ x ∈ l, plB x = true) → ∃ m : List Pl, l = m.map Pl.i ∧ ∀ x ∈ m, POk x := by
    intro l
    induction l with
    | nil => intro _; exact ⟨[], rfl, by simp⟩
    | cons x l ih =>
      intro hx
      obtain ⟨m, h4, h5⟩ := ih fun y hy => hx y (by simp [hy])
      obtain ⟨y, h6, h7⟩ := plB_ok (hx x (by simp))
      refine ⟨y :: m, by rw [h4, h6]; rfl, fun z hz => ?_⟩
      rw [List.mem_cons] at hz
      rcases hz with rfl | hz
      · exact h7
      · exact h5 z hz
  obtain ⟨m, h4, h5⟩ := hall past h2
  refine ⟨⟨q, m⟩, by rw [hq, h4]; rfl, hp, h5, ?_⟩
  show m.length ≤ 8
  rw [h4, List.length_map] at h3
  exact h3
theorem dkB_yes {e : Dk} (h : DkOk e) : dkB e.i = true := by
  unfold dkB
  rw [Bool.and_eq_true, Bool.and_eq_true, List.all_eq_true, decide_eq_true_eq]
  refine ⟨⟨plB_yes h.now, fun x hx => ?_⟩, ?_⟩
  · rw [show e.i.past = e.past.map Pl.i from rfl, List.mem_map] at hx
    obtain ⟨y, hy, rfl⟩ := hx
    exact plB_yes (h.past y hy)
  · rw [show e.i.past = e.past.map Pl.i from rfl, List.length_map]
    exact h.few
theorem dkB_zero : dkB Di.zero = false := by decide

/-! Texts of places. -/
def Pl.t (p : Pl) : List Nat := placeT p.ns p.c p.ks
def ptxt (p : Pi) : List Nat := if plB p = true then p.n.t else []
theorem ptxt_ok {q : Pl} (h : POk q) : ptxt q.i = q.t := by unfold ptxt; rw [if_pos (plB_yes h), Pl.i_n]
theorem ptxt_no {p : Pi} (h : plB p = false) : ptxt p = [] := by unfold ptxt; rw [if_neg (by simp [h])]
theorem Pl.t_inj {p q : Pl} (h : POk p) (k : POk q) (e : p.t = q.t) : p = q := by
  obtain ⟨h1, h2, h3⟩ := placeT_inj h.ok k.ok h.st k.st e
  obtain ⟨a, b, c⟩ := p
  obtain ⟨x, y, z⟩ := q
  simp only at h1 h2 h3
  rw [h1, h2, h3]
theorem Pl.t_ne {p : Pl} : p.t ≠ [] := fun e => by
  unfold Pl.t placeT at e
  rw [join_cons 32 _ (by simp)] at e
  simp at e
theorem ptxt_ne {p : Pi} : ptxt p = [] ↔ plB p = false := by
  cases h : plB p
  · simp [ptxt_no h]
  · obtain ⟨q, rfl, hq⟩ := plB_ok h
    rw [ptxt_ok hq]
    simp [Pl.t_ne]
open Classical in
/-- The place whose text a text is, if there is one. -/
noncomputable def readP (t : List Nat) : Option Pl := if h : ∃ p, POk p ∧ p.t = t then some (Classical.choose h) else none
theorem readP_some {t : List Nat} {p : Pl} : readP t = some p ↔ POk p ∧ p.t = t := by
  unfold readP
  by_cases h : ∃ p, POk p ∧ p.t = t
  · rw [dif_pos h]
    have hs := Classical.choose_spec h
    constructor
    · intro e
      rw [Option.some.injEq] at e
      rw [← e]; exact hs
    · rintro ⟨h1, h2⟩
      rw [Option.some.injEq]
      exact Pl.t_inj hs.1 h1 (hs.2.trans h2.symm)
  · rw [dif_neg h]
    constructor
    · intro e; cases e
    · intro e; exact absurd ⟨p, e⟩ h
theorem readP_none {t : List Nat} : readP t = none ↔ ∀ p, POk p → p.t ≠ t := by
  constructor
  · intro e p hp ht
    have := readP_some.2 ⟨hp, ht⟩
    rw [e] at this; cases this
  · intro h
    cases e : readP t with
    | none => rfl
    | some p => exact absurd (readP_some.1 e).2 (h p (readP_some.1 e).1)
/-- What a candidate says: if its text is the text, it is the place. -/
theorem readP_cand {t : List Nat} {p : Pi} (h : ptxt p = t) (hne : t ≠ []) : ∃ q, p = q.i ∧ readP t = some q := by
  cases hb : plB p
  · rw [ptxt_no hb] at h; exact absurd h.symm hne
  · obtain ⟨q, rfl, hq⟩ := plB_ok hb
    rw [ptxt_ok hq] at h
    exact ⟨q, rfl, readP_some.2 ⟨hq, h⟩⟩
noncomputable def readPI (t : List Nat) : Pi := match readP t with | some p => p.i | none => Pi.zero
noncomputable def readPB (t : List Nat) : Bool := (readP t).isSome
theorem readPI_some {t : List Nat} {p : Pl} (h : readP t = some p) : readPI t = p.i ∧ readPB t = true := by unfold readPI readPB; rw [h]; exact ⟨rfl, rfl⟩
theorem readPI_none {t : List Nat} (h : readP t = none) : readPI t = Pi.zero ∧ readPB t = false := by unfold readPI readPB; rw [h]; exact ⟨rfl, rfl⟩

/-! Desks. -/
def dnew (p : Pi) : Di := if plB p = true then ⟨p, []⟩ else Di.zero
def ddo (d : Di) (a : Dd) : Di := if dkB d = true then (goD d.n a).i else Di.zero
def ddoB (d : Di) (a : Dd) : Bool := dkB d && (doD d.n a).isSome
theorem ddo_ok {e : Dk} (h : DkOk e) (a : Dd) : ddo e.i a = (goD e a).i ∧ ddoB e.i a = (doD e a).isSome := by
  unfold ddo ddoB
  rw [if_pos (dkB_yes h), dkB_yes h, Dk.i_n, Bool.true_and]
  exact ⟨rfl, rfl⟩
theorem ddo_no {d : Di} (h : dkB d = false) (a : Dd) : ddo d a = Di.zero ∧ ddoB d a = false := by
  unfold ddo ddoB
  rw [if_neg (by simp [h]), h, Bool.false_and]
  exact ⟨rfl, rfl⟩
def drun (d : Di) (l : List Dd) : Di := if (dkB d && decide (l.length ≤ 40)) = true then (runD d.n l).i else Di.zero
def drunN (d : Di) (l : List Dd) : Int := if (dkB d && decide (l.length ≤ 40)) = true then (cntD d.n l : Int) else 0
/-- The text of a journal, if all deeds have one. -/
def jtxt (l : List Dd) : List Nat := if (l.all fun d => decide (DOk d)) = true then jrnT l else []

/-! Stores. -/
structure Si where
  saved : List Nat
  log : List Nat
  sure : Int
  deriving DecidableEq
def Si.zero : Si := ⟨[], [], 0⟩
noncomputable def soB (s : Si) : Bool := readPB s.saved && decide (s.log.length ≤ 1000) && decide (0 ≤ s.sure ∧ s.sure ≤ s.log.length)
theorem soB_ok {s : Si} (h : soB s = true) : ∃ p, readP s.saved = some p ∧ POk p ∧ p.t = s.saved ∧ s.log.length ≤ 1000 ∧ 0 ≤ s.sure ∧ s.sure ≤ s.log.length := by
  unfold soB at h
  rw [Bool.and_eq_true, Bool.and_eq_true, decide_eq_true_eq, decide_eq_true_eq] at h
  obtain ⟨⟨h1, h2⟩, h3⟩ := h
  unfold readPB at h1
  cases e : readP s.saved with
  | none => rw [e] at h1; cases h1
  | some p => exact ⟨p, rfl, (readP_some.1 e).1, (readP_some.1 e).2, h2, h3.1, h3.2⟩
theorem soB_yes {s : Si} {p : Pl} (h : POk p) (ht : p.t = s.saved) (h2 : s.log.length ≤ 1000) (h3 : 0 ≤ s.sure ∧ s.sure ≤ s.log.length) : soB s = true := by
  unfold soB
  rw [Bool.and_eq_true, Bool.and_eq_true, decide_eq_true_eq, decide_eq_true_eq]
  exact ⟨⟨(readPI_some (readP_some.2 ⟨h, ht⟩)).2, h2⟩, h3⟩
def snew (p : Pi) : Si := if plB p = true then ⟨ptxt p, [], 0⟩ else Si.zero
noncomputable def sdesk (s : Si) : Dk := match readP s.saved with | some p => openD p s.log | none => ⟨⟨[], 0, []⟩, []⟩
theorem sdesk_ok {s : Si} (h : soB s = true) : DkOk (sdesk s) := by
  obtain ⟨p, e, hp, _⟩ := soB_ok h
  unfold sdesk
  rw [e]
  exact openD_ok hp s.log
noncomputable def sopen (s : Si) : Di := if soB s = true then (sdesk s).i else Di.zero
def actR (s : Si) (a : Dd) : Bool := decide (jlen [] s.log = s.log.length) && decide (DOk a) && decide (s.log.length + (deedT a).length + 1 ≤ 1000)
noncomputable def sactB (s : Si) (a : Dd) : Bool := soB s && (doD (sdesk s) a).isSome && actR s a
noncomputable def sact (s : Si) (a : Dd) : Si := if soB s = true then (if sactB s a = true then ⟨s.saved, s.log ++ deedT a ++ [10], s.sure⟩ else s) else Si.zero
noncomputable def ssync (s : Si) : Si := if soB s = true then ⟨s.saved, s.log, s.log.length⟩ else Si.zero
noncomputable def ssave (s : Si) : Si := if soB s = true then ⟨(sdesk s).now.t, [], 0⟩ else Si.zero
noncomputable def scrashB (s : Si) (left : Int) : Bool := soB s && decide (s.sure ≤ left ∧ left ≤ s.log.length)
noncomputable def scrash (s : Si) (left : Int) : Si := if scrashB s left = true then ⟨s.saved, s.log.take left.toNat, s.sure⟩ else Si.zero
noncomputable def smend (s : Si) : Si := if soB s = true then ⟨s.saved, s.log.take (jlen [] s.log), min s.sure (jlen [] s.log)⟩ else Si.zero
end Nt
end Go.Proofs.YtnajdbnacdnnlaaGreatDoor

namespace Go.Proofs.YtnajdbnacdnnlaaGreatDoor
namespace Nt

theorem readPB_nil : readPB [] = false := by
  cases e : readP [] with
  | none => exact (readPI_none e).2
  | some p => exact absurd (readP_some.1 e).2 Pl.t_ne
theorem soB_zero : soB Si.zero = false := by unfold soB; rw [show Si.zero.saved = [] from rfl, readPB_nil]; rfl
theorem soB_saved {s : Si} (h : soB s = true) : ∃ p, readP s.saved = some p ∧ POk p ∧ p.t = s.saved := by
  obtain ⟨p, h1, h2, h3, _⟩ := soB_ok h
  exact ⟨p, h1, h2, h3⟩
/-- With another log, and other bytes sure. -/
theorem soB_other {s : Si} (h : soB s = true) {log : List Nat} {n : Int} (hl : log.length ≤ 1000) (hn : 0 ≤ n ∧ n ≤ log.length) : soB ⟨s.saved, log, n⟩ = true := by
  obtain ⟨p, _, h2, h3⟩ := soB_saved h
  exact soB_yes (s := ⟨s.saved, log, n⟩) h2 h3 hl hn
theorem sdesk_of {s : Si} {p : Pl} (h : readP s.saved = some p) : sdesk s = openD p s.log := by unfold sdesk; rw [h]
theorem sdesk_log {s r : Si} (h1 : r.saved = s.saved) (h2 : r.log = s.log) : sdesk r = sdesk s := by unfold sdesk; rw [h1, h2]
theorem sopen_ok {s : Si} (h : soB s = true) : sopen s = (sdesk s).i := if_pos h
theorem sopen_no {s : Si} (h : soB s = false) : sopen s = Di.zero := if_neg (by simp [h])

/-! New ones. -/
theorem snew_ok {q : Pl} (h : POk q) : snew q.i = ⟨q.t, [], 0⟩ ∧ soB ⟨q.t, [], 0⟩ = true ∧ sdesk ⟨q.t, [], 0⟩ = ⟨q, []⟩ := by
  refine ⟨?_, soB_yes (s := ⟨q.t, [], 0⟩) h rfl (by simp) (by simp), ?_⟩
  · unfold snew; rw [if_pos (plB_yes h), ptxt_ok h]
  · rw [sdesk_of (s := ⟨q.t, [], 0⟩) (readP_some.2 ⟨h, rfl⟩)]; rfl
theorem snew_no {p : Pi} (h : plB p = false) : snew p = Si.zero := if_neg (by simp [h])

/-! Made sure. -/
theorem ssync_ok {s : Si} (h : soB s = true) : ssync s = ⟨s.saved, s.log, s.log.length⟩ ∧ soB (ssync s) = true ∧ sdesk (ssync s) = sdesk s := by
  have e : ssync s = ⟨s.saved, s.log, s.log.length⟩ := if_pos h
  obtain ⟨_, _, _, _, hl, _⟩ := soB_ok h
  rw [e]
  exact ⟨rfl, soB_other h hl (by omega), sdesk_log rfl rfl⟩
theorem ssync_no {s : Si} (h : soB s = false) : ssync s = Si.zero := if_neg (by simp [h])

/-! Mended. -/
theorem smend_ok {s : Si} (h : soB s = true) : smend s = ⟨s.saved, s.log.take (jlen [] s.log), min s.sure (jlen [] s.log)⟩ ∧ soB (smend s) = true ∧ sdesk (smend s) = sdesk s ∧ jlen [] (smend s).log = (smend s).log.length := by
  have e : smend s = ⟨s.saved, s.log.take (jlen [] s.log), min s.sure (jlen [] s.log)⟩ := if_pos h
  obtain ⟨p, hp, _, _, hl, h0, hs⟩ := soB_ok h
  have hj := jlen_le s.log
  have hlen : (s.log.take (jlen [] s.log)).length = jlen [] s.log := by rw [List.length_take]; omega
  rw [e]
  refine ⟨rfl, soB_other h (by rw [hlen]; omega) (by rw [hlen]; omega), ?_, ?_⟩
  · rw [sdesk_of (s := ⟨s.saved, s.log.take (jlen [] s.log), min s.sure (jlen [] s.log)⟩) hp, sdesk_of hp]
    exact openD_kept p s.log
  · show jlen [] (s.log.take (jlen [] s.log)) = _
    rw [(jgo_kept s.log).2, hlen]
theorem smend_no {s : Si} (h : soB s = false) : smend s = Si.zero := if_neg (by simp [h])
/-- A store whose log is all read is mended as it is. -/
theorem smend_same {s : Si} (h : soB s = true) (hj : jlen [] s.log = s.log.length) : smend s = s := by
  obtain ⟨_, _, _, _, _, _, hs⟩ := soB_ok h
  rw [(smend_ok h).1, hj, List.take_length]
  obtain ⟨a, b, c⟩ := s
  simp only at hs ⊢
  rw [Int.min_eq_left hs]

/-! Broken down. -/
theorem scrash_ok {s : Si} {left : Int} (h : scrashB s left = true) : ∃ k : Nat, left = (k : Int) ∧ k ≤ s.log.length ∧ s.sure ≤ (k : Int) ∧ scrash s left = ⟨s.saved, s.log.take k, s.sure⟩ ∧ soB (scrash s left) = true ∧ (s.log.take k).length = k := by
  have e : scrash s left = ⟨s.saved, s.log.take left.toNat, s.sure⟩ := if_pos h
  unfold scrashB at h
  rw [Bool.and_eq_true, decide_eq_true_eq] at h
  obtain ⟨h, h1, h2⟩ := h
  obtain ⟨_, _, _, _, hl, h0, hs⟩ := soB_ok h
  obtain ⟨k, rfl⟩ := Int.eq_ofNat_of_zero_le (show 0 ≤ left by omega)
  rw [Int.toNat_natCast] at e
  have hlen : (s.log.take k).length = k := by rw [List.length_take]; omega
  refine ⟨k, rfl, by omega, h1, e, ?_, hlen⟩
  rw [e]
  exact soB_other h (by rw [hlen]; omega) (by rw [hlen]; omega)
theorem scrash_no {s : Si} {left : Int} (h : scrashB s left = false) : scrash s left = Si.zero := if_neg (by simp [h])
theorem scrashB_yes {s : Si} (h : soB s = true) {k : Nat} (h1 : s.sure ≤ (k : Int)) (h2 : k ≤ s.log.length) : scrashB s (k : Int) = true := by
  unfold scrashB; rw [h, decide_eq_true (by omega : s.sure ≤ (k : Int) ∧ (k : Int) ≤ s.log.length)]; rfl
theorem scrashB_soB {s : Si} {left : Int} (h : scrashB s left = true) : soB s = true := by
  unfold scrashB at h; rw [Bool.and_eq_true] at h; exact h.1

/-! Acted. -/
theorem sactB_ok {s : Si} {a : Dd} (h : sactB s a = true) : soB s = true ∧ (∃ y, doD (sdesk s) a = some y) ∧ jlen [] s.log = s.log.length ∧ DOk a ∧ s.log.length + (deedT a).length + 1 ≤ 1000 := by
  unfold sactB actR at h
  rw [Bool.and_eq_true, Bool.and_eq_true, Bool.and_eq_true, Bool.and_eq_true, decide_eq_true_eq, decide_eq_true_eq, decide_eq_true_eq] at h
  obtain ⟨⟨h1, h2⟩, ⟨h3, h4⟩, h5⟩ := h
  exact ⟨h1, Option.isSome_iff_exists.1 h2, h3, h4, h5⟩
theorem sactB_yes {s : Si} {a : Dd} (h1 : soB s = true) {y : Dk} (h2 : doD (sdesk s) a = some y) (h3 : jlen [] s.log = s.log.length) (h4 : DOk a) (h5 : s.log.length + (deedT a).length + 1 ≤ 1000) : sactB s a = true := by
  unfold sactB actR
  rw [h1, h2, decide_eq_true h3, decide_eq_true h4, decide_eq_true h5]; rfl
theorem sact_ok {s : Si} {a : Dd} (h : sactB s a = true) : sact s a = ⟨s.saved, s.log ++ (deedT a ++ [10]), s.sure⟩ ∧ soB (sact s a) = true ∧ doD (sdesk s) a = some (sdesk (sact s a)) ∧ jlen [] (sact s a).log = (sact s a).log.length := by
  obtain ⟨h1, ⟨y, h2⟩, h3, h4, h5⟩ := sactB_ok h
  have e : sact s a = ⟨s.saved, s.log ++ (deedT a ++ [10]), s.sure⟩ := by
    unfold sact; rw [if_pos h1, if_pos h, List.append_assoc]
  obtain ⟨p, hp, _, _, hl, h0, hs⟩ := soB_ok h1
  have hlen : (s.log ++ (deedT a ++ [10])).length = s.log.length + (deedT a).length + 1 := by simp; omega
  rw [sdesk_of hp] at h2
  obtain ⟨o1, o2⟩ := openD_act h3 h4 h2
  rw [e]
  refine ⟨rfl, soB_other h1 (by rw [hlen]; omega) (by rw [hlen]; omega), ?_, o2⟩
  rw [sdesk_of hp, sdesk_of (s := ⟨s.saved, s.log ++ (deedT a ++ [10]), s.sure⟩) hp, h2]
  exact congrArg some o1.symm
theorem sact_stay {s : Si} {a : Dd} (h : soB s = true) (h2 : sactB s a = false) : sact s a = s := by unfold sact; rw [if_pos h, if_neg (by simp [h2])]
theorem sact_no {s : Si} {a : Dd} (h : soB s = false) : sact s a = Si.zero ∧ sactB s a = false := by
  unfold sact sactB
  rw [if_neg (by simp [h]), h, Bool.false_and, Bool.false_and]
  exact ⟨rfl, rfl⟩

/-! Saved. -/
theorem ssave_ok {s : Si} (h : soB s = true) : ssave s = ⟨(sdesk s).now.t, [], 0⟩ ∧ soB (ssave s) = true ∧ sdesk (ssave s) = ⟨(sdesk s).now, []⟩ := by
  have e : ssave s = ⟨(sdesk s).now.t, [], 0⟩ := if_pos h
  have hn := (sdesk_ok h).now
  obtain ⟨_, h2, h3⟩ := snew_ok hn
  rw [e]
  exact ⟨rfl, h2, h3⟩
theorem ssave_no {s : Si} (h : soB s = false) : ssave s = Si.zero := if_neg (by simp [h])
theorem ssave_again {s : Si} (h : soB s = true) : ssave (ssave s) = ssave s := by
  obtain ⟨e, h2, h3⟩ := ssave_ok h
  rw [(ssave_ok h2).1, h3, e]

/-! What is read of a log when it breaks down. -/
theorem crash_reads {s : Si} {a b : Nat} (hab : a ≤ b) : jgo [] (s.log.take a) <+: jgo [] (s.log.take b) := crash_prefix s.log hab
theorem crash_all (log : List Nat) (k : Nat) : jgo [] (log.take k) <+: jgo [] log := (jgo_prefix log [] k).1
theorem prefix_take {α : Type} {a b : List α} (h : a <+: b) : a.length ≤ b.length ∧ b.take a.length = a := by
  obtain ⟨t, rfl⟩ := h
  exact ⟨by simp, by rw [List.take_left']; rfl⟩
/-- The desk behind a breakdown is that of the saved place after what is read. -/
theorem sdesk_run {s : Si} {p : Pl} (h : readP s.saved = some p) : sdesk s = runD ⟨p, []⟩ (jgo [] s.log) := by rw [sdesk_of h]; rfl

/-! Acted one after the other. -/
/-- A store after deeds, those left out that can't be acted. -/
noncomputable def actL (s : Si) : List Dd → Si
  | [] => s
  | a :: rest => actL (sact s a) rest
/-- With room enough, all deeds that can be done are acted. -/
theorem sact_room {s : Si} (h : soB s = true) (hj : jlen [] s.log = s.log.length) {a : Dd} (ha : DOk a) (hr : s.log.length + (deedT a).length + 1 ≤ 1000) :
    soB (sact s a) = true ∧ jlen [] (sact s a).log = (sact s a).log.length ∧ sdesk (sact s a) = goD (sdesk s) a ∧ (sact s a).log.length ≤ s.log.length + (deedT a).length + 1 ∧ sactB s a = (doD (sdesk s) a).isSome := by
  cases e : doD (sdesk s) a with
  | none =>
    have hb : sactB s a = false := by unfold sactB; rw [e]; simp
    rw [sact_stay h hb]
    refine ⟨h, hj, ?_, by omega, by rw [hb]; rfl⟩
    unfold goD; rw [e]; rfl
  | some y =>
    have hb := sactB_yes h e hj ha hr
    obtain ⟨h1, h2, h3, h4⟩ := sact_ok hb
    refine ⟨h2, h4, ?_, ?_, by rw [hb]; rfl⟩
    · rw [e, Option.some.injEq] at h3
      unfold goD; rw [e, ← h3]; rfl
    · rw [h1]; show (s.log ++ (deedT a ++ [10])).length ≤ _; simp; omega
theorem actL_room : ∀ (l : List Dd) {s : Si}, soB s = true → jlen [] s.log = s.log.length → (∀ a ∈ l, DOk a) → s.log.length + (jrnT l).length ≤ 1000 → soB (actL s l) = true ∧ sdesk (actL s l) = runD (sdesk s) l
  | [], _, h, _, _, _ => ⟨h, rfl⟩
  | a :: l, s, h, hj, ho, hr => by
    have hr2 : s.log.length + ((deedT a).length + 1 + (jrnT l).length) ≤ 1000 := by
      have e : (jrnT (a :: l)).length = (deedT a).length + 1 + (jrnT l).length := by show (deedT a ++ 10 :: jrnT l).length = _; simp; omega
      rw [e] at hr; exact hr
    obtain ⟨h1, h2, h3, h4, _⟩ := sact_room h hj (ho a (by simp)) (by omega)
    have ih := actL_room l h1 h2 (fun b hb => ho b (by simp [hb])) (by omega)
    refine ⟨ih.1, ?_⟩
    show sdesk (actL (sact s a) l) = runD (goD (sdesk s) a) l
    rw [ih.2, h3]
end Nt
end Go.Proofs.YtnajdbnacdnnlaaGreatDoor
