/-
  Walks: slices of slices of numbers.
-/
import Derived.Test.YtllbdhfckdljgaaKA
import Derived.Maps.AppendAt
namespace Go.Proofs.Ytllbdhfckdljgaa
open Go.RowKit

theorem info_row : (Try.prog.info? 25).map (fun i => (i.zero, i.size, i.bytes)) = some (some (.slice none 0 0), 1, 24) := by kernel_rfl

/-- A slice of slices, each of which holds the numbers of its place. -/
def Rw (w : World) (base : Nat) (v : Value) (vs : List Value) (s : Nat → List Nat) : Prop :=
  w.ownsRow base 25 1 v vs.length vs ∧ ∀ i, i < vs.length → Sl w base (vs.getD i undef) (Nt.nats (s i))

/-- Blocks of numbers are no blocks of slices. -/
theorem Sl.other {w : World} {base base' : Nat} {u v : Value} {xs : List Int} {vs : List Value} (h : Sl w base u xs) (k : w.ownsRow base' 25 1 v vs.length vs) : ∀ g, u.ownBlock = some g → ¬ g ∈ v.ownBlock.toList := by
  intro g hg hm
  have hv : v.ownBlock = some g := by simpa using hm
  rcases h.2 with ⟨rfl, _⟩ | ⟨g1, cap1, cur1, rfl, _, hg1, _⟩
  · simp [Value.ownBlock] at hg
  · rcases k.2 with ⟨rfl, _⟩ | ⟨g2, cap2, cur2, rfl, _, hg2, _⟩
    · simp [Value.ownBlock] at hv
    · simp [Value.ownBlock] at hg hv
      subst hg
      subst hv
      rw [hg1] at hg2
      simp at hg2
theorem ownsRow_stay {w w' : World} {base : Nat} {v : Value} {n : Nat} {vs : List Value} {rows : List Nat} {e : TypeId} (h : w.ownsRow base e 1 v n vs) (hk : Kept rows w w') (hn : ∀ g, v.ownBlock = some g → ¬ g ∈ rows) : w'.ownsRow base e 1 v n vs := by
  refine ⟨h.1, ?_⟩
  rcases h.2 with hn | ⟨g, cap, cur, rfl, hb, hgg, rest⟩
  · exact .inl hn
  · refine .inr ⟨g, cap, cur, rfl, hb, ?_, rest⟩
    rw [hk.block g (Array.getElem?_eq_some_iff.1 hgg).1 (hn g rfl)]
    exact hgg
theorem Rw.stay {w w' : World} {base : Nat} {v : Value} {vs : List Value} {s : Nat → List Nat} (h : Rw w base v vs s) (hk : Kept [] w w') : Rw w' base v vs s :=
  ⟨ownsRow_stay h.1 hk (by simp), fun i hi => (h.2 i hi).stay hk⟩
theorem Rw.mono {w : World} {base base' : Nat} {v : Value} {vs : List Value} {s : Nat → List Nat} (h : Rw w base v vs s) (hb : base' ≤ base) : Rw w base' v vs s := by
  refine ⟨⟨h.1.1, ?_⟩, fun i hi => (h.2 i hi).mono hb⟩
  rcases h.1.2 with hn | ⟨g, cap, cur, hv, hbg, rest⟩
  · exact .inl hn
  · exact .inr ⟨g, cap, cur, hv, by omega, rest⟩
/-- Where it lies, and its cells. -/
theorem Rw.form {w : World} {base n : Nat} {v : Value} {vs : List Value} {s : Nat → List Nat} (h : Rw w base v vs s) (hn : vs.length = n) (hp : 0 < n) :
    ∃ g cap, v = .slice (some ⟨g, 0, none⟩) n cap ∧ base ≤ g ∧ g < w.heap.size ∧ n ≤ cap ∧ cap ≤ 9223372036854775807 ∧ ∀ k, k < n → w.cell? ⟨g, k, none⟩ = some (vs.getD k undef) := by
  subst hn
  rcases h.1.2 with ⟨_, hn⟩ | ⟨g, cap, cur, rfl, hb, hg, hc, hm, hs, ht⟩
  · omega
  · refine ⟨g, cap, rfl, hb, (Array.getElem?_eq_some_iff.1 hg).1, hc, by simpa [maxLen] using hm, fun k hk => ?_⟩
    rw [World.ownsRow.cellAt h.1 k (by omega)]
    simp [List.getD_eq_getElem?_getD, hk]
/-- One row alone, written out in the text. -/
theorem Rw.lit {w : World} {base : Nat} {u : Value} {s : Nat → List Nat} (h : Sl w base u (Nt.nats (s 0))) (hb : base ≤ w.heap.size) : Rw (w.alloc (.cells #[u] 25)) base (.slice (some ⟨w.heap.size, 0, none⟩) 1 1) [u] s := by
  refine ⟨World.ownsRow_lit (base := base) (e := 25) (size := 1) w #[u] 1 hb (by simp only [maxLen]; omega) (by simp), fun i hi => ?_⟩
  have : i = 0 := by simp at hi; exact hi
  subst this
  exact h.stay ((Kept.refl _ _).alloc _)

/-- 'append(rows, row)'. -/
theorem app_row {ops : Array Oper} {rest : List Oper} {o : Oper} {a : Act} {Q : Exit → Act → World → Prop} {w0 : World} (u : Value) (hgd : o.guard = none) (x y : Operand)
    (ho : o.op = .call { callee := .builtin .append, args := #[x, y], argTypes := #[32, 32] })
    (base : Nat) (v : Value) (vs : List Value) (s : Nat → List Nat) (hown : Rw w0 base v vs s) (hs : a.eval x = v) (hx : a.eval y = .slice (some ⟨w0.heap.size, 0, none⟩) 1 1) (hu : Sl w0 base u (Nt.nats (s vs.length)))
    (hlen : vs.length ≤ 1000000) (hbase : base ≤ w0.heap.size)
    (h : ∀ v' w', Rw w' base v' (vs ++ [u]) s → Kept v.ownBlock.toList w0 w' → wpList Try.prog ops Q rest (a.put o.dst v') w') :
    wpList Try.prog ops Q (o :: rest) a (w0.alloc (.cells #[u] 25)) := by
  obtain ⟨i0, hi, hz0, hz1, hz2⟩ := info_parts info_row
  have hcell : u.oneCell' = true := by
    rcases hu.2 with ⟨rfl, _⟩ | ⟨g, cap, cur, rfl, _⟩ <;> rfl
  refine wpList_append_own _ hgd x y _ ho base 25 i0 (.slice none 0 0) 1 24 Try.underlying32 hi hz0 hz1 hz2 rfl (by decide) v vs.length vs hs (World.ownsRow.alloc hown.1 _)
    ⟨w0.heap.size, 0, none⟩ 1 1 [u] hx rfl (cell_one_new _ _ _) (by intro z hz; simp at hz; subst hz; exact hcell) (by unfold maxLen; omega) (by omega) (by simp; omega) ?_
  intro v' w' h1 h2 _
  have hk : Kept v.ownBlock.toList w0 w' := (Kept.refl _ _).alloc _ |>.grown h2 fun k hk => .inl (by rw [hk]; simp)
  refine h v' w' ⟨by rw [List.length_append]; exact h1, fun i hi => ?_⟩ hk
  by_cases e : i < vs.length
  · have e2 : (vs ++ [u]).getD i undef = vs.getD i undef := by rw [List.getD_eq_getElem?_getD, List.getElem?_append_left e, ← List.getD_eq_getElem?_getD]
    rw [e2]
    exact (hown.2 i e).kept hk ((hown.2 i e).other hown.1)
  · have e1 : i = vs.length := by rw [List.length_append] at hi; simp at hi; omega
    subst e1
    have e2 : (vs ++ [u]).getD vs.length undef = u := by simp [List.getD_eq_getElem?_getD]
    rw [e2]
    exact hu.kept hk (hu.other hown.1)
end Go.Proofs.Ytllbdhfckdljgaa
