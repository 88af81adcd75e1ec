/-
  Slices of lights: made, and written to.
-/
import Derived.Test.YtilbdpcijdcffaaDoorSL
namespace Go.Proofs.YtilbdpcijdcffaaDoor
open Go.RowKit

theorem lcells_set1 : ∀ (xs : List (Int × Int)) (k : Nat) (a : Int), (lcells xs).set (k * 2) (.int .i64 a) = lcells (xs.set k (a, (Nt.at2 xs k).2))
  | [], _, _ => rfl
  | x :: xs, 0, a => rfl
  | x :: xs, k + 1, a => by
    have ih := lcells_set1 xs k a
    have e : ∀ (y : Int × Int) (ys : List (Int × Int)), lcells (y :: ys) = .int .i64 y.1 :: .int .i64 y.2 :: lcells ys := fun _ _ => rfl
    have e2 : Nt.at2 (x :: xs) (k + 1) = Nt.at2 xs k := by simp [Nt.at2]
    rw [e, e2, show (k + 1) * 2 = k * 2 + 1 + 1 by omega, List.set_cons_succ, List.set_cons_succ, ih, List.set_cons_succ, e]
theorem lcells_set2 : ∀ (xs : List (Int × Int)) (k : Nat) (b : Int), (lcells xs).set (k * 2 + 1) (.int .i64 b) = lcells (xs.set k ((Nt.at2 xs k).1, b))
  | [], _, _ => rfl
  | x :: xs, 0, b => rfl
  | x :: xs, k + 1, b => by
    have ih := lcells_set2 xs k b
    have e : ∀ (y : Int × Int) (ys : List (Int × Int)), lcells (y :: ys) = .int .i64 y.1 :: .int .i64 y.2 :: lcells ys := fun _ _ => rfl
    have e2 : Nt.at2 (x :: xs) (k + 1) = Nt.at2 xs k := by simp [Nt.at2]
    rw [e, e2, show (k + 1) * 2 + 1 = k * 2 + 1 + 1 + 1 by omega, List.set_cons_succ, List.set_cons_succ, ih, List.set_cons_succ, e]
/-- A light written at a place. -/
theorem Sg.set {w : World} {base g cap n : Nat} {xs : List (Int × Int)} (h : Sg w base (.slice (some ⟨g, 0, none⟩) n cap) xs) (hn : n = xs.length) (k : Nat) (hk : k < n) (a b : Int) :
    Sg ((w.setCell ⟨g, k * 2, none⟩ (.int .i64 a)).setCell ⟨g, k * 2 + 1, none⟩ (.int .i64 b)) base (.slice (some ⟨g, 0, none⟩) n cap) (xs.set k (a, b)) := by
  subst hn
  have h1 := (World.ownsRow.stored h (k * 2) (.int .i64 a)).1
  have h2 := (World.ownsRow.stored h1 (k * 2 + 1) (.int .i64 b)).1
  unfold Sg
  rw [lcells_set1, lcells_set2] at h2
  have e : (xs.set k (a, (Nt.at2 xs k).2)).set k ((Nt.at2 (xs.set k (a, (Nt.at2 xs k).2)) k).1, b) = xs.set k (a, b) := by
    have e3 : (Nt.at2 (xs.set k (a, (Nt.at2 xs k).2)) k).1 = a := by
      simp [Nt.at2, List.getD_eq_getElem?_getD, hk]
    rw [e3, List.set_set]
  rw [e] at h2
  rw [List.length_set]
  exact h2
theorem at2_zero (n k : Nat) : Nt.at2 (List.replicate n ((0 : Int), (0 : Int))) k = (0, 0) := by
  unfold Nt.at2
  rw [List.getD_eq_getElem?_getD, List.getElem?_replicate]
  split <;> rfl
theorem lcells_zero (n : Nat) : (madeCells (Value.agg #[.int .i64 0, .int .i64 0]).cells (n * 2)).toList = lcells (List.replicate n ((0 : Int), (0 : Int))) := by
  have hz : (Value.agg #[Value.int IntKind.i64 0, Value.int IntKind.i64 0]).cells = #[.int .i64 0, .int .i64 0] := rfl
  rw [hz]
  apply List.ext_getElem?
  intro i
  by_cases hi : i < n * 2
  · have e1 : ((madeCells #[Value.int .i64 0, Value.int .i64 0] (n * 2)).toList)[i]? = some (.int .i64 0) := by
      unfold madeCells
      have h2 : i % 2 = 0 ∨ i % 2 = 1 := by omega
      rcases h2 with h2 | h2 <;> simp [hi, h2]
    rw [e1]
    have hl : (List.replicate n ((0 : Int), (0 : Int))).length = n := by simp
    obtain ⟨q, r, hr, rfl⟩ : ∃ q r, r < 2 ∧ i = q * 2 + r := ⟨i / 2, i % 2, by omega, by omega⟩
    obtain ⟨g1, g2⟩ := lcells_get (List.replicate n ((0 : Int), (0 : Int))) q (by rw [hl]; omega)
    rw [at2_zero] at g1 g2
    have hr2 : r = 0 ∨ r = 1 := by omega
    rcases hr2 with rfl | rfl
    · exact g1.symm
    · exact g2.symm
  · rw [List.getElem?_eq_none (by rw [Array.length_toList, size_madeCells]; omega), List.getElem?_eq_none (by rw [lcells_length, List.length_replicate]; omega)]
/-- 'make([]Light, n)'. -/
theorem make_light {ops : Array Oper} {rest : List Oper} {o : Oper} {a : Act} {Q : Exit → Act → World → Prop} (w : World) (n : Nat)
    (hg : o.guard = none) (l c : Operand) (hop : o.op = Op.makeSlice 23 l c) (hl : a.eval l = .int .i64 n) (hc : a.eval c = .int .i64 n) (hn : n ≤ 4000000)
    (h : ∀ w', Sg w' w.heap.size (.slice (some ⟨w.heap.size, 0, none⟩) n n) (List.replicate n (0, 0)) → Kept [] w w' → w.heap.size < w'.heap.size →
      wpList Tryd.prog ops Q rest (a.put o.dst (.slice (some ⟨w.heap.size, 0, none⟩) n n)) w') : wpList Tryd.prog ops Q (o :: rest) a w := by
  obtain ⟨i0, hi, hz0, hz1, hz2⟩ := info_parts info_light
  refine wpList_make_full w hg l c _ hop w.heap.size 41 i0 (.agg #[.int .i64 0, .int .i64 0]) 2 Tryd.underlying23 hi hz0 hz1 .i64 .i64 n n n hl hc rfl rfl (by rw [hz2]; omega) (by unfold maxLen; omega) (Nat.le_refl _) ?_
  intro w' h1 h2
  have hs : Sg w' w.heap.size (.slice (some ⟨w.heap.size, 0, none⟩) n n) (List.replicate n (0, 0)) := by
    unfold Sg
    rw [List.length_replicate, ← lcells_zero]
    exact h1
  exact h w' hs ((Kept.refl _ _).grown h2 (by simp)) (hs.block (g := w.heap.size) rfl).2
/-- The cells of a light at a place. -/
theorem Sg.at {w : World} {base g cap n : Nat} {xs : List (Int × Int)} (h : Sg w base (.slice (some ⟨g, 0, none⟩) n cap) xs) (k : Nat) (hk : k < xs.length) :
    w.cell? ⟨g, k * 2, none⟩ = some (.int .i64 (Nt.at2 xs k).1) ∧ w.cell? ⟨g, k * 2 + 1, none⟩ = some (.int .i64 (Nt.at2 xs k).2) ∧ w.frozen? ⟨g, k * 2, none⟩ = false ∧ w.frozen? ⟨g, k * 2 + 1, none⟩ = false := by
  rcases h.form with ⟨h1, rfl⟩ | ⟨g', cap', e, _, _, _, _, hcell, hfr⟩
  · simp at hk
  · simp only [Value.slice.injEq, Option.some.injEq, Addr.mk.injEq] at e
    obtain ⟨⟨rfl, _, _⟩, _, _⟩ := e
    exact ⟨(hcell k hk).1, (hcell k hk).2, hfr _, hfr _⟩
end Go.Proofs.YtilbdpcijdcffaaDoor
