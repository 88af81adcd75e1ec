/-
  Slices of triples made and written to.
-/
import Derived.Test.YtaacehdfpoiljaaDoorTgB
import Derived.Test.YtaacehdfpoiljaaDoorPureJL
namespace Go.Proofs.YtaacehdfpoiljaaDoor
open Go.RowKit

theorem tri_rep (a b c : Value) (n : Nat) : (madeCells #[a, b, c] (n * 3)).toList = tri (List.replicate n (a, b, c)) := by
  apply List.ext_getElem?
  intro i
  by_cases h : i < n * 3
  · obtain ⟨g0, g1, g2⟩ := tri_get (List.replicate n (a, b, c)) (i / 3) (by simp; omega)
    have e : at3 (List.replicate n (a, b, c)) (i / 3) = (a, b, c) := by
      unfold at3
      rw [List.getD_eq_getElem?_getD, List.getElem?_replicate, if_pos (by omega)]; rfl
    rw [e] at g0 g1 g2
    have e1 : (madeCells #[a, b, c] (n * 3)).toList[i]? = some (#[a, b, c][i % 3]!) := by
      unfold madeCells
      simp [h]
    rw [e1]
    have hm : i % 3 = 0 ∨ i % 3 = 1 ∨ i % 3 = 2 := by omega
    rcases hm with hm | hm | hm
    · rw [show i / 3 * 3 = i by omega] at g0
      rw [hm, g0]; rfl
    · rw [show i / 3 * 3 + 1 = i by omega] at g1
      rw [hm, g1]; rfl
    · rw [show i / 3 * 3 + 2 = i by omega] at g2
      rw [hm, g2]; rfl
  · rw [List.getElem?_eq_none (by rw [Array.length_toList, size_madeCells]; omega), List.getElem?_eq_none (by rw [tri_length]; simp; omega)]

/-- 'make([]T, n)' of structs of three cells. -/
theorem make_tri {ops : Array Oper} {rest : List Oper} {o : Oper} {a : Act} {Q : Exit → Act → World → Prop} (T TS : TypeId) (x y z : Value) (bytes : Nat) (ht : Tryd.prog.underlying TS = some (.slice T)) (hinfo : (Tryd.prog.info? T).map (fun i => (i.zero, i.size, i.bytes)) = some (some (.agg #[x, y, z]), 3, bytes)) (hby : bytes ≤ 100) (hce : (Value.agg #[x, y, z]).cells = #[x, y, z])
    (w : World) (n : Nat) (hg : o.guard = none) (l c : Operand) (hop : o.op = Op.makeSlice TS l c) (hl : a.eval l = .int .i64 n) (hc : a.eval c = .int .i64 n) (hn : n ≤ 2000000)
    (h : ∀ w', Tg T w' w.heap.size (.slice (some ⟨w.heap.size, 0, none⟩) n n) (List.replicate n (x, y, z)) → Kept [] w w' → w.heap.size < w'.heap.size →
      wpList Tryd.prog ops Q rest (a.put o.dst (.slice (some ⟨w.heap.size, 0, none⟩) n n)) w') : wpList Tryd.prog ops Q (o :: rest) a w := by
  obtain ⟨i0, hi, hz0, hz1, hz2⟩ := info_parts hinfo
  have hbb : bytes * n ≤ 100 * 2000000 := Nat.mul_le_mul hby hn
  refine wpList_make_full w hg l c _ hop w.heap.size T i0 (.agg #[x, y, z]) 3 ht hi hz0 hz1 .i64 .i64 n n n hl hc rfl rfl (by rw [hz2]; omega) (by unfold maxLen; omega) (Nat.le_refl _) ?_
  intro w' h1 h2
  have hs : Tg T w' w.heap.size (.slice (some ⟨w.heap.size, 0, none⟩) n n) (List.replicate n (x, y, z)) := by
    unfold Tg
    rw [hce, tri_rep] at h1
    rw [List.length_replicate]
    exact h1
  exact h w' hs ((Kept.refl _ _).grown h2 (by simp)) (hs.block (g := w.heap.size) rfl).2

theorem tri_set : ∀ (xs : List (Value × Value × Value)) (k : Nat) (a b c : Value), k < xs.length → (((tri xs).set (k * 3) a).set (k * 3 + 1) b).set (k * 3 + 2) c = tri (xs.set k (a, b, c))
  | [], _, _, _, _, h => absurd h (by simp)
  | x :: xs, 0, a, b, c, _ => rfl
  | x :: xs, k + 1, a, b, c, h => by
    have ih := tri_set xs k a b c (by simpa using h)
    have e : ∀ (y : Value × Value × Value) (ys : List (Value × Value × Value)), tri (y :: ys) = y.1 :: y.2.1 :: y.2.2 :: tri ys := fun _ _ => rfl
    rw [e, show (k + 1) * 3 = k * 3 + 1 + 1 + 1 by omega]
    rw [show k * 3 + 1 + 1 + 1 + 1 = (k * 3 + 1) + 1 + 1 + 1 by omega, show k * 3 + 1 + 1 + 1 + 2 = (k * 3 + 2) + 1 + 1 + 1 by omega]
    simp only [List.set_cons_succ]
    rw [ih, e]

/-- A struct written at a place. -/
theorem Tg.set3 {T : TypeId} {w : World} {base g cap n : Nat} {xs : List (Value × Value × Value)} (h : Tg T w base (.slice (some ⟨g, 0, none⟩) n cap) xs) (hn : n = xs.length) (k : Nat) (hk : k < n) (a b c : Value) :
    Tg T (((w.setCell ⟨g, k * 3, none⟩ a).setCell ⟨g, k * 3 + 1, none⟩ b).setCell ⟨g, k * 3 + 2, none⟩ c) base (.slice (some ⟨g, 0, none⟩) n cap) (xs.set k (a, b, c)) := by
  subst hn
  have h1 := (World.ownsRow.stored h (k * 3) a).1
  have h2 := (World.ownsRow.stored h1 (k * 3 + 1) b).1
  have h3 := (World.ownsRow.stored h2 (k * 3 + 2) c).1
  unfold Tg
  rw [tri_set xs k a b c hk] at h3
  rw [List.length_set]
  exact h3

theorem at3_set (xs : List (Value × Value × Value)) (k j : Nat) (x : Value × Value × Value) (h : k < xs.length) : at3 (xs.set k x) j = if j = k then x else at3 xs j := by
  unfold at3
  rw [List.getD_eq_getElem?_getD, List.getElem?_set]
  by_cases e : k = j
  · subst e; rw [if_pos rfl, if_pos rfl, if_pos h]; rfl
  · rw [if_neg e, if_neg (fun h => e h.symm), List.getD_eq_getElem?_getD]

theorem Kept.tri3 {rows : List Nat} {w w' : World} {g : Nat} (h : Kept rows w w') (hg : g ∈ rows ∨ w.heap.size ≤ g) (i j k : Nat) (a b c : Value) : Kept rows w (((w'.setCell ⟨g, i, none⟩ a).setCell ⟨g, j, none⟩ b).setCell ⟨g, k, none⟩ c) :=
  ((h.setCell hg a).setCell hg b).setCell hg c

/-! A desk whose parts all lie apart, one behind the other. -/
end Go.Proofs.YtaacehdfpoiljaaDoor
