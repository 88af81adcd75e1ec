/-
  append of a whole slice, and make without elements, as laws for the walk.
-/
import Derived.Test.YtahjplaidkibpaaOps
namespace Go.Proofs.Ytahjplaidkibpaa
open Go.RowKit

/-- 'append(out, ys...)'. -/
theorem app_sl {ops : Array Oper} {rest : List Oper} {o : Oper} {a : Act} {Q : Exit → Act → World → Prop} {w0 : World} (hgd : o.guard = none) (s y : Operand)
    (ho : o.op = .call { callee := .builtin .append, args := #[s, y], argTypes := #[23, 23] })
    (base : Nat) (v : Value) (xs : List Int) (hown : Sl w0 base v xs) (hs : a.eval s = v) (base' : Nat) (u : Value) (ys : List Int) (hy : Sl w0 base' u ys) (hne : 0 < ys.length) (hx : a.eval y = u)
    (hlen : xs.length + ys.length ≤ 1000000) (hbase : base ≤ w0.heap.size)
    (h : ∀ v' w', Sl w' base v' (xs ++ ys) → Kept v.ownBlock.toList w0 w' → wpList Try.prog ops Q rest (a.put o.dst v') w') :
    wpList Try.prog ops Q (o :: rest) a w0 := by
  obtain ⟨i0, hi, hz0, hz1, hz2⟩ := info_parts info_int
  obtain ⟨g, cap, rfl, _, _⟩ := hy.shape rfl hne
  refine wpList_append_own _ hgd s y _ ho base 3 i0 (.int .i64 0) 1 8 Try.underlying23 hi hz0 hz1 hz2 rfl (by decide) v xs.length (ints xs) hs hown
    ⟨g, 0, none⟩ ys.length cap (ints ys) hx (by simp [ints]) ?_ (ints_oneCell _ _) (by unfold maxLen; omega) (by omega) hbase ?_
  · intro j z hz
    have hj : j < ys.length := by
      have := (List.getElem?_eq_some_iff.1 hz).1
      simpa [ints] using this
    rw [ints_get ys j hj] at hz
    have hc := (hy.at j hj).1
    have e : (⟨g, 0, none⟩ : Addr).add j = ⟨g, j, none⟩ := by unfold Addr.add; split <;> simp_all
    rw [e, hc, hz]
  · intro v' w' h1 h2 _
    refine h v' w' ?_ ?_
    · unfold Sl
      rw [List.length_append, ints_append]
      exact h1
    · exact (Kept.refl _ _).grown h2 fun k hk => .inl (by rw [hk]; simp)

/-- 'make([]int, 0, n)'. -/
theorem make0_int {ops : Array Oper} {rest : List Oper} {o : Oper} {a : Act} {Q : Exit → Act → World → Prop} (w : World) (n : Nat)
    (hg : o.guard = none) (l c : Operand) (hop : o.op = Op.makeSlice 23 l c) (hl : a.eval l = .int .i64 0) (C : Int) (hc : a.eval c = .int .i64 C) (hC : C = (n : Int)) (hn : n ≤ 2000000)
    (h : ∀ w', Sl w' w.heap.size (.slice (some ⟨w.heap.size, 0, none⟩) 0 n) [] → Kept [] w w' → w.heap.size < w'.heap.size →
      wpList Try.prog ops Q rest (a.put o.dst (.slice (some ⟨w.heap.size, 0, none⟩) 0 n)) w') : wpList Try.prog ops Q (o :: rest) a w := by
  obtain ⟨i0, hi, hz0, hz1, hz2⟩ := info_parts info_int
  refine wpList_make_own w hg l c _ hop w.heap.size 3 i0 (.int .i64 0) 1 Try.underlying23 hi hz0 hz1 .i64 .i64 C n hl hc hC (by rw [hz2]; omega) (by unfold maxLen; omega) (Nat.le_refl _) ?_
  intro w' h1 h2
  have hs : Sl w' w.heap.size (.slice (some ⟨w.heap.size, 0, none⟩) 0 n) [] := h1
  exact h w' hs ((Kept.refl _ _).grown h2 (by simp)) (hs.block (g := w.heap.size) rfl).2

/-- 'make([]int, n)' behind a guard that lets it run. -/
theorem make_int_g {ops : Array Oper} {rest : List Oper} {o : Oper} {a : Act} {Q : Exit → Act → World → Prop} (w : World) (n : Nat)
    (hw : Region.wanted o (yielded ops a.tmps) = true) (l c : Operand) (hop : o.op = Op.makeSlice 23 l c) (hl : a.eval l = .int .i64 n) (hc : a.eval c = .int .i64 n) (hn : n ≤ 2000000)
    (h : ∀ w', Sl w' w.heap.size (.slice (some ⟨w.heap.size, 0, none⟩) n n) (List.replicate n 0) → Kept [] w w' → w.heap.size < w'.heap.size →
      wpList Try.prog ops Q rest (a.put o.dst (.slice (some ⟨w.heap.size, 0, none⟩) n n)) w') : wpList Try.prog ops Q (o :: rest) a w := by
  obtain ⟨i0, hi, hz0, hz1, hz2⟩ := info_parts info_int
  obtain ⟨w', hrun, h1, h2⟩ := run_make_full (P := Try.prog) w w.heap.size 23 3 i0 (.int .i64 0) 1 Try.underlying23 hi hz0 hz1 .i64 .i64 n (by rw [hz2]; omega) (by unfold maxLen; omega) (Nat.le_refl _)
  have hs : Sl w' w.heap.size (.slice (some ⟨w.heap.size, 0, none⟩) n n) (List.replicate n 0) := by
    unfold Sl
    have e : ints (List.replicate n 0) = (madeCells (Value.int .i64 0).cells (n * 1)).toList := by
      rw [show (Value.int IntKind.i64 0).cells = #[Value.int .i64 0] from rfl, toList_madeCells_one]
      simp [ints]
    rw [List.length_replicate, e]
    exact h1
  unfold wpList
  rw [if_pos hw]
  left
  unfold Oper.wp
  simp [execOp, hop, hl, hc, hrun, Result.andThen]
  exact h w' hs ((Kept.refl _ _).grown h2 (by simp)) (hs.block (g := w.heap.size) rfl).2
end Go.Proofs.Ytahjplaidkibpaa
