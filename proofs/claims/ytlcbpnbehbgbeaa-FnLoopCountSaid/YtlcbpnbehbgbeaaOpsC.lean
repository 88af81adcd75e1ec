/-
  append of one number, and where what comes of it lies.
-/
import Derived.Test.YtlcbpnbehbgbeaaKA
import Derived.Maps.AppendAt
namespace Go.Proofs.Ytlcbpnbehbgbeaa
open Go.RowKit

/-- 'append(out, x)' of one number: the block is the same one, or new. -/
theorem app_int_at {ops : Array Oper} {rest : List Oper} {o : Oper} {a : Act} {Q : Exit → Act → World → Prop} {w0 : World} (x : Int) (hgd : o.guard = none) (s y : Operand)
    (ho : o.op = .call { callee := .builtin .append, args := #[s, y], argTypes := #[23, 23] })
    (base : Nat) (v : Value) (xs : List Int) (hown : Sl w0 base v xs) (hs : a.eval s = v) (hx : a.eval y = .slice (some ⟨w0.heap.size, 0, none⟩) 1 1)
    (hlen : xs.length ≤ 1000000) (hbase : base ≤ w0.heap.size)
    (h : ∀ v' w', Sl w' base v' (xs ++ [x]) → Kept v.ownBlock.toList w0 w' → (∀ g, v'.ownBlock = some g → v.ownBlock = some g ∨ w0.heap.size ≤ g) → wpList Try.prog ops Q rest (a.put o.dst v') w') :
    wpList Try.prog ops Q (o :: rest) a (w0.alloc (.cells #[.int .i64 x] 3)) := by
  obtain ⟨i0, hi, hz0, hz1, hz2⟩ := info_parts info_int
  refine wpList_append_own_at _ hgd s y _ ho base 3 i0 (.int .i64 0) 1 8 Try.underlying23 hi hz0 hz1 hz2 rfl (by decide) v xs.length (ints xs) hs (World.ownsRow.alloc hown _)
    ⟨w0.heap.size, 0, none⟩ 1 1 [.int .i64 x] hx rfl (cell_one_new _ _ _) (by intro u hu; simp at hu; subst hu; rfl) (by unfold maxLen; omega) (by omega) (by simp; omega) ?_
  intro v' w' h1 h2 _ h4
  refine h v' w' ?_ ?_ ?_
  · unfold Sl
    rw [List.length_append, ints_append]
    exact h1
  · refine (Kept.refl _ _).alloc _ |>.grown h2 fun k hk => .inl (by rw [hk]; simp)
  · intro g hg
    rcases h4 with h4 | h4
    · exact .inl (by rw [← h4]; exact hg)
    · right
      rw [h4] at hg
      simp at hg
      omega
end Go.Proofs.Ytlcbpnbehbgbeaa
