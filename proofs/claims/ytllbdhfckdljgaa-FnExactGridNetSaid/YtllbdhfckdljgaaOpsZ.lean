/-
  append to a slice that may be an empty literal of before, as a law for the walk.
-/
import Derived.Test.YtllbdhfckdljgaaKA
import Derived.ArgAppend
namespace Go.Proofs.Ytllbdhfckdljgaa
open Go.RowKit

/-- A slice behind 'base', or an empty one without room, wherever it lies. -/
def Sz (w : World) (base : Nat) (v : Value) (xs : List Int) : Prop := Sl w base v xs ∨ (xs = [] ∧ ∃ ao, v = .slice ao 0 0)
theorem Sz.stay {w w' : World} {base : Nat} {v : Value} {xs : List Int} (h : Sz w base v xs) (hk : Kept [] w w') : Sz w' base v xs := h.imp (fun h => h.stay hk) id
theorem Sz.any {w : World} {base : Nat} {v : Value} {xs : List Int} (h : Sz w base v xs) : ∃ a cap, v = .slice a xs.length cap := by
  rcases h with h | ⟨rfl, ao, rfl⟩
  · obtain ⟨a, cap, rfl, _⟩ := h.any
    exact ⟨a, cap, rfl⟩
  · exact ⟨ao, 0, rfl⟩

/-- 'append(out, x)' of one number. -/
theorem app_int_z {ops : Array Oper} {rest : List Oper} {o : Oper} {a : Act} {Q : Exit → Act → World → Prop} {w0 : World} (x : Int) (hgd : o.guard = none) (s y : Operand)
    (ho : o.op = .call { callee := .builtin .append, args := #[s, y], argTypes := #[25, 25] })
    (wB : World) (hkB : Kept [] wB w0) (v : Value) (xs : List Int) (hown : Sz w0 wB.heap.size v xs) (hs : a.eval s = v) (hx : a.eval y = .slice (some ⟨w0.heap.size, 0, none⟩) 1 1)
    (hlen : xs.length ≤ 1000000)
    (h : ∀ v' w', Sl w' wB.heap.size v' (xs ++ [x]) → Kept [] wB w' → wpList Try.prog ops Q rest (a.put o.dst v') w') :
    wpList Try.prog ops Q (o :: rest) a (w0.alloc (.cells #[.int .i64 x] 3)) := by
  rcases hown with hown | ⟨rfl, ao, rfl⟩
  · exact app_int x hgd s y ho wB.heap.size v xs hown hs hx hlen hkB.size fun v' w' h1 h2 => h v' w' h1 (hkB.own h2 fun g hg => (hown.block hg).1)
  · obtain ⟨i0, hi, hz0, hz1, hz2⟩ := info_parts info_int
    refine wpList_append_grows _ hgd s y _ ho 3 i0 (.int .i64 0) 1 8 Try.underlying25 hi hz0 hz1 hz2 rfl (by decide) ao 0 0 [] hs (fun _ => ⟨rfl, rfl⟩) rfl (fun _ _ j u hu => by simp at hu)
      ⟨w0.heap.size, 0, none⟩ 1 1 [.int .i64 x] hx rfl (cell_one_new _ _ _) (by intro u hu; simp at hu; subst hu; rfl) (by omega) (by simp [maxLen]) (by omega) ?_
    intro v' w' h1 h2
    have hk : Kept [] w0 w' := ((Kept.refl _ _).alloc _).grown h2 (by simp)
    have hs1 : Sl w' (w0.alloc (.cells #[.int .i64 x] 3)).heap.size v' [x] := h1
    exact h v' w' (hs1.mono (Nat.le_trans hkB.size (by simp))) (hkB.trans hk (by simp))
end Go.Proofs.Ytllbdhfckdljgaa
