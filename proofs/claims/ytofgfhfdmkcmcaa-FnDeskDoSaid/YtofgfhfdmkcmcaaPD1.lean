/-
  Texts of deeds, by the model.
-/
import Derived.Test.YtofgfhfdmkcmcaaPV2
import Derived.Test.YtofgfhfdmkcmcaaTxD
namespace Go.Proofs.Ytofgfhfdmkcmcaa
open Go.RowKit

/-- A deed as a value. -/
def dv (d : Nt.Dd) : Value := .agg #[.int .i64 d.kind, .int .i64 d.a, .int .i64 d.b]
theorem dv_eq (k a b : Int) : dv ⟨k, a, b⟩ = .agg #[.int .i64 k, .int .i64 a, .int .i64 b] := rfl
theorem deedT_no1 {k a b : Int} (h : ¬ (0 ≤ a ∧ a ≤ 99)) : Nt.deedT ⟨k, a, b⟩ = [] := by
  refine Nt.deedT_none (fun hd => ?_)
  rcases hd.cases with ⟨x, y, hx, hy, e⟩ | ⟨x, hx, e⟩ | ⟨x, hx, e⟩ | e | e <;> (simp only [Nt.Dd.mk.injEq] at e; omega)
theorem deedT_no2 {k a b : Int} (h : ¬ (0 ≤ b ∧ b ≤ 99)) : Nt.deedT ⟨k, a, b⟩ = [] := by
  refine Nt.deedT_none (fun hd => ?_)
  rcases hd.cases with ⟨x, y, hx, hy, e⟩ | ⟨x, hx, e⟩ | ⟨x, hx, e⟩ | e | e <;> (simp only [Nt.Dd.mk.injEq] at e; omega)
theorem deedT_no3 {k a b : Int} (h0 : ¬ k = 0) (h1 : ¬ (k = 1 ∧ b = 0)) (h3 : ¬ (k = 3 ∧ b = 0)) (h2 : ¬ (k = 2 ∧ a = 0 ∧ b = 0)) (h4 : ¬ (k = 4 ∧ a = 0 ∧ b = 0)) : Nt.deedT ⟨k, a, b⟩ = [] := by
  refine Nt.deedT_none (fun hd => ?_)
  rcases hd.cases with ⟨x, y, hx, hy, e⟩ | ⟨x, hx, e⟩ | ⟨x, hx, e⟩ | e | e <;> (simp only [Nt.Dd.mk.injEq] at e; omega)
theorem deedT_join {a b : Nat} (ha : a ≤ 99) (hb : b ≤ 99) : Nt.deedT ⟨0, a, b⟩ = [106, 111, 105, 110, 32] ++ Nt.digs a ++ [32] ++ Nt.digs b := by
  unfold Nt.deedT
  rw [Nt.deedW_join ha hb, Nt.join_cons 32 _ (by simp), Nt.join_cons 32 _ (by simp)]
  simp [Nt.join, Nt.wJoin]
theorem deedT_light {a : Nat} (ha : a ≤ 99) : Nt.deedT ⟨1, a, 0⟩ = [108, 105, 103, 104, 116, 32] ++ Nt.digs a := by
  unfold Nt.deedT
  rw [Nt.deedW_light ha, Nt.join_cons 32 _ (by simp)]
  simp [Nt.join, Nt.wLight]
theorem deedT_kinds {a : Nat} (ha : a ≤ 99) : Nt.deedT ⟨3, a, 0⟩ = [107, 105, 110, 100, 115, 32] ++ Nt.digs a := by
  unfold Nt.deedT
  rw [Nt.deedW_kinds ha, Nt.join_cons 32 _ (by simp)]
  simp [Nt.join, Nt.wKinds]
theorem deedT_step : Nt.deedT ⟨2, 0, 0⟩ = [115, 116, 101, 112] := by decide
theorem deedT_back : Nt.deedT ⟨4, 0, 0⟩ = [98, 97, 99, 107] := by decide
theorem digs99 {n : Nat} (h : n ≤ 99) : (Nt.digs n).length ≤ 2 := Nt.digs_length (n := n) 1 (by omega)

end Go.Proofs.Ytofgfhfdmkcmcaa
