/-
  Slices of truths that a call makes itself.
-/
import Derived.Test.YtlcbpnbehbgbeaaKA
namespace Go.Proofs.Ytlcbpnbehbgbeaa
open Go.RowKit

def bcells (bs : List Bool) : List Value := bs.map .bool
def Sb (w : World) (base : Nat) (v : Value) (bs : List Bool) : Prop := w.ownsRow base 4 1 v bs.length (bcells bs)
theorem bcells_length (bs : List Bool) : (bcells bs).length = bs.length := by simp [bcells]
theorem bcells_get (bs : List Bool) (k : Nat) (h : k < bs.length) : (bcells bs)[k]? = some (.bool (bs.getD k false)) := by
  simp [bcells, List.getD_eq_getElem?_getD, h]
theorem Sb.at {w : World} {base g n cap : Nat} {bs : List Bool} (h : Sb w base (.slice (some ⟨g, 0, none⟩) n cap) bs) (hn : n = bs.length) (k : Nat) (hk : k < n) :
    w.cell? ⟨g, k, none⟩ = some (.bool (bs.getD k false)) ∧ w.frozen? ⟨g, k, none⟩ = false := by
  subst hn
  refine ⟨?_, World.ownsRow.frozenAt h k⟩
  rw [World.ownsRow.cellAt h k (by omega)]
  exact bcells_get bs k hk
theorem Sb.kept {w w' : World} {base : Nat} {v : Value} {bs : List Bool} {rows : List Nat} (h : Sb w base v bs) (hk : Kept rows w w') (hn : ∀ g, v.ownBlock = some g → ¬ g ∈ rows) : Sb w' base v bs := by
  refine ⟨h.1, ?_⟩
  rcases h.2 with hn | ⟨g, cap, cur, rfl, hb, hgg, rest⟩
  · exact .inl hn
  · refine .inr ⟨g, cap, cur, rfl, hb, ?_, rest⟩
    rw [hk.block g (Array.getElem?_eq_some_iff.1 hgg).1 (hn g rfl)]
    exact hgg
theorem Sb.stay {w w' : World} {base : Nat} {v : Value} {bs : List Bool} (h : Sb w base v bs) (hk : Kept [] w w') : Sb w' base v bs := h.kept hk (by simp)
theorem Sb.block {w : World} {base : Nat} {v : Value} {bs : List Bool} (h : Sb w base v bs) {g : Nat} (hg : v.ownBlock = some g) : base ≤ g ∧ g < w.heap.size := World.ownsRow.lt h g hg
theorem bcells_set (bs : List Bool) (k : Nat) (b : Bool) : (bcells bs).set k (.bool b) = bcells (bs.set k b) := by simp [bcells, List.map_set]
theorem Sb.set {w : World} {base g cap n : Nat} {bs : List Bool} (h : Sb w base (.slice (some ⟨g, 0, none⟩) n cap) bs) (hn : n = bs.length) (k : Nat) (b : Bool) :
    Sb (w.setCell ⟨g, k, none⟩ (.bool b)) base (.slice (some ⟨g, 0, none⟩) n cap) (bs.set k b) := by
  subst hn
  have := (World.ownsRow.stored h k (.bool b)).1
  unfold Sb
  rw [List.length_set, ← bcells_set]
  exact this
theorem info_bool : (Try.prog.info? 4).map (fun i => (i.zero, i.size, i.bytes)) = some (some (.bool false), 1, 1) := by kernel_rfl
/-- 'make([]bool, n)'. -/
theorem make_bool {ops : Array Oper} {rest : List Oper} {o : Oper} {a : Act} {Q : Exit → Act → World → Prop} (w : World) (n : Nat)
    (hg : o.guard = none) (l c : Operand) (hop : o.op = Op.makeSlice 52 l c) (hl : a.eval l = .int .i64 n) (hc : a.eval c = .int .i64 n) (hn : n ≤ 2000000)
    (h : ∀ w', Sb w' w.heap.size (.slice (some ⟨w.heap.size, 0, none⟩) n n) (List.replicate n false) → Kept [] w w' → w.heap.size < w'.heap.size →
      wpList Try.prog ops Q rest (a.put o.dst (.slice (some ⟨w.heap.size, 0, none⟩) n n)) w') : wpList Try.prog ops Q (o :: rest) a w := by
  obtain ⟨i0, hi, hz0, hz1, hz2⟩ := info_parts info_bool
  refine wpList_make_full w hg l c _ hop w.heap.size 4 i0 (.bool false) 1 Try.underlying52 hi hz0 hz1 .i64 .i64 n n n hl hc rfl rfl (by rw [hz2]; omega) (by unfold maxLen; omega) (Nat.le_refl _) ?_
  intro w' h1 h2
  have hs : Sb w' w.heap.size (.slice (some ⟨w.heap.size, 0, none⟩) n n) (List.replicate n false) := by
    unfold Sb
    have e : bcells (List.replicate n false) = (madeCells (Value.bool false).cells (n * 1)).toList := by
      rw [show (Value.bool false).cells = #[Value.bool false] from rfl, toList_madeCells_one]
      simp [bcells]
    rw [List.length_replicate, e]
    exact h1
  exact h w' hs ((Kept.refl _ _).grown h2 (by simp)) (hs.block (g := w.heap.size) rfl).2
end Go.Proofs.Ytlcbpnbehbgbeaa
