/-
  Slices of texts that a call makes itself.
-/
import Derived.Test.YtnajdbnacdnnlaaGreatDoorKA
import Derived.Test.YtnajdbnacdnnlaaGreatDoorTxB
import Derived.Test.YtnajdbnacdnnlaaGreatDoorTxE
import Derived.Test.YtnajdbnacdnnlaaGreatDoorSA
import Derived.Lib.Strings
namespace Go.Proofs.YtnajdbnacdnnlaaGreatDoor
open Go.RowKit

/-- Texts as cells. -/
def tcells (xs : List ByteArray) : List Value := xs.map Value.string
theorem tcells_length (xs : List ByteArray) : (tcells xs).length = xs.length := by simp [tcells]
theorem tcells_append (xs ys : List ByteArray) : tcells (xs ++ ys) = tcells xs ++ tcells ys := by simp [tcells]
/-- The text at a place, the empty one beyond. -/
def atT (xs : List ByteArray) (k : Nat) : ByteArray := xs.getD k ByteArray.empty
theorem atT_get {xs : List ByteArray} {k : Nat} (h : k < xs.length) : atT xs k = xs[k] := by
  simp [atT, List.getD_eq_getElem?_getD, h]
theorem tcells_get (xs : List ByteArray) (k : Nat) (h : k < xs.length) : (tcells xs)[k]? = some (.string (atT xs k)) := by
  simp [tcells, atT, List.getD_eq_getElem?_getD, h]

/-- A slice of texts, at the head of a block from 'base' on that nothing freezes, or nil. -/
def Ts (w : World) (base : Nat) (v : Value) (xs : List ByteArray) : Prop := w.ownsRow base 9 1 v xs.length (tcells xs)

theorem Ts.form {w : World} {base : Nat} {v : Value} {xs : List ByteArray} (h : Ts w base v xs) :
    (v = .slice none 0 0 ∧ xs = []) ∨ ∃ g cap, v = .slice (some ⟨g, 0, none⟩) xs.length cap ∧ base ≤ g ∧ g < w.heap.size ∧ xs.length ≤ cap ∧ cap ≤ 9223372036854775807 ∧
      (∀ k, k < xs.length → w.cell? ⟨g, k, none⟩ = some (.string (atT xs k))) ∧ (∀ k, w.frozen? ⟨g, k, none⟩ = false) := by
  rcases h.2 with ⟨rfl, hn⟩ | ⟨g, cap, cur, rfl, hb, hg, hc, hm, hs, ht⟩
  · exact .inl ⟨rfl, List.eq_nil_of_length_eq_zero hn⟩
  · refine .inr ⟨g, cap, rfl, hb, (Array.getElem?_eq_some_iff.1 hg).1, hc, by simpa [maxLen] using hm, fun k hk => ?_, fun k => World.ownsRow.frozenAt h k⟩
    rw [World.ownsRow.cellAt h k (by omega)]
    exact tcells_get xs k hk
theorem Ts.empty (w : World) : Ts (w.alloc (.cells #[] 9)) w.heap.size (.slice (some ⟨w.heap.size, 0, none⟩) 0 0) [] := by
  have := World.ownsRow_lit (base := w.heap.size) (e := 9) (size := 1) w #[] 0 (Nat.le_refl _) (by simp [maxLen]) (by simp)
  unfold Ts
  exact this
theorem Ts.any {w : World} {base : Nat} {v : Value} {xs : List ByteArray} (h : Ts w base v xs) :
    ∃ (a : Option Addr) (cap : Nat), v = .slice a xs.length cap ∧ xs.length ≤ cap ∧ xs.length ≤ 9223372036854775807 ∧
      (∀ k, k < xs.length → ∃ g, a = some ⟨g, 0, none⟩ ∧ base ≤ g ∧ g < w.heap.size ∧ w.cell? ⟨g, k, none⟩ = some (.string (atT xs k))) := by
  rcases h.form with ⟨rfl, rfl⟩ | ⟨g, cap, rfl, hb, hg, hc, hm, hcell, hfr⟩
  · exact ⟨none, 0, rfl, Nat.le_refl _, by simp, fun k hk => by simp at hk⟩
  · exact ⟨_, cap, rfl, hc, by omega, fun k hk => ⟨g, rfl, hb, hg, hcell k hk⟩⟩
theorem Ts.kept {w w' : World} {base : Nat} {v : Value} {xs : List ByteArray} {rows : List Nat} (h : Ts w base v xs) (hk : Kept rows w w') (hn : ∀ g, v.ownBlock = some g → ¬ g ∈ rows) : Ts w' base v xs := by
  refine ⟨h.1, ?_⟩
  rcases h.2 with hn | ⟨g, cap, cur, rfl, hb, hgg, rest⟩
  · exact .inl hn
  · refine .inr ⟨g, cap, cur, rfl, hb, ?_, rest⟩
    rw [hk.block g (Array.getElem?_eq_some_iff.1 hgg).1 (hn g rfl)]
    exact hgg
theorem Ts.stay {w w' : World} {base : Nat} {v : Value} {xs : List ByteArray} (h : Ts w base v xs) (hk : Kept [] w w') : Ts w' base v xs := h.kept hk (by simp)
theorem Ts.mono {w : World} {base base' : Nat} {v : Value} {xs : List ByteArray} (h : Ts w base v xs) (hb : base' ≤ base) : Ts w base' v xs := by
  refine ⟨h.1, ?_⟩
  rcases h.2 with hn | ⟨g, cap, cur, hv, hbg, rest⟩
  · exact .inl hn
  · exact .inr ⟨g, cap, cur, hv, by omega, rest⟩
theorem Ts.block {w : World} {base : Nat} {v : Value} {xs : List ByteArray} (h : Ts w base v xs) {g : Nat} (hg : v.ownBlock = some g) : base ≤ g ∧ g < w.heap.size := World.ownsRow.lt h g hg

theorem info_text : (Tryz.prog.info? 9).map (fun i => (i.zero, i.size, i.bytes)) = some (some (.string ByteArray.empty), 1, 16) := by kernel_rfl

/-- 'append(out, s)' of one text. -/
theorem app_text {ops : Array Oper} {rest : List Oper} {o : Oper} {a : Act} {Q : Exit → Act → World → Prop} {w0 : World} (x : ByteArray) (hgd : o.guard = none) (s z : Operand)
    (ho : o.op = .call { callee := .builtin .append, args := #[s, z], argTypes := #[50, 50] })
    (base : Nat) (v : Value) (xs : List ByteArray) (hown : Ts w0 base v xs) (hs : a.eval s = v) (hx : a.eval z = .slice (some ⟨w0.heap.size, 0, none⟩) 1 1)
    (hlen : xs.length ≤ 4000000) (hbase : base ≤ w0.heap.size)
    (h : ∀ v' w', Ts w' base v' (xs ++ [x]) → Kept v.ownBlock.toList w0 w' → wpList Tryz.prog ops Q rest (a.put o.dst v') w') :
    wpList Tryz.prog ops Q (o :: rest) a (w0.alloc (.cells #[.string x] 9)) := by
  obtain ⟨i0, hi, hz0, hz1, hz2⟩ := info_parts info_text
  refine wpList_append_own _ hgd s z _ ho base 9 i0 (.string ByteArray.empty) 1 16 Tryz.underlying50 hi hz0 hz1 hz2 rfl (by decide) v xs.length (tcells xs) hs (World.ownsRow.alloc hown _)
    ⟨w0.heap.size, 0, none⟩ 1 1 [.string x] hx rfl ?_ (by intro u hu; simp at hu; rcases hu with rfl; rfl) (by unfold maxLen; omega) (by omega) (by simp; omega) ?_
  · intro j u hj
    match j, hj with
    | 0, hj => simp at hj; subst hj; simp [Addr.add]
  · intro v' w' h1 h2 _
    refine h v' w' ?_ ?_
    · unfold Ts
      rw [List.length_append, tcells_append]
      exact h1
    · refine (Kept.refl _ _).alloc _ |>.grown h2 fun k hk => .inl (by rw [hk]; simp)
end Go.Proofs.YtnajdbnacdnnlaaGreatDoor
