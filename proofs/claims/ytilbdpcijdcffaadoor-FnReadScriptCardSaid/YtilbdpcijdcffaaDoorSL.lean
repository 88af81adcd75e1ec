/-
  Slices of lights (a time and a node each) that a call makes itself.
-/
import Derived.Test.YtilbdpcijdcffaaDoorKA
import Derived.Test.YtilbdpcijdcffaaDoorSA
namespace Go.Proofs.YtilbdpcijdcffaaDoor
open Go.RowKit

/-- Lights as cells. -/
def lcells (xs : List (Int × Int)) : List Value := xs.flatMap fun l => [.int .i64 l.1, .int .i64 l.2]
theorem lcells_length : ∀ xs : List (Int × Int), (lcells xs).length = xs.length * 2
  | [] => rfl
  | x :: xs => by
    have ih := lcells_length xs
    unfold lcells at *
    rw [List.flatMap_cons, List.length_append, ih, List.length_cons]
    show 2 + xs.length * 2 = (xs.length + 1) * 2
    omega
theorem lcells_append (xs ys : List (Int × Int)) : lcells (xs ++ ys) = lcells xs ++ lcells ys := by simp [lcells]
theorem lcells_get : ∀ (xs : List (Int × Int)) (k : Nat), k < xs.length → (lcells xs)[k * 2]? = some (.int .i64 (Nt.at2 xs k).1) ∧ (lcells xs)[k * 2 + 1]? = some (.int .i64 (Nt.at2 xs k).2)
  | [], k, h => absurd h (by simp)
  | x :: xs, 0, _ => ⟨rfl, rfl⟩
  | x :: xs, k + 1, h => by
    have ih := lcells_get xs k (by simpa using h)
    have e : lcells (x :: xs) = .int .i64 x.1 :: .int .i64 x.2 :: lcells xs := rfl
    have e2 : Nt.at2 (x :: xs) (k + 1) = Nt.at2 xs k := by simp [Nt.at2]
    rw [e, e2, show (k + 1) * 2 = k * 2 + 1 + 1 by omega, List.getElem?_cons_succ, List.getElem?_cons_succ, List.getElem?_cons_succ, List.getElem?_cons_succ]
    exact ih

/-- A slice of lights, at the head of a block from 'base' on that nothing freezes, or nil. -/
def Sg (w : World) (base : Nat) (v : Value) (xs : List (Int × Int)) : Prop := w.ownsRow base 41 2 v xs.length (lcells xs)

theorem Sg.form {w : World} {base : Nat} {v : Value} {xs : List (Int × Int)} (h : Sg w base v xs) :
    (v = .slice none 0 0 ∧ xs = []) ∨ ∃ g cap, v = .slice (some ⟨g, 0, none⟩) xs.length cap ∧ base ≤ g ∧ g < w.heap.size ∧ xs.length ≤ cap ∧ cap ≤ 9223372036854775807 ∧
      (∀ k, k < xs.length → w.cell? ⟨g, k * 2, none⟩ = some (.int .i64 (Nt.at2 xs k).1) ∧ w.cell? ⟨g, k * 2 + 1, none⟩ = some (.int .i64 (Nt.at2 xs k).2)) ∧ (∀ k, w.frozen? ⟨g, k, none⟩ = false) := by
  rcases h.2 with ⟨rfl, hn⟩ | ⟨g, cap, cur, rfl, hb, hg, hc, hm, hs, ht⟩
  · exact .inl ⟨rfl, List.eq_nil_of_length_eq_zero hn⟩
  · refine .inr ⟨g, cap, rfl, hb, (Array.getElem?_eq_some_iff.1 hg).1, hc, by simpa [maxLen] using hm, fun k hk => ⟨?_, ?_⟩, fun k => World.ownsRow.frozenAt h k⟩
    · rw [World.ownsRow.cellAt h (k * 2) (by omega)]
      exact (lcells_get xs k hk).1
    · rw [World.ownsRow.cellAt h (k * 2 + 1) (by omega)]
      exact (lcells_get xs k hk).2
theorem Sg.nil (w : World) (base : Nat) : Sg w base (.slice none 0 0) [] := World.ownsRow_nil w base _ 2
theorem Sg.empty (w : World) : Sg (w.alloc (.cells #[] 41)) w.heap.size (.slice (some ⟨w.heap.size, 0, none⟩) 0 0) [] := by
  have := World.ownsRow_lit (base := w.heap.size) (e := 41) (size := 2) w #[] 0 (Nat.le_refl _) (by simp [maxLen]) (by simp)
  unfold Sg
  exact this
theorem Sg.any {w : World} {base : Nat} {v : Value} {xs : List (Int × Int)} (h : Sg w base v xs) :
    ∃ (a : Option Addr) (cap : Nat), v = .slice a xs.length cap ∧ xs.length ≤ cap ∧ xs.length ≤ 9223372036854775807 ∧
      (∀ k, k < xs.length → ∃ g, a = some ⟨g, 0, none⟩ ∧ base ≤ g ∧ g < w.heap.size ∧ w.cell? ⟨g, k * 2, none⟩ = some (.int .i64 (Nt.at2 xs k).1) ∧ w.cell? ⟨g, k * 2 + 1, none⟩ = some (.int .i64 (Nt.at2 xs k).2)) := by
  rcases h.form with ⟨rfl, rfl⟩ | ⟨g, cap, rfl, hb, hg, hc, hm, hcell, hfr⟩
  · exact ⟨none, 0, rfl, Nat.le_refl _, by simp, fun k hk => by simp at hk⟩
  · exact ⟨_, cap, rfl, hc, by omega, fun k hk => ⟨g, rfl, hb, hg, (hcell k hk).1, (hcell k hk).2⟩⟩
theorem Sg.kept {w w' : World} {base : Nat} {v : Value} {xs : List (Int × Int)} {rows : List Nat} (h : Sg w base v xs) (hk : Kept rows w w') (hn : ∀ g, v.ownBlock = some g → ¬ g ∈ rows) : Sg w' base v xs := by
  refine ⟨h.1, ?_⟩
  rcases h.2 with hn | ⟨g, cap, cur, rfl, hb, hgg, rest⟩
  · exact .inl hn
  · refine .inr ⟨g, cap, cur, rfl, hb, ?_, rest⟩
    rw [hk.block g (Array.getElem?_eq_some_iff.1 hgg).1 (hn g rfl)]
    exact hgg
theorem Sg.stay {w w' : World} {base : Nat} {v : Value} {xs : List (Int × Int)} (h : Sg w base v xs) (hk : Kept [] w w') : Sg w' base v xs := h.kept hk (by simp)
theorem Sg.mono {w : World} {base base' : Nat} {v : Value} {xs : List (Int × Int)} (h : Sg w base v xs) (hb : base' ≤ base) : Sg w base' v xs := by
  refine ⟨h.1, ?_⟩
  rcases h.2 with hn | ⟨g, cap, cur, hv, hbg, rest⟩
  · exact .inl hn
  · exact .inr ⟨g, cap, cur, hv, by omega, rest⟩
theorem Sg.block {w : World} {base : Nat} {v : Value} {xs : List (Int × Int)} (h : Sg w base v xs) {g : Nat} (hg : v.ownBlock = some g) : base ≤ g ∧ g < w.heap.size := World.ownsRow.lt h g hg
theorem Sg.shape {w : World} {base n : Nat} {v : Value} {xs : List (Int × Int)} (h : Sg w base v xs) (hn : xs.length = n) (hp : 0 < n) :
    ∃ g cap, v = .slice (some ⟨g, 0, none⟩) n cap ∧ base ≤ g ∧ g < w.heap.size ∧ (∀ k, k < n → w.cell? ⟨g, k * 2, none⟩ = some (.int .i64 (Nt.at2 xs k).1) ∧ w.cell? ⟨g, k * 2 + 1, none⟩ = some (.int .i64 (Nt.at2 xs k).2)) := by
  subst hn
  rcases h.form with ⟨rfl, rfl⟩ | ⟨g, cap, rfl, hb, hg, hc, hm, hcell, hfr⟩
  · simp at hp
  · exact ⟨g, cap, rfl, hb, hg, hcell⟩

theorem info_light : (Tryd.prog.info? 41).map (fun i => (i.zero, i.size, i.bytes)) = some (some (.agg #[.int .i64 0, .int .i64 0]), 2, 16) := by kernel_rfl

/-- 'append(out, Light{..})' of one light. -/
theorem app_lightW {ops : Array Oper} {rest : List Oper} {o : Oper} {a : Act} {Q : Exit → Act → World → Prop} {w0 : World} (x y : Int) (hgd : o.guard = none) (s z : Operand)
    (ho : o.op = .call { callee := .builtin .append, args := #[s, z], argTypes := #[23, 23] })
    (base : Nat) (v : Value) (xs : List (Int × Int)) (hown : Sg w0 base v xs) (hs : a.eval s = v) (hx : a.eval z = .slice (some ⟨w0.heap.size, 0, none⟩) 1 1)
    (hlen : xs.length ≤ 4000000) (hbase : base ≤ w0.heap.size)
    (h : ∀ v' w', Sg w' base v' (xs ++ [(x, y)]) → Kept v.ownBlock.toList w0 w' → wpList Tryd.prog ops Q rest (a.put o.dst v') w') :
    wpList Tryd.prog ops Q (o :: rest) a (w0.alloc (.cells #[.int .i64 x, .int .i64 y] 41)) := by
  obtain ⟨i0, hi, hz0, hz1, hz2⟩ := info_parts info_light
  refine wpList_append_own _ hgd s z _ ho base 41 i0 (.agg #[.int .i64 0, .int .i64 0]) 2 16 Tryd.underlying23 hi hz0 hz1 hz2 rfl (by decide) v xs.length (lcells xs) hs (World.ownsRow.alloc hown _)
    ⟨w0.heap.size, 0, none⟩ 1 1 [.int .i64 x, .int .i64 y] hx rfl ?_ (by intro u hu; simp at hu; rcases hu with rfl | rfl <;> rfl) (by unfold maxLen; omega) (by omega) (by simp; omega) ?_
  · intro j u hj
    match j, hj with
    | 0, hj => simp at hj; subst hj; simp [Addr.add]
    | 1, hj => simp at hj; subst hj; simp [Addr.add]
  · intro v' w' h1 h2 _
    refine h v' w' ?_ ?_
    · unfold Sg
      rw [List.length_append, lcells_append]
      exact h1
    · refine (Kept.refl _ _).alloc _ |>.grown h2 fun k hk => .inl (by rw [hk]; simp)

theorem app_light {ops : Array Oper} {rest : List Oper} {o : Oper} {a : Act} {Q : Exit → Act → World → Prop} {w0 : World} (x y : Int) (hgd : o.guard = none) (s z : Operand)
    (ho : o.op = .call { callee := .builtin .append, args := #[s, z], argTypes := #[23, 23] })
    (base : Nat) (v : Value) (xs : List (Int × Int)) (hown : Sg w0 base v xs) (hs : a.eval s = v) (hx : a.eval z = .slice (some ⟨w0.heap.size, 0, none⟩) 1 1)
    (hlen : xs.length ≤ 1000000) (hbase : base ≤ w0.heap.size)
    (h : ∀ v' w', Sg w' base v' (xs ++ [(x, y)]) → Kept v.ownBlock.toList w0 w' → wpList Tryd.prog ops Q rest (a.put o.dst v') w') :
    wpList Tryd.prog ops Q (o :: rest) a (w0.alloc (.cells #[.int .i64 x, .int .i64 y] 41)) :=
  app_lightW x y hgd s z ho base v xs hown hs hx (by omega) hbase h
end Go.Proofs.YtilbdpcijdcffaaDoor
