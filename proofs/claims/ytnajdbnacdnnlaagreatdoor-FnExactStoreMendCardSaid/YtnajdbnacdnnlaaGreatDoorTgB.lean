/-
  Slices of structs of three cells that a call makes itself: deeds, places.
-/
import Derived.Test.YtnajdbnacdnnlaaGreatDoorPD1
import Derived.ArgAppend
namespace Go.Proofs.YtnajdbnacdnnlaaGreatDoor
open Go.RowKit

/-- Triples as cells. -/
def tri (xs : List (Value × Value × Value)) : List Value := xs.flatMap fun x => [x.1, x.2.1, x.2.2]
def at3 (xs : List (Value × Value × Value)) (k : Nat) : Value × Value × Value := xs.getD k (undef, undef, undef)
theorem tri_length : ∀ xs : List (Value × Value × Value), (tri xs).length = xs.length * 3
  | [] => rfl
  | x :: xs => by
    have ih := tri_length xs
    unfold tri at *
    rw [List.flatMap_cons, List.length_append, ih, List.length_cons]
    show 3 + xs.length * 3 = (xs.length + 1) * 3
    omega
theorem tri_append (xs ys : List (Value × Value × Value)) : tri (xs ++ ys) = tri xs ++ tri ys := by simp [tri]
theorem tri_get : ∀ (xs : List (Value × Value × Value)) (k : Nat), k < xs.length → (tri xs)[k * 3]? = some (at3 xs k).1 ∧ (tri xs)[k * 3 + 1]? = some (at3 xs k).2.1 ∧ (tri xs)[k * 3 + 2]? = some (at3 xs k).2.2
  | [], k, h => absurd h (by simp)
  | x :: xs, 0, _ => ⟨rfl, rfl, rfl⟩
  | x :: xs, k + 1, h => by
    have ih := tri_get xs k (by simpa using h)
    have e : tri (x :: xs) = x.1 :: x.2.1 :: x.2.2 :: tri xs := rfl
    have e2 : at3 (x :: xs) (k + 1) = at3 xs k := by simp [at3]
    rw [e, e2, show (k + 1) * 3 = k * 3 + 1 + 1 + 1 by omega]
    simp only [List.getElem?_cons_succ]
    exact ih
theorem at3_append_left {xs ys : List (Value × Value × Value)} {k : Nat} (h : k < xs.length) : at3 (xs ++ ys) k = at3 xs k := by
  unfold at3; rw [List.getD_eq_getElem?_getD, List.getElem?_append_left h, ← List.getD_eq_getElem?_getD]
theorem at3_snoc (xs : List (Value × Value × Value)) (x : Value × Value × Value) : at3 (xs ++ [x]) xs.length = x := by simp [at3]

/-- A slice of triples, at the head of a block from 'base' on that nothing freezes, or nil. -/
def Tg (T : TypeId) (w : World) (base : Nat) (v : Value) (xs : List (Value × Value × Value)) : Prop := w.ownsRow base T 3 v xs.length (tri xs)
theorem Tg.form {T : TypeId} {w : World} {base : Nat} {v : Value} {xs : List (Value × Value × Value)} (h : Tg T w base v xs) :
    (v = .slice none 0 0 ∧ xs = []) ∨ ∃ g cap, v = .slice (some ⟨g, 0, none⟩) xs.length cap ∧ base ≤ g ∧ g < w.heap.size ∧ xs.length ≤ cap ∧ cap ≤ 9223372036854775807 ∧
      (∀ k, k < xs.length → w.cell? ⟨g, k * 3, none⟩ = some (at3 xs k).1 ∧ w.cell? ⟨g, k * 3 + 1, none⟩ = some (at3 xs k).2.1 ∧ w.cell? ⟨g, k * 3 + 2, none⟩ = some (at3 xs k).2.2) ∧ (∀ k, w.frozen? ⟨g, k, none⟩ = false) := by
  rcases h.2 with ⟨rfl, hn⟩ | ⟨g, cap, cur, rfl, hb, hg, hc, hm, hs, ht⟩
  · exact .inl ⟨rfl, List.eq_nil_of_length_eq_zero hn⟩
  · refine .inr ⟨g, cap, rfl, hb, (Array.getElem?_eq_some_iff.1 hg).1, hc, by simpa [maxLen] using hm, fun k hk => ⟨?_, ?_, ?_⟩, fun k => World.ownsRow.frozenAt h k⟩
    · rw [World.ownsRow.cellAt h (k * 3) (by omega)]
      exact (tri_get xs k hk).1
    · rw [World.ownsRow.cellAt h (k * 3 + 1) (by omega)]
      exact (tri_get xs k hk).2.1
    · rw [World.ownsRow.cellAt h (k * 3 + 2) (by omega)]
      exact (tri_get xs k hk).2.2
theorem Tg.nil (T : TypeId) (w : World) (base : Nat) : Tg T w base (.slice none 0 0) [] := World.ownsRow_nil w base _ 3
theorem Tg.lit (T : TypeId) (w : World) (xs : List (Value × Value × Value)) (hl : xs.length ≤ 1000) : Tg T (w.alloc (.cells (tri xs).toArray T)) w.heap.size (.slice (some ⟨w.heap.size, 0, none⟩) xs.length xs.length) xs := by
  have := World.ownsRow_lit (base := w.heap.size) (e := T) (size := 3) w (tri xs).toArray xs.length (Nat.le_refl _) (by simp only [maxLen]; omega) (by simp [tri_length])
  unfold Tg
  exact this
theorem Tg.kept {T : TypeId} {w w' : World} {base : Nat} {v : Value} {xs : List (Value × Value × Value)} {rows : List Nat} (h : Tg T w base v xs) (hk : Kept rows w w') (hn : ∀ g, v.ownBlock = some g → ¬ g ∈ rows) : Tg T w' base v xs := by
  refine ⟨h.1, ?_⟩
  rcases h.2 with hn | ⟨g, cap, cur, rfl, hb, hgg, rest⟩
  · exact .inl hn
  · refine .inr ⟨g, cap, cur, rfl, hb, ?_, rest⟩
    rw [hk.block g (Array.getElem?_eq_some_iff.1 hgg).1 (hn g rfl)]
    exact hgg
theorem Tg.stay {T : TypeId} {w w' : World} {base : Nat} {v : Value} {xs : List (Value × Value × Value)} (h : Tg T w base v xs) (hk : Kept [] w w') : Tg T w' base v xs := h.kept hk (by simp)
theorem Tg.mono {T : TypeId} {w : World} {base base' : Nat} {v : Value} {xs : List (Value × Value × Value)} (h : Tg T w base v xs) (hb : base' ≤ base) : Tg T w base' v xs := by
  refine ⟨h.1, ?_⟩
  rcases h.2 with hn | ⟨g, cap, cur, hv, hbg, rest⟩
  · exact .inl hn
  · exact .inr ⟨g, cap, cur, hv, by omega, rest⟩
theorem Tg.block {T : TypeId} {w : World} {base : Nat} {v : Value} {xs : List (Value × Value × Value)} (h : Tg T w base v xs) {g : Nat} (hg : v.ownBlock = some g) : base ≤ g ∧ g < w.heap.size := World.ownsRow.lt h g hg
theorem Tg.any {T : TypeId} {w : World} {base : Nat} {v : Value} {xs : List (Value × Value × Value)} (h : Tg T w base v xs) : ∃ (a : Option Addr) (cap : Nat), v = .slice a xs.length cap := by
  rcases h.form with ⟨rfl, rfl⟩ | ⟨g, cap, rfl, _⟩
  · exact ⟨none, 0, rfl⟩
  · exact ⟨_, cap, rfl⟩
theorem Tg.shape {T : TypeId} {w : World} {base n : Nat} {v : Value} {xs : List (Value × Value × Value)} (h : Tg T w base v xs) (hn : xs.length = n) (hp : 0 < n) :
    ∃ g cap, v = .slice (some ⟨g, 0, none⟩) n cap ∧ base ≤ g ∧ g < w.heap.size ∧ n ≤ cap ∧ cap ≤ 9223372036854775807 ∧ (∀ k, k < n → w.cell? ⟨g, k * 3, none⟩ = some (at3 xs k).1 ∧ w.cell? ⟨g, k * 3 + 1, none⟩ = some (at3 xs k).2.1 ∧ w.cell? ⟨g, k * 3 + 2, none⟩ = some (at3 xs k).2.2) := by
  subst hn
  rcases h.form with ⟨rfl, rfl⟩ | ⟨g, cap, rfl, hb, hg, hc, hm, hcell, hfr⟩
  · simp at hp
  · exact ⟨g, cap, rfl, hb, hg, hc, hm, hcell⟩

/-- 'append(out, ..)' of triples that lie in a block of their own. -/
theorem app_tri {ops : Array Oper} {rest : List Oper} {o : Oper} {a : Act} {Q : Exit → Act → World → Prop} {w0 : World} (T TS : TypeId) (z : Value) (bytes : Nat) (ht : Tryz.prog.underlying TS = some (.slice T)) (hinfo : (Tryz.prog.info? T).map (fun i => (i.zero, i.size, i.bytes)) = some (some z, 3, bytes)) (hz : z.cells.size = 3) (hby : bytes ≤ 100)
    (xs ys : List (Value × Value × Value)) (h1 : ∀ u ∈ tri ys, u.oneCell' = true) (hgd : o.guard = none) (s y : Operand)
    (ho : o.op = .call { callee := .builtin .append, args := #[s, y], argTypes := #[TS, TS] })
    (base : Nat) (v : Value) (hown : Tg T w0 base v xs) (hs : a.eval s = v) (m : Nat) (hm : ys.length = m) (hx : a.eval y = .slice (some ⟨w0.heap.size, 0, none⟩) m m)
    (hlen : xs.length + ys.length ≤ 2000000) (hbase : base ≤ w0.heap.size)
    (h : ∀ v' w', Tg T w' base v' (xs ++ ys) → Kept v.ownBlock.toList w0 w' → wpList Tryz.prog ops Q rest (a.put o.dst v') w') :
    wpList Tryz.prog ops Q (o :: rest) a (w0.alloc (.cells (tri ys).toArray T)) := by
  subst hm
  obtain ⟨i0, hi, hz0, hz1, hz2⟩ := info_parts hinfo
  have hbb : (xs.length + ys.length) * bytes ≤ 2000000 * 100 := Nat.mul_le_mul hlen hby
  refine wpList_append_own _ hgd s y _ ho base T i0 z 3 bytes ht hi hz0 hz1 hz2 hz (by decide) v xs.length (tri xs) hs (World.ownsRow.alloc hown _)
    ⟨w0.heap.size, 0, none⟩ ys.length ys.length (tri ys) hx (tri_length ys) ?_ h1 (by unfold maxLen; omega) (by omega) (by simp; omega) ?_
  · intro j u hj
    have e : (⟨w0.heap.size, 0, none⟩ : Addr).add j = ⟨w0.heap.size, j, none⟩ := by unfold Addr.add; split <;> simp_all
    rw [e]
    have hb := Bk.new w0 T (tri ys).toArray
    exact hb.cell j (by simpa using hj)
  · intro v' w' h1 h2 _
    refine h v' w' ?_ ?_
    · unfold Tg
      rw [List.length_append, tri_append]
      exact h1
    · refine (Kept.refl _ _).alloc _ |>.grown h2 fun k hk => .inl (by rw [hk]; simp)

/-- The same inside a statement whose order is open. -/
theorem step_app_tri {ops : Array Oper} {o : Oper} {a : Act} {K : Act → World → Prop} {Q : Exit → Act → World → Prop} {E : Prop} {W : World} (T TS : TypeId) (z : Value) (bytes : Nat) (ht : Tryz.prog.underlying TS = some (.slice T)) (hinfo : (Tryz.prog.info? T).map (fun i => (i.zero, i.size, i.bytes)) = some (some z, 3, bytes)) (hz : z.cells.size = 3) (hby : bytes ≤ 100)
    (xs ys : List (Value × Value × Value)) (h1 : ∀ u ∈ tri ys, u.oneCell' = true) (hgd : o.guard = none) (s y : Operand)
    (ho : o.op = .call { callee := .builtin .append, args := #[s, y], argTypes := #[TS, TS] })
    (base : Nat) (v : Value) (hown : Tg T W base v xs) (hs : a.eval s = v) (m : Nat) (hm : ys.length = m) (g : Nat) (hx : a.eval y = .slice (some ⟨g, 0, none⟩) m m) (hbk : Bk W g T (tri ys).toArray)
    (hlen : xs.length + ys.length ≤ 2000000) (hbase : base ≤ W.heap.size)
    (h : ∀ v' w', Tg T w' base v' (xs ++ ys) → Kept v.ownBlock.toList W w' → K (a.put o.dst v') w') :
    if Region.wanted o (yielded ops a.tmps) = true then Oper.wp Tryz.prog o a W K Q else E := by
  have hw : Region.wanted o (yielded ops a.tmps) = true := by simp [Region.wanted, hgd]
  rw [if_pos hw]
  subst hm
  obtain ⟨i0, hi, hz0, hz1, hz2⟩ := info_parts hinfo
  have hbb : (xs.length + ys.length) * bytes ≤ 2000000 * 100 := Nat.mul_le_mul hlen hby
  refine wp_append_own W s y _ ho base T i0 z 3 bytes ht hi hz0 hz1 hz2 hz (by decide) v xs.length (tri xs) hs hown
    ⟨g, 0, none⟩ ys.length ys.length (tri ys) hx (tri_length ys) ?_ h1 (by unfold maxLen; omega) (by omega) hbase ?_
  · intro j u hj
    have e : (⟨g, 0, none⟩ : Addr).add j = ⟨g, j, none⟩ := by unfold Addr.add; split <;> simp_all
    rw [e]
    exact hbk.cell j (by simpa using hj)
  · intro v' w' h1 h2 _
    refine h v' w' ?_ ?_
    · unfold Tg
      rw [List.length_append, tri_append]
      exact h1
    · exact (Kept.refl _ _).grown h2 fun k hk => .inl (by rw [hk]; simp)

/-- The same, wherever the triples lie. -/
theorem app_triG {ops : Array Oper} {rest : List Oper} {o : Oper} {a : Act} {Q : Exit → Act → World → Prop} {W : World} (T TS : TypeId) (z : Value) (bytes : Nat) (ht : Tryz.prog.underlying TS = some (.slice T)) (hinfo : (Tryz.prog.info? T).map (fun i => (i.zero, i.size, i.bytes)) = some (some z, 3, bytes)) (hz : z.cells.size = 3) (hby : bytes ≤ 100)
    (xs ys : List (Value × Value × Value)) (h1 : ∀ u ∈ tri ys, u.oneCell' = true) (hgd : o.guard = none) (s y : Operand)
    (ho : o.op = .call { callee := .builtin .append, args := #[s, y], argTypes := #[TS, TS] })
    (base : Nat) (v : Value) (hown : Tg T W base v xs) (hs : a.eval s = v) (m : Nat) (hm : ys.length = m) (g : Nat) (hx : a.eval y = .slice (some ⟨g, 0, none⟩) m m) (hbk : Bk W g T (tri ys).toArray)
    (hlen : xs.length + ys.length ≤ 2000000) (hbase : base ≤ W.heap.size)
    (h : ∀ v' w', Tg T w' base v' (xs ++ ys) → Kept v.ownBlock.toList W w' → wpList Tryz.prog ops Q rest (a.put o.dst v') w') :
    wpList Tryz.prog ops Q (o :: rest) a W := by
  subst hm
  obtain ⟨i0, hi, hz0, hz1, hz2⟩ := info_parts hinfo
  have hbb : (xs.length + ys.length) * bytes ≤ 2000000 * 100 := Nat.mul_le_mul hlen hby
  refine wpList_append_own _ hgd s y _ ho base T i0 z 3 bytes ht hi hz0 hz1 hz2 hz (by decide) v xs.length (tri xs) hs hown
    ⟨g, 0, none⟩ ys.length ys.length (tri ys) hx (tri_length ys) ?_ h1 (by unfold maxLen; omega) (by omega) hbase ?_
  · intro j u hj
    have e : (⟨g, 0, none⟩ : Addr).add j = ⟨g, j, none⟩ := by unfold Addr.add; split <;> simp_all
    rw [e]
    exact hbk.cell j (by simpa using hj)
  · intro v' w' h1 h2 _
    refine h v' w' ?_ ?_
    · unfold Tg
      rw [List.length_append, tri_append]
      exact h1
    · exact (Kept.refl _ _).grown h2 fun k hk => .inl (by rw [hk]; simp)

/-! Deeds. -/
def d3 (d : Nt.Dd) : Value × Value × Value := (.int .i64 d.kind, .int .i64 d.a, .int .i64 d.b)
def Dg (w : World) (base : Nat) (v : Value) (ds : List Nt.Dd) : Prop := Tg 41 w base v (ds.map d3)
theorem info_deed : (Tryz.prog.info? 41).map (fun i => (i.zero, i.size, i.bytes)) = some (some (.agg #[.int .i64 0, .int .i64 0, .int .i64 0]), 3, 24) := by kernel_rfl
theorem d3_one (ds : List Nt.Dd) : ∀ u ∈ tri (ds.map d3), u.oneCell' = true := by
  intro u hu
  unfold tri at hu
  rw [List.mem_flatMap] at hu
  obtain ⟨x, hx, hu⟩ := hu
  rw [List.mem_map] at hx
  obtain ⟨d, _, rfl⟩ := hx
  simp [d3] at hu
  rcases hu with rfl | rfl | rfl <;> rfl
theorem d3_at (ds : List Nt.Dd) {k : Nat} (h : k < ds.length) : at3 (ds.map d3) k = d3 (ds.getD k ⟨0, 0, 0⟩) := by
  simp [at3, List.getD_eq_getElem?_getD, h]
end Go.Proofs.YtnajdbnacdnnlaaGreatDoor
