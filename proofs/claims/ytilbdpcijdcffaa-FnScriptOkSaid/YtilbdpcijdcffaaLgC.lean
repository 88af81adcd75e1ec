/-
  Slices of lights: a slice laid behind another.
-/
import Derived.Test.YtilbdpcijdcffaaSL
namespace Go.Proofs.Ytilbdpcijdcffaa
open Go.RowKit

/-- The first of a slice's lights. -/
theorem Sg.less {w : World} {base g n cap : Nat} {xs : List (Int × Int)} (h : Sg w base (.slice (some ⟨g, 0, none⟩) n cap) xs) (m : Nat) (hm : m ≤ xs.length) : Sg w base (.slice (some ⟨g, 0, none⟩) m cap) (xs.take m) := by
  have hl : (xs.take m).length = m := by rw [List.length_take]; omega
  refine ⟨by rw [lcells_length, hl], .inr ?_⟩
  rcases h.2 with ⟨h1, _⟩ | ⟨g', cap', cur, e, hb, hg, hc, hm2, hs, ht⟩
  · simp at h1
  · simp only [Value.slice.injEq, Option.some.injEq, Addr.mk.injEq] at e
    obtain ⟨⟨rfl, _, _⟩, _, rfl⟩ := e
    refine ⟨g, cap, cur, by rw [hl], hb, hg, by omega, hm2, hs, ?_⟩
    rw [hl]
    have e : lcells xs = lcells (xs.take m) ++ lcells (xs.drop m) := by rw [← lcells_append, List.take_append_drop]
    have h3 : cur.toList.take (m * 2) = (cur.toList.take (xs.length * 2)).take (m * 2) := by
      rw [List.take_take, Nat.min_eq_left (by omega)]
    rw [h3, ht, e]
    exact List.take_left' (by rw [lcells_length, hl])

theorem lcells_one : ∀ (xs : List (Int × Int)), ∀ u ∈ lcells xs, u.oneCell' = true := by
  intro xs u hu
  unfold lcells at hu
  rw [List.mem_flatMap] at hu
  obtain ⟨l, _, hu⟩ := hu
  simp at hu
  rcases hu with rfl | rfl <;> rfl

/-- 'append(out, ls...)' of lights. -/
theorem app_lights {ops : Array Oper} {rest : List Oper} {o : Oper} {a : Act} {Q : Exit → Act → World → Prop} {w0 : World} (hgd : o.guard = none) (s y : Operand)
    (ho : o.op = .call { callee := .builtin .append, args := #[s, y], argTypes := #[23, 23] })
    (base g cap : Nat) (xs : List (Int × Int)) (hown : Sg w0 base (.slice (some ⟨g, 0, none⟩) xs.length cap) xs) (hs : a.eval s = .slice (some ⟨g, 0, none⟩) xs.length cap) (base' : Nat) (u : Value) (ys : List (Int × Int)) (hy : Sg w0 base' u ys) (hx : a.eval y = u)
    (hlen : xs.length + ys.length ≤ 1000000) (hbase : base ≤ w0.heap.size)
    (h : ∀ v' w', Sg w' base v' (xs ++ ys) → Kept [g] w0 w' → wpList Try.prog ops Q rest (a.put o.dst v') w') :
    wpList Try.prog ops Q (o :: rest) a w0 := by
  obtain ⟨i0, hi, hz0, hz1, hz2⟩ := info_parts info_light
  have ht := Try.underlying23
  rcases hy.2 with ⟨rfl, hn⟩ | ⟨g', cap', cur, rfl, hb, hg, hc, hm, hs', htk⟩
  · have hys : ys = [] := List.eq_nil_of_length_eq_zero hn
    subst hys
    refine wpList_plain hgd fun K hK => ?_
    unfold Oper.wp execOp
    have hr : (Builtin.append_ #[23, 23] o.type #[.slice (some ⟨g, 0, none⟩) xs.length cap, .slice none 0 0]).run Try.prog w0 = .ok (.slice (some ⟨g, 0, none⟩) xs.length cap) w0 := by
      obtain ⟨g2, cap2, cur2, e, _, hg2, hc2, _, hs2, _⟩ : ∃ g2 cap2 cur2, Value.slice (some ⟨g, 0, none⟩) xs.length cap = .slice (some ⟨g2, 0, none⟩) xs.length cap2 ∧ base ≤ g2 ∧ w0.heap[g2]? = some (.cells cur2 35 (0, 0)) ∧ xs.length ≤ cap2 ∧ cap2 ≤ maxLen ∧ cur2.size = cap2 * 2 ∧ cur2.toList.take (xs.length * 2) = lcells xs := by
        rcases hown.2 with ⟨h1, _⟩ | h1
        · simp at h1
        · exact h1
      simp only [Value.slice.injEq, Option.some.injEq, Addr.mk.injEq] at e
      obtain ⟨⟨rfl, _, _⟩, _, rfl⟩ := e
      simp [Builtin.append_, run_underlying ht, sizeOf, typeInfo, hi, Builtin.lenOf, Builtin.firstCells, loadCells, storeCells, hc2]
    simp only [ho, resolve, invoke, builtin, Sem.run_bind, Sem.run_pure, Result.andThen_ok, List.map_toArray, List.map_cons, List.map_nil, hs, hx, hr]
    exact hK _ _ (h _ _ (by rw [List.append_nil]; exact hown) (Kept.refl _ _))
  · refine wpList_append_own _ hgd s y _ ho base 35 i0 (.agg #[.int .i64 0, .int .i64 0]) 2 16 ht hi hz0 hz1 hz2 rfl (by decide) _ xs.length (lcells xs) hs hown
      ⟨g', 0, none⟩ ys.length cap' (lcells ys) hx (lcells_length _) ?_ (lcells_one _) (by unfold maxLen; omega) (by omega) hbase ?_
    · intro j z hz
      have hj : j < ys.length * 2 := by
        have := (List.getElem?_eq_some_iff.1 hz).1
        rwa [lcells_length] at this
      have hc := World.ownsRow.cellAt hy j hj
      have e : (⟨g', 0, none⟩ : Addr).add j = ⟨g', j, none⟩ := by unfold Addr.add; split <;> simp_all
      rw [e, hc, hz]
    · intro v' w' h1 h2 _
      refine h v' w' ?_ ?_
      · unfold Sg
        rw [List.length_append, lcells_append]
        exact h1
      · exact (Kept.refl _ _).grown h2 fun k hk => .inl (by simp [Value.ownBlock] at hk; simp [hk])
end Go.Proofs.Ytilbdpcijdcffaa
