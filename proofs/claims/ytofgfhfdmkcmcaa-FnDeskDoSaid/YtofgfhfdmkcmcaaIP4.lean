/-
  Rows of places put together, by the program: slices.Grow, slices.Concat.
-/
import Derived.Test.YtofgfhfdmkcmcaaIP3
import Derived.Lib.AppendZeros
import Derived.Laws.AppendOwnNone
namespace Go.Proofs.Ytofgfhfdmkcmcaa
open Go.RowKit

/-- A row of places of which only the row lies in memory of its own. -/
def Pm (w : World) (base : Nat) (v : Value) (ps : List Nt.Pi) : Prop :=
  ∃ vs : List (Value × Value × Value), Tg 25 w base v vs ∧ vs.length = ps.length ∧
    ∀ k, k < ps.length → ∃ x y, at3 vs k = (x, .int .i64 (piAt ps k).c, y) ∧ Sl w 0 x (piAt ps k).ns ∧ Sl w 0 y (piAt ps k).ks
theorem Pm.po {w : World} {base : Nat} {v : Value} {ps : List Nt.Pi} (h : Pm w base v ps) : Po w 0 v ps := by
  obtain ⟨vs, h1, h2, h3⟩ := h
  exact ⟨vs, h1.mono (Nat.zero_le _), h2, h3⟩
theorem Pm.ps {w : World} {base : Nat} {v : Value} {ps : List Nt.Pi} (h : Pm w base v ps) : Ps w 0 v ps := h.po.ps
theorem Pm.block {w : World} {base : Nat} {v : Value} {ps : List Nt.Pi} (h : Pm w base v ps) {g : Nat} (hg : v.ownBlock = some g) : base ≤ g ∧ g < w.heap.size := by
  obtain ⟨vs, h1, _, _⟩ := h
  exact h1.block hg
theorem Pm.len {w : World} {base : Nat} {v : Value} {ps : List Nt.Pi} (h : Pm w base v ps) : ∃ a cap, v = .slice a ps.length cap := by
  obtain ⟨vs, h1, h2, _⟩ := h
  obtain ⟨a, cap, e⟩ := h1.any
  exact ⟨a, cap, by rw [e, h2]⟩
theorem tri_at {w : World} {g off : Nat} {ys : List (Value × Value × Value)} (h : ∀ k, k < ys.length → w.cell? ⟨g, off + k * 3, none⟩ = some (at3 ys k).1 ∧ w.cell? ⟨g, off + k * 3 + 1, none⟩ = some (at3 ys k).2.1 ∧ w.cell? ⟨g, off + k * 3 + 2, none⟩ = some (at3 ys k).2.2) :
    ∀ j u, (tri ys)[j]? = some u → w.cell? ((⟨g, off, none⟩ : Addr).add j) = some u := by
  intro j u hj
  have hlt : j < ys.length * 3 := by rw [← tri_length]; exact (List.getElem?_eq_some_iff.1 hj).1
  have e : (⟨g, off, none⟩ : Addr).add j = ⟨g, off + j, none⟩ := by unfold Addr.add; split <;> simp_all
  rw [e]
  obtain ⟨c0, c1, c2⟩ := h (j / 3) (by omega)
  obtain ⟨t0, t1, t2⟩ := tri_get ys (j / 3) (by omega)
  have hm : j % 3 = 0 ∨ j % 3 = 1 ∨ j % 3 = 2 := by omega
  rcases hm with hm | hm | hm
  · rw [show j = j / 3 * 3 by omega, t0] at hj
    rw [show off + j = off + j / 3 * 3 by omega, c0, ← Option.some.inj hj]
  · rw [show j = j / 3 * 3 + 1 by omega, t1] at hj
    rw [show off + j = off + j / 3 * 3 + 1 by omega, c1, ← Option.some.inj hj]
  · rw [show j = j / 3 * 3 + 2 by omega, t2] at hj
    rw [show off + j = off + j / 3 * 3 + 2 by omega, c2, ← Option.some.inj hj]

/-- The cells of a slice of places, as triples. -/
theorem Ps.tri {w : World} {base : Nat} {a : Option Addr} {n cap : Nat} {ps : List Nt.Pi} (h : Ps w base (.slice a n cap) ps) :
    ∃ ys : List (Value × Value × Value), ys.length = ps.length ∧ (∀ k, k < ps.length → ∃ x y, at3 ys k = (x, .int .i64 (piAt ps k).c, y) ∧ Sl w base x (piAt ps k).ns ∧ Sl w base y (piAt ps k).ks) ∧
      (∀ g off, a = some ⟨g, off, none⟩ → ∀ k, k < ys.length → w.cell? ⟨g, off + k * 3, none⟩ = some (at3 ys k).1 ∧ w.cell? ⟨g, off + k * 3 + 1, none⟩ = some (at3 ys k).2.1 ∧ w.cell? ⟨g, off + k * 3 + 2, none⟩ = some (at3 ys k).2.2) := by
  obtain ⟨a', cap', e, hz, h1, h2, h3⟩ := h
  simp only [Value.slice.injEq] at e
  obtain ⟨rfl, rfl, rfl⟩ := e
  have hex : ∀ k, ∃ t : Value × Value × Value, k < ps.length → ∃ g off, a = some ⟨g, off, none⟩ ∧ ∃ x y, t = (x, .int .i64 (piAt ps k).c, y) ∧ w.cell? ⟨g, off + k * 3, none⟩ = some x ∧ w.cell? ⟨g, off + k * 3 + 1, none⟩ = some (.int .i64 (piAt ps k).c) ∧ w.cell? ⟨g, off + k * 3 + 2, none⟩ = some y ∧ Sl w base x (piAt ps k).ns ∧ Sl w base y (piAt ps k).ks := by
    intro k
    by_cases hk : k < ps.length
    · obtain ⟨g, off, e, _, _, x, y, c0, c1, c2, hx, hy⟩ := h3 k hk
      exact ⟨(x, .int .i64 (piAt ps k).c, y), fun _ => ⟨g, off, e, x, y, rfl, c0, c1, c2, hx, hy⟩⟩
    · exact ⟨(undef, undef, undef), fun h => absurd h hk⟩
  refine ⟨(List.range ps.length).map fun k => Classical.choose (hex k), by simp, fun k hk => ?_, fun g off e k hk => ?_⟩
  · have hs := Classical.choose_spec (hex k) hk
    obtain ⟨g, off, _, x, y, ht, _, _, _, hx, hy⟩ := hs
    refine ⟨x, y, ?_, hx, hy⟩
    rw [← ht]
    simp [at3, List.getD_eq_getElem?_getD, hk]
  · have hk' : k < ps.length := by simpa using hk
    have hs := Classical.choose_spec (hex k) hk'
    obtain ⟨g', off', e', x, y, ht, c0, c1, c2, _, _⟩ := hs
    have e2 : at3 ((List.range ps.length).map fun k => Classical.choose (hex k)) k = Classical.choose (hex k) := by
      simp [at3, List.getD_eq_getElem?_getD, hk']
    rw [e] at e'
    simp only [Option.some.injEq, Addr.mk.injEq, and_true] at e'
    obtain ⟨rfl, rfl⟩ := e'
    rw [e2, ht]
    exact ⟨c0, c1, c2⟩
theorem tri_one {ys : List (Value × Value × Value)} (h : ∀ k, k < ys.length → (at3 ys k).1.oneCell' = true ∧ (at3 ys k).2.1.oneCell' = true ∧ (at3 ys k).2.2.oneCell' = true) : ∀ u ∈ tri ys, u.oneCell' = true := by
  intro u hu
  obtain ⟨j, hj, rfl⟩ := List.getElem_of_mem hu
  rw [tri_length] at hj
  obtain ⟨t0, t1, t2⟩ := tri_get ys (j / 3) (by omega)
  obtain ⟨h0, h1, h2⟩ := h (j / 3) (by omega)
  have hm : j % 3 = 0 ∨ j % 3 = 1 ∨ j % 3 = 2 := by omega
  have hg : (tri ys)[j]? = some ((tri ys)[j]'(by rw [tri_length]; exact hj)) := List.getElem?_eq_getElem _
  rcases hm with hm | hm | hm
  · rw [show j / 3 * 3 = j by omega, hg] at t0
    rw [Option.some.inj t0]; exact h0
  · rw [show j / 3 * 3 + 1 = j by omega, hg] at t1
    rw [Option.some.inj t1]; exact h1
  · rw [show j / 3 * 3 + 2 = j by omega, hg] at t2
    rw [Option.some.inj t2]; exact h2

/-- 'append(out, more...)' of places, wherever these lie. -/
theorem app_places {ops : Array Oper} {rest : List Oper} {o : Oper} {a : Act} {Q : Exit → Act → World → Prop} {W : World} (hgd : o.guard = none) (s y : Operand)
    (ho : o.op = .call { callee := .builtin .append, args := #[s, y], argTypes := #[30, 30] })
    (base : Nat) (v : Value) (ps qs : List Nt.Pi) (hown : Pm W base v ps) (hs : a.eval s = v) (u : Value) (hu : Ps W 0 u qs) (hx : a.eval y = u)
    (hlen : ps.length + qs.length ≤ 2000000) (hbase : base ≤ W.heap.size)
    (h : ∀ v' w', Pm w' base v' (ps ++ qs) → Kept v.ownBlock.toList W w' → wpList Try.prog ops Q rest (a.put o.dst v') w') :
    wpList Try.prog ops Q (o :: rest) a W := by
  obtain ⟨vs, ht, hvl, hvp⟩ := hown
  obtain ⟨i0, hi, hz0, hz1, hz2⟩ := info_parts info_place
  obtain ⟨au, capu, rfl, hzu, _, _, hcu⟩ := hu
  by_cases hq : qs.length = 0
  · have hqe : qs = [] := List.eq_nil_of_length_eq_zero hq
    subst hqe
    cases au with
    | none =>
      have hc0 := hzu rfl
      subst hc0
      refine wpList_append_own_none hgd s y 30 ho base 25 i0 3 Try.underlying30 hi v vs.length (tri vs) hs ht (by rw [hx]; rfl) ?_
      exact h v W (by rw [List.append_nil]; exact ⟨vs, ht, hvl, hvp⟩) (Kept.refl _ _)
    | some ad =>
      refine wpList_append_own _ hgd s y _ ho base 25 i0 (.agg #[.slice none 0 0, .int .i64 0, .slice none 0 0]) 3 56 Try.underlying30 hi hz0 hz1 hz2 rfl (by decide) v vs.length (tri vs) hs ht
        ad 0 capu [] (by rw [hx]; rfl) rfl (by intro j u hj; simp at hj) (by intro u hu; cases hu) (by unfold maxLen; omega) (by omega) hbase ?_
      intro v' w' h1 h2 _
      have h1' : Tg 25 w' base v' vs := by unfold Tg; simpa using h1
      have hk : Kept v.ownBlock.toList W w' := (Kept.refl _ _).grown h2 fun k hk => .inl (by rw [hk]; simp)
      refine h v' w' ?_ hk
      rw [List.append_nil]
      refine ⟨vs, h1', hvl, fun k hkl => ?_⟩
      obtain ⟨x, y, e, hx1, hy1⟩ := hvp k hkl
      exact ⟨x, y, e, hx1.kept hk (sl_tg hx1 ht), hy1.kept hk (sl_tg hy1 ht)⟩
  · obtain ⟨g, off, rfl, _⟩ := hcu 0 (by omega)
    obtain ⟨ys, hyl, hyp, hyc⟩ := Ps.tri (w := W) (base := 0) (a := some ⟨g, off, none⟩) (n := qs.length) (cap := capu) (ps := qs) ⟨_, capu, rfl, hzu, by omega, by assumption, hcu⟩
    have hone : ∀ u ∈ tri ys, u.oneCell' = true := tri_one fun k hk => by
      obtain ⟨x, y, e, hx1, hy1⟩ := hyp k (by omega)
      rw [e]
      exact ⟨one_sl hx1, rfl, one_sl hy1⟩
    refine wpList_append_own _ hgd s y _ ho base 25 i0 (.agg #[.slice none 0 0, .int .i64 0, .slice none 0 0]) 3 56 Try.underlying30 hi hz0 hz1 hz2 rfl (by decide) v vs.length (tri vs) hs ht
      ⟨g, off, none⟩ qs.length capu (tri ys) (by rw [hx]) (by rw [tri_length, hyl]) (tri_at (hyc g off rfl)) hone (by unfold maxLen; omega) (by omega) hbase ?_
    intro v' w' h1 h2 _
    have h1' : Tg 25 w' base v' (vs ++ ys) := by unfold Tg; rw [List.length_append, tri_append, hyl]; exact h1
    have hk : Kept v.ownBlock.toList W w' := (Kept.refl _ _).grown h2 fun k hk => .inl (by rw [hk]; simp)
    refine h v' w' ⟨vs ++ ys, h1', by rw [List.length_append, List.length_append, hvl, hyl], fun k hkl => ?_⟩ hk
    by_cases e : k < ps.length
    · obtain ⟨x, y, e1, hx1, hy1⟩ := hvp k e
      rw [at3_append_left (by omega)]
      have e2 : piAt (ps ++ qs) k = piAt ps k := by unfold piAt; rw [List.getD_eq_getElem?_getD, List.getElem?_append_left e, ← List.getD_eq_getElem?_getD]
      rw [e2]
      exact ⟨x, y, e1, hx1.kept hk (sl_tg hx1 ht), hy1.kept hk (sl_tg hy1 ht)⟩
    · have hkl' : k - ps.length < qs.length := by rw [List.length_append] at hkl; omega
      obtain ⟨x, y, e1, hx1, hy1⟩ := hyp (k - ps.length) hkl'
      have e2 : piAt (ps ++ qs) k = piAt qs (k - ps.length) := by unfold piAt; rw [List.getD_eq_getElem?_getD, List.getElem?_append_right (by omega), ← List.getD_eq_getElem?_getD]
      have e3 : at3 (vs ++ ys) k = at3 ys (k - ps.length) := by unfold at3; rw [List.getD_eq_getElem?_getD, List.getElem?_append_right (by omega), ← List.getD_eq_getElem?_getD, hvl]
      rw [e2, e3]
      exact ⟨x, y, e1, hx1.kept hk (sl_tg hx1 ht), hy1.kept hk (sl_tg hy1 ht)⟩

set_option maxHeartbeats 2000000 in
set_option maxRecDepth 100000 in
/-- slices.Grow of no places. -/
theorem growPlaces_any (n : Nat) (h0 : 0 < n) (hn : n ≤ 1000000) (w : World) :
    Calls Try.prog 114 #[.slice none 0 0, .int .i64 n] w fun e w' => ∃ v, e = .returned v ∧ Pm w' w.heap.size v [] ∧ Kept [] w w' := by
  obtain ⟨i0, hi, hz0, hz1, hz2⟩ := info_parts info_place
  have h1 : ¬ ((n : Int) < 0) := by omega
  have h4 : decide ((n : Int) > 0) = true := dec_of (by omega)
  have h4' : decide (0 < (n : Int)) = true := dec_of (by omega)
  have h5 : decide ((n : Int) < 0) = false := dec_not (by omega)
  have h3 : wrap64 ((n : Int) - 0) = (n : Int) := by unfold wrap64; omega
  have h3' : wrap64 (n : Int) = (n : Int) := by unfold wrap64; omega
  have hrz : ∀ ty, (Builtin.append_ #[30, 3] ty #[.slice none 0 0, .int .i64 (n : Int)]).run Try.prog w = _ := fun ty =>
    Lib.run_append_nil_zeros w 30 3 ty 25 i0 (.agg #[.slice none 0 0, .int .i64 0, .slice none 0 0]) .i64 .i64 Try.underlying30 Try.underlying3 hi hz0 n h0 (by rw [hz1]; omega) (by omega) (by rw [hz2]; omega)
  have hG : n ≤ grownCap w n 0 25 := grownCap_ge w _ _ _
  have hG2 : grownCap w n 0 25 ≤ maxLen := grownCap_le_maxLen w n 0 _ (by unfold maxLen; omega)
  generalize grownCap w n 0 25 = G at *
  have hG63 : G ≤ 9223372036854775807 := by unfold maxLen at hG2; omega
  have hPM : Hid (Pm (w.drew.alloc (.cells (Builtin.zeroCells (Value.agg #[.slice none 0 0, .int .i64 0, .slice none 0 0]).cells n ++ Builtin.zeroCells (Value.agg #[.slice none 0 0, .int .i64 0, .slice none 0 0]).cells (G - n)) 25)) w.heap.size (.slice (some ⟨w.heap.size, 0, none⟩) 0 G) []) := Lib.hid ⟨[], ⟨rfl, .inr ⟨w.heap.size, G, _, rfl, Nat.le_refl _, heap_alloc_new _ _, Nat.zero_le _, hG2, by
    simp [Builtin.zeroCells, show (Value.agg #[.slice none 0 0, .int .i64 0, .slice none 0 0]).cells.size = 3 from rfl]; omega, rfl⟩⟩, rfl, fun k hk => by simp at hk⟩
  have HK : Hid (Kept [] w (w.drew.alloc (.cells (Builtin.zeroCells (Value.agg #[.slice none 0 0, .int .i64 0, .slice none 0 0]).cells n ++ Builtin.zeroCells (Value.agg #[.slice none 0 0, .int .i64 0, .slice none 0 0]).cells (G - n)) 25))) := Lib.hid ((Kept.refl [] w).drew.alloc _)
  clear hG2 hi hz0 hz1 hz2
  go_enter Try.func114, Try.ntmps114
  go_wp2_with (at_builtin; refine Lib.wpList_append_run _ rfl _ _ _ _ rfl _ _ rfl rfl _ _ (hrz _) ?_)
  go_ret
  exact ⟨_, rfl, hPM.out, HK.out⟩
end Go.Proofs.Ytofgfhfdmkcmcaa
