/-
  append of a cut slice inside a statement whose order is open; lists turned round.
-/
import Derived.Test.YtjpnepjpkgffpaaDB
import Derived.Test.YtjpnepjpkgffpaaTC
namespace Go.Proofs.Ytjpnepjpkgffpaa
open Go.RowKit

/-- 'append(out, ys...)', wherever ys lies, inside a statement whose order is open. -/
theorem step_app_any {ops : Array Oper} {o : Oper} {a : Act} {K : Act → World → Prop} {Q : Exit → Act → World → Prop} {E : Prop} {W : World} (hgd : o.guard = none) (s y : Operand)
    (ho : o.op = .call { callee := .builtin .append, args := #[s, y], argTypes := #[23, 23] })
    (base : Nat) (v : Value) (xs : List Int) (hown : Sl W base v xs) (hs : a.eval s = v) (b off m c : Nat) (ys : List Int) (hyl : ys.length = m) (hx : a.eval y = .slice (some ⟨b, off, none⟩) m c)
    (hcell : ∀ j, j < m → W.cell? ⟨b, off + j, none⟩ = some (.int .i64 (ys.getD j 0))) (hlen : xs.length + m ≤ 1000000) (hbase : base ≤ W.heap.size)
    (h : ∀ v' w', Sl w' base v' (xs ++ ys) → Kept v.ownBlock.toList W w' → K (a.put o.dst v') w') :
    if Region.wanted o (yielded ops a.tmps) = true then Oper.wp Try.prog o a W K Q else E := by
  have hw : Region.wanted o (yielded ops a.tmps) = true := by simp [Region.wanted, hgd]
  rw [if_pos hw]
  obtain ⟨i0, hi, hz0, hz1, hz2⟩ := info_parts info_int
  subst hyl
  refine wp_append_own W s y _ ho base 3 i0 (.int .i64 0) 1 8 Try.underlying23 hi hz0 hz1 hz2 rfl (by decide) v xs.length (ints xs) hs hown
    ⟨b, off, none⟩ ys.length c (ints ys) hx (by simp [ints]) ?_ (ints_oneCell _ _) (by unfold maxLen; omega) (by omega) hbase ?_
  · intro j z hz
    have hj : j < ys.length := by
      have := (List.getElem?_eq_some_iff.1 hz).1
      simpa [ints] using this
    rw [ints_get ys j hj] at hz
    have e : (⟨b, off, none⟩ : Addr).add j = ⟨b, off + j, none⟩ := by unfold Addr.add; split <;> simp_all
    rw [e, hcell j hj, hz]
  · intro v' w' h1 h2 _
    refine h v' w' ?_ ?_
    · unfold Sl
      rw [List.length_append, ints_append]
      exact h1
    · exact (Kept.refl _ _).grown h2 fun k hk => .inl (by rw [hk]; simp)

theorem rev_take (zs : List Int) {k : Nat} (h : k < zs.length) : [zs.getD k 0] ++ (zs.take k).reverse = (zs.take (k + 1)).reverse := by
  rw [List.take_succ_eq_append_getElem h, List.reverse_append]
  simp [List.getD_eq_getElem?_getD, h]
theorem nats_reverse (tr : List Nat) : Nt.nats tr.reverse = (Nt.nats tr).reverse := by simp [Nt.nats]
/-- Tours may be turned round. -/
theorem tourB_rev1 {xs zs : List Int} (h : Nt.tourB xs zs = true) : Nt.tourB xs zs.reverse = true := by
  obtain ⟨ns, tr, rfl, rfl, ok, ht⟩ := Nt.tourB_ok h
  rw [← nats_reverse]
  exact Nt.tour_tourB ok (Nt.tour_back ok ht)
theorem tourB_rev (xs zs : List Int) : Nt.tourB xs zs.reverse = Nt.tourB xs zs := by
  cases h : Nt.tourB xs zs
  · cases h2 : Nt.tourB xs zs.reverse
    · rfl
    · have h3 := tourB_rev1 h2
      rw [List.reverse_reverse, h] at h3
      exact absurd h3 (by simp)
  · exact tourB_rev1 h
theorem climbOf_both {ns ks tr : List Nat} (ok : Nt.Ok ns) (st : Nt.St 3 ks) (hl : ks.length = ns.length) (h : Nt.Tour ns tr) : Nt.climbOf (Nt.nats ns) (Nt.nats ks) (Nt.nats tr ++ (Nt.nats tr).reverse.drop 1) = 0 := by
  have e : Nt.nats tr ++ (Nt.nats tr).reverse.drop 1 = Nt.nats (tr ++ tr.reverse.drop 1) := by simp [Nt.nats]
  rw [e]
  cases hB : Nt.climbB (Nt.nats ns) (Nt.nats ks) (Nt.nats (tr ++ tr.reverse.drop 1))
  · exact Nt.climbOf_no hB
  · obtain ⟨ns', ks', tr', e1, e2, e3, ok', st', hl', ht'⟩ := Nt.climbB_ok hB
    have e1' := Nt.nats_inj e1
    have e2' := Nt.nats_inj e2
    have e3' := Nt.nats_inj e3
    subst e1' e2' e3'
    rw [Nt.climbOf_ok ok st hl ht']
    exact Nt.climb_both ks h.some
end Go.Proofs.Ytjpnepjpkgffpaa
