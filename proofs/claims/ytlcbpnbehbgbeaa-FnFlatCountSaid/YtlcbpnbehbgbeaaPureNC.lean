/-
  Plain mathematics: numbers sorted, of which those that are there once more are left out, counted.
-/
import Derived.Test.YtlcbpnbehbgbeaaPureNI
import Derived.Lib.SlicesCompact
namespace Go.Proofs.Ytlcbpnbehbgbeaa
namespace Nt

theorem compact_spec {d : Array Int} (hs : ∀ i j, i ≤ j → j < d.size → d[i]! ≤ d[j]!) : ∀ m, m ≤ d.size → (Lib.compactUpTo d m).Nodup ∧ ∀ x, x ∈ Lib.compactUpTo d m ↔ ∃ j, j < m ∧ d[j]! = x
  | 0, _ => ⟨by simp [Lib.compactUpTo], fun x => by simp [Lib.compactUpTo]⟩
  | m + 1, hm => by
    obtain ⟨ih1, ih2⟩ := compact_spec hs m (by omega)
    rw [Lib.compactUpTo_succ]
    by_cases hk : m = 0 ∨ d[m]! ≠ d[m - 1]!
    · have hkk : Lib.keeps d m = true := by simp only [Lib.keeps]; exact decide_eq_true hk
      rw [if_pos hkk]
      refine ⟨List.nodup_append.2 ⟨ih1, by simp, ?_⟩, fun x => ?_⟩
      · intro a ha b hb e
        rw [List.mem_singleton] at hb
        subst hb
        obtain ⟨j, hj, ej⟩ := (ih2 a).1 ha
        rcases hk with h0 | h0
        · omega
        · have h1 := hs j (m - 1) (by omega) (by omega)
          have h2 := hs (m - 1) m (by omega) (by omega)
          omega
      · rw [List.mem_append, ih2, List.mem_singleton]
        constructor
        · rintro (⟨j, hj, e⟩ | e)
          · exact ⟨j, by omega, e⟩
          · exact ⟨m, by omega, e.symm⟩
        · rintro ⟨j, hj, e⟩
          by_cases hjm : j = m
          · subst hjm; exact .inr e.symm
          · exact .inl ⟨j, by omega, e⟩
    · have hkk : Lib.keeps d m = false := by simp only [Lib.keeps]; exact decide_eq_false hk
      rw [hkk, if_neg (by simp), List.append_nil]
      have h0 : ¬ m = 0 := fun e => hk (.inl e)
      have h1 : d[m]! = d[m - 1]! := Classical.byContradiction fun e => hk (.inr e)
      refine ⟨ih1, fun x => ?_⟩
      rw [ih2]
      constructor
      · rintro ⟨j, hj, e⟩
        exact ⟨j, by omega, e⟩
      · rintro ⟨j, hj, e⟩
        by_cases hjm : j = m
        · subst hjm; exact ⟨j - 1, by omega, by rw [← h1]; exact e⟩
        · exact ⟨j, by omega, e⟩

theorem filter_cnt (q : Nat → Bool) : ∀ N, ((List.range N).filter q).length = cnt q N
  | 0 => rfl
  | N + 1 => by
    have e : cnt q (N + 1) = cnt q N + if q N = true then 1 else 0 := rfl
    rw [List.range_succ, List.filter_append, List.length_append, filter_cnt q N, e]
    congr 1
    by_cases h : q N = true
    · rw [if_pos h]; simp [h]
    · rw [if_neg h]; simp [h]

/-- What is led to. -/
def ledB (F : Nat → Nat) (N s : Nat) : Bool := (List.range N).any fun m => decide (F m = s)
theorem ledB_iff {F : Nat → Nat} {N s : Nat} : ledB F N s = true ↔ ∃ m, m < N ∧ F m = s := by
  unfold ledB
  rw [List.any_eq_true]
  constructor
  · rintro ⟨m, hm, h⟩
    exact ⟨m, List.mem_range.1 hm, of_decide_eq_true h⟩
  · rintro ⟨m, hm, h⟩
    exact ⟨m, List.mem_range.2 hm, decide_eq_true h⟩

/-- The numbers that steps lead to, in the order of the states. -/
def ledL (F : Nat → Nat) (k : Nat) : List Int := (List.range k).map fun m => ((F m : Nat) : Int)
theorem ledL_length (F : Nat → Nat) (k : Nat) : (ledL F k).length = k := by simp [ledL]
theorem ledL_succ (F : Nat → Nat) (k : Nat) : ledL F (k + 1) = ledL F k ++ [((F k : Nat) : Int)] := by simp [ledL, List.range_succ]
def sortedL (zs : List Int) : List Int := zs.mergeSort fun x y => decide (x ≤ y)
theorem sortedL_length (zs : List Int) : (sortedL zs).length = zs.length := by unfold sortedL; exact (List.mergeSort_perm _ _).length_eq
theorem sortedL_mem {zs : List Int} {x : Int} : x ∈ sortedL zs ↔ x ∈ zs := by unfold sortedL; exact (List.mergeSort_perm _ _).mem_iff
theorem sortedL_sorted (zs : List Int) : (sortedL zs).Pairwise (fun x y => x ≤ y) := by
  have h := List.pairwise_mergeSort (le := fun x y : Int => decide (x ≤ y)) (fun a b c h1 h2 => by simp at *; omega) (fun a b => by simp; omega) zs
  unfold sortedL
  exact h.imp (fun h => of_decide_eq_true h)

theorem compact_led {F : Nat → Nat} {N : Nat} (hF : ∀ m, m < N → F m < N) : (Lib.compact (sortedL (ledL F N))).length = cnt (ledB F N) N := by
  have hsz : (sortedL (ledL F N)).length = N := by rw [sortedL_length, ledL_length]
  have hs : ∀ i j, i ≤ j → j < (sortedL (ledL F N)).toArray.size → (sortedL (ledL F N)).toArray[i]! ≤ (sortedL (ledL F N)).toArray[j]! := by
    intro i j hij hj
    have hj' : j < (sortedL (ledL F N)).length := by simpa using hj
    rw [getElem!_pos (sortedL (ledL F N)).toArray i (by simp; omega), getElem!_pos (sortedL (ledL F N)).toArray j hj]
    simp only [List.getElem_toArray]
    by_cases e : i = j
    · subst e; exact Int.le_refl _
    · exact List.pairwise_iff_getElem.1 (sortedL_sorted (ledL F N)) i j (by omega) hj' (by omega)
  obtain ⟨h1, h2⟩ := compact_spec hs N (by simp [hsz])
  have hc : Lib.compact (sortedL (ledL F N)) = Lib.compactUpTo (sortedL (ledL F N)).toArray N := by unfold Lib.compact; rw [hsz]
  rw [hc]
  have hmem : ∀ x, x ∈ Lib.compactUpTo (sortedL (ledL F N)).toArray N ↔ x ∈ ((List.range N).filter (ledB F N)).map (fun m : Nat => (m : Int)) := by
    intro x
    rw [h2]
    have e1 : (∃ j, j < N ∧ (sortedL (ledL F N)).toArray[j]! = x) ↔ x ∈ ledL F N := by
      rw [← sortedL_mem, List.mem_iff_getElem]
      constructor
      · rintro ⟨j, hj, e⟩
        rw [getElem!_pos (sortedL (ledL F N)).toArray j (by simpa [hsz] using hj)] at e
        exact ⟨j, by omega, by simpa using e⟩
      · rintro ⟨j, hj, e⟩
        refine ⟨j, by omega, ?_⟩
        rw [getElem!_pos (sortedL (ledL F N)).toArray j (by simpa using hj)]
        simpa using e
    rw [e1]
    unfold ledL
    rw [List.mem_map, List.mem_map]
    constructor
    · rintro ⟨m, hm, rfl⟩
      have hm' := List.mem_range.1 hm
      exact ⟨F m, List.mem_filter.2 ⟨List.mem_range.2 (hF m hm'), ledB_iff.2 ⟨m, hm', rfl⟩⟩, rfl⟩
    · rintro ⟨s, hs', rfl⟩
      obtain ⟨m, hm, e⟩ := ledB_iff.1 (List.mem_filter.1 hs').2
      exact ⟨m, List.mem_range.2 hm, by rw [e]⟩
  have hnd : (((List.range N).filter (ledB F N)).map (fun m : Nat => (m : Int))).Nodup := by
    have h3 : ((List.range N).filter (ledB F N)).Nodup := List.Pairwise.filter _ List.nodup_range
    unfold List.Nodup at *
    rw [List.pairwise_map]
    exact h3.imp (fun h e => h (by omega))
  have hp := (List.perm_ext_iff_of_nodup h1 hnd).2 hmem
  rw [hp.length_eq, List.length_map, filter_cnt]

theorem edenN_led {ns : List Nat} {c : Nat} (ok : Ok ns) (h3 : 3 ≤ c) (h5 : c ≤ 5) : edenN ns c + (Lib.compact (sortedL (ledL (stepN ns c) (c ^ ns.length)))).length = c ^ ns.length := by
  rw [compact_led (fun m _ => stepN_lt ok h3 h5 m)]
  have h1 := cnt_not (ledB (stepN ns c) (c ^ ns.length)) (c ^ ns.length)
  have h2 : edenN ns c = cnt (fun m => !ledB (stepN ns c) (c ^ ns.length) m) (c ^ ns.length) := by
    unfold edenN
    refine cnt_congr fun s hs => ?_
    have e1 := edenP_iff (s := s) ok h3 h5 hs
    have e2 := @ledB_iff (stepN ns c) (c ^ ns.length) s
    cases e : ledB (stepN ns c) (c ^ ns.length) s
    · exact e1.2 fun m hm em => by have := e2.2 ⟨m, hm, em⟩; rw [e] at this; cases this
    · obtain ⟨m, hm, em⟩ := e2.1 e
      cases e' : edenP ns c s
      · rfl
      · exact absurd em (e1.1 e' m hm)
  omega
end Nt
end Go.Proofs.Ytlcbpnbehbgbeaa
