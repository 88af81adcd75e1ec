/-
  Plain mathematics: what the laws of needs compare.
-/
import Derived.Test.YtgibncpgdbldnaaZA
import Derived.Test.YtgibncpgdbldnaaPA
namespace Go.Proofs.Ytgibncpgdbldnaa
namespace Nt

theorem ones_more (k : Nat) : nats (ones (k + 1)) = nats (ones k) ++ [1] := by
  unfold ones nats
  rw [List.replicate_succ', List.map_append]
  rfl
theorem spread_spread {net nd : List Nat} {s : Nat} (hs : s < 2 ^ net.length) : spread net nd (spread net nd s) = spread net nd s :=
  ((spread_again (nd := nd) hs).all (spread_lt hs)).symm
theorem spN_spread {net nd : List Nat} {s : Nat} (hs : s < 2 ^ net.length) : spN net nd (spread net nd s) = 0 := spN_is (spread_lt hs) (spread_again hs)
theorem and_sub {u s : Nat} (h : ∀ j, s.testBit j = true → u.testBit j = true) : u &&& s = s := bits_eq fun j => by
  rw [Nat.testBit_and, Bool.and_eq_true]
  exact ⟨fun a => a.2, fun a => ⟨h j a, a⟩⟩
theorem spread_has {net nd : List Nat} (s : Nat) : spread net nd s &&& s = s := and_sub fun _ h => spread_up net nd s h
theorem or_wide {s b n : Nat} (hs : s < 2 ^ n) : s ||| (b % 2 ^ n) < 2 ^ n := Nat.or_lt_two_pow hs (Nat.mod_lt _ (Nat.two_pow_pos n))
theorem spread_wide {net nd : List Nat} {s b : Nat} (hs : s < 2 ^ net.length) : spread net nd (s ||| (b % 2 ^ net.length)) &&& spread net nd s = spread net nd s :=
  and_sub fun _ h => spread_mono (or_wide hs) (fun j hj => by rw [Nat.testBit_or, hj]; rfl) h
theorem less_none {a b : Nat} (h : ∀ j, a.testBit j = true → b.testBit j = true) : less a b = 0 := bits_eq fun j => by
  rw [testBit_less, Nat.zero_testBit]
  constructor
  · intro e
    rw [Bool.and_eq_true, Bool.not_eq_true'] at e
    rw [h j e.1] at e
    exact absurd e.2 (by simp)
  · intro e; cases e
theorem drop_all : ∀ k, k < 6 → ∀ s, s < 64 → s.testBit k = true → 2 ^ k ≤ s ∧ ∀ j, j < 6 → (s - 2 ^ k).testBit j = (s.testBit j && decide (j ≠ k)) := by decide +kernel
/-- A set without one of its nodes. -/
theorem drop_bits {s k : Nat} (hs : s < 64) (h : s.testBit k = true) : 2 ^ k ≤ s ∧ ∀ j, (s - 2 ^ k).testBit j = true ↔ s.testBit j = true ∧ j ≠ k := by
  have hk : k < 6 := bits_lt (n := 6) hs h
  obtain ⟨h1, h2⟩ := drop_all k hk s hs h
  refine ⟨h1, fun j => ?_⟩
  by_cases hj : j < 6
  · rw [h2 j hj, Bool.and_eq_true, decide_eq_true_eq]
  · constructor
    · intro a
      have := bits_lt (n := 6) (Nat.lt_of_le_of_lt (Nat.sub_le _ _) hs) a
      omega
    · rintro ⟨a, _⟩
      have := bits_lt (n := 6) hs a
      omega
theorem spark_drop {net nd : List Nat} (h6 : net.length ≤ 6) {s : Nat} (h : Spark net nd s) {k : Nat} (hk : k < net.length) (hb : s.testBit k = true) : 2 ^ k ≤ s ∧ spread net nd (s - 2 ^ k) ≠ full net := by
  obtain ⟨h1, h2⟩ := drop_bits (Nat.lt_of_lt_of_le h.lt (pow_le h6)) hb
  exact ⟨h1, h.drop hk hb h2⟩
/-- With needs of one it takes as many steps as the farthest node is away. -/
theorem wave_steps {net : List Nat} (ok : Ok net) {s : Nat} (hs : s < 2 ^ net.length) : maxTo (far net s) net.length = ((spN net (ones net.length) s : Nat) : Int) := by
  obtain ⟨h1, h2⟩ := ends_far ok hs (spN_ends (nd := ones net.length) hs)
  have hge : ((spN net (ones net.length) s : Nat) : Int) ≤ maxTo (far net s) net.length := by
    rcases h2 with h2 | ⟨k, hk, h2⟩
    · rw [h2]; exact maxTo_nonneg _ _
    · rw [← h2, ← far_get s k hk]
      exact maxTo_ge _ _ k hk
  rcases maxTo_is (far net s) net.length with h | ⟨i, hi, h⟩
  · omega
  · have := h1 i
    rw [far_get s i hi] at h
    omega
/-- The need of the first node one more. -/
def harder (nd : List Nat) : List Nat := nd.set 0 (nd.getD 0 0 + 1)
theorem harder_get (nd : List Nat) (k : Nat) : nd.getD k 0 ≤ (harder nd).getD k 0 := by
  unfold harder
  rw [List.getD_eq_getElem?_getD, List.getD_eq_getElem?_getD, List.getElem?_set]
  by_cases e : 0 = k
  · subst e
    rw [if_pos rfl]
    by_cases h : 0 < nd.length
    · rw [if_pos h, List.getD_eq_getElem?_getD]; simp
    · rw [if_neg h, List.getElem?_eq_none (by omega)]; simp
  · rw [if_neg e]; exact Nat.le_refl _
theorem harder_nd {ns nd : List Nat} (h : Nd ns nd) (h6 : nd.getD 0 0 < 6) : Nd ns (harder nd) := by
  refine ⟨by unfold harder; rw [List.length_set, h.len], fun k hk => Nat.le_trans (h.lo k hk) (harder_get nd k), fun k hk => ?_⟩
  have := h.hi k hk
  unfold harder
  rw [List.getD_eq_getElem?_getD, List.getElem?_set]
  by_cases e : 0 = k
  · subst e
    rw [if_pos rfl, if_pos (by rw [h.len]; exact hk)]
    exact h6
  · rw [if_neg e, ← List.getD_eq_getElem?_getD]
    exact this
theorem harder_nats (nd : List Nat) : nats (harder nd) = (nats nd).set 0 ((nd.getD 0 0 : Int) + 1) := by
  unfold harder
  rw [nats_set]
  rfl
theorem harder_less {ns nd : List Nat} {s : Nat} (hs : s < 2 ^ ns.length) : less (spread ns (harder nd) s) (spread ns nd s) = 0 :=
  less_none fun _ h => spread_needs hs (fun k _ => harder_get nd k) h
theorem harder_spark {ns nd : List Nat} : popTo (sparkTo ns nd (2 ^ ns.length)) ns.length ≤ popTo (sparkTo ns (harder nd) (2 ^ ns.length)) ns.length :=
  (spark_of ns nd).more (spark_of ns (harder nd)) (fun k _ => harder_get nd k)
/-- How many labels are their own, so far. -/
def repTo (ls : List Nat) (k : Nat) : Nat := sumTo (fun i => if ls.getD i 0 = i then 1 else 0) k
theorem repTo_succ (ls : List Nat) (k : Nat) : repTo ls (k + 1) = repTo ls k + if ls.getD k 0 = k then 1 else 0 := rfl
theorem repTo_le (ls : List Nat) : ∀ k, repTo ls k ≤ k
  | 0 => Nat.le_refl _
  | k + 1 => by
    have := repTo_le ls k
    rw [repTo_succ]
    split <;> omega
theorem spark_count {ns : List Nat} (ok : Ok ns) : popTo (sparkTo ns (ones ns.length) (2 ^ ns.length)) ns.length = repTo (parts ns) ns.length := by
  rw [spark_parts ok (spark_of ns (ones ns.length))]
  unfold reps repTo
  rw [parts_length ok]
end Nt
end Go.Proofs.Ytgibncpgdbldnaa
