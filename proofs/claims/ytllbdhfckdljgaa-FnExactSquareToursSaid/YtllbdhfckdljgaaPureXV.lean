/-
  Plain mathematics: what the laws of heights and windings compare.
-/
import Derived.Test.YtllbdhfckdljgaaXA
namespace Go.Proofs.Ytllbdhfckdljgaa
namespace Nt

theorem stepOf3 {ns ks : List Nat} (ok : Ok ns) (st : St 3 ks) (hl : ks.length = ns.length) : stepOf (nats ns) 3 (nats ks) = nats (step ns 3 ks) := stepOf_ok (c := 3) ok st hl
theorem ends_flat {xs ys : List Int} {a b : Int} (h : LoopIs xs 3 ys a b) : decide (0 ≤ endsOf a b) = flatOf xs ys := by
  rcases h with ⟨ns, c, ks, m, l, rfl, e, rfl, ok, st, hl, hloop, _, rfl, rfl⟩ | ⟨h1, rfl, rfl⟩
  · have e3 : c = 3 := by omega
    subst e3
    have hd := flat_dies ok st hl
    unfold endsOf
    by_cases e : l = 1
    · subst e
      have hf : Flat ns ks := hd.2 ⟨m, loop_rest st hloop⟩
      rw [flatOf_yes ok st hl hf, if_pos (by rfl)]
      exact decide_eq_true (by omega)
    · have hf : ¬ Flat ns ks := fun hf => by
        obtain ⟨t, ht⟩ := hd.1 hf
        exact e (rest_loop hloop ht).1
      rw [flatOf_no ok st hl hf, if_neg (by omega)]
      rfl
  · rw [flatOf_no1 h1]
    rfl
theorem stands_flat (xs ys : List Int) : decide (0 ≤ standsOf xs ys) = flatOf xs ys := by
  cases h : flatOf xs ys
  · rw [standsOf_no h]; rfl
  · obtain ⟨ns, ks, rfl, rfl, _, _, _, _⟩ := flatOf_is h
    rw [standsOf_yes h]
    exact decide_eq_true (by omega)
theorem flatB_cong {ns ks js : List Nat} (ok : Ok ns) (st : St 3 ks) (sj : St 3 js) (hl : ks.length = ns.length) (hj : js.length = ns.length) (h : Flat ns js ↔ Flat ns ks) : flatOf (nats ns) (nats js) = flatOf (nats ns) (nats ks) := by
  by_cases hf : Flat ns ks
  · rw [flatOf_yes ok st hl hf, flatOf_yes ok sj hj (h.2 hf)]
  · rw [flatOf_no ok st hl hf, flatOf_no ok sj hj (fun e => hf (h.1 e))]
theorem flatOf_step {ns ks : List Nat} (ok : Ok ns) (st : St 3 ks) (hl : ks.length = ns.length) : flatOf (nats ns) (nats (step ns 3 ks)) = flatOf (nats ns) (nats ks) :=
  flatB_cong ok st (run_st ns st 1) hl (by rw [step_length]; exact hl) (flat_step ok st hl)
theorem flatOf_turn {ns ks : List Nat} (ok : Ok ns) (st : St 3 ks) (hl : ks.length = ns.length) : flatOf (nats ns) (nats (turn ns ks)) = flatOf (nats ns) (nats ks) :=
  flatB_cong ok st (turns_st ns st 1) hl (by rw [turn_length]; exact hl) (flat_turns ok st hl 1)

/-- Whether a node has a neighbour below j that is higher. -/
def upTo (ns : List Nat) (hs : List Int) (k : Nat) : Nat → Bool
  | 0 => false
  | j + 1 => upTo ns hs k j || ((ns.getD k 0).testBit j && decide (hs.getD k 0 < hs.getD j 0))
theorem upTo_iff (ns : List Nat) (hs : List Int) (k : Nat) : ∀ n, upTo ns hs k n = true ↔ ∃ j, j < n ∧ (ns.getD k 0).testBit j = true ∧ hs.getD k 0 < hs.getD j 0
  | 0 => by simp [upTo]
  | n + 1 => by
    rw [upTo, Bool.or_eq_true, upTo_iff ns hs k n, Bool.and_eq_true, decide_eq_true_iff]
    constructor
    · rintro (⟨j, h1, h2, h3⟩ | ⟨h2, h3⟩)
      · exact ⟨j, by omega, h2, h3⟩
      · exact ⟨n, by omega, h2, h3⟩
    · rintro ⟨j, h1, h2, h3⟩
      by_cases e : j = n
      · subst e; exact .inr ⟨h2, h3⟩
      · exact .inl ⟨j, by omega, h2, h3⟩
theorem up_pull {ns ks : List Nat} (ok : Ok ns) (st : St 3 ks) (hl : ks.length = ns.length) (hf : Flat ns ks) {k : Nat} (hk : k < ks.length) : upTo ns (hgtL ns ks) k ks.length = pullB ns ks k := by
  rw [Bool.eq_iff_iff, upTo_iff, pull_up st (hgt_hts ok st hl hf) hk]
  constructor
  · rintro ⟨j, h1, h2, h3⟩
    rw [hgtL_get ns ks hk, hgtL_get ns ks h1] at h3
    exact ⟨j, h1, h2, h3⟩
  · rintro ⟨j, h1, h2, h3⟩
    exact ⟨j, h1, h2, by rw [hgtL_get ns ks hk, hgtL_get ns ks h1]; exact h3⟩
theorem turnedL_one {ns ks : List Nat} {k : Nat} (hk : k < ks.length) : (turnedL ns ks 1).getD k 0 = if pullB ns ks k = true then 1 else 0 := by
  rw [turnedL_get _ _ _ hk]
  show turned ns ks k (0 + 1) = _
  rw [turned]
  show 0 + _ = _
  rw [Nat.zero_add]
  rfl
theorem hgtL_rise {ns ks : List Nat} (ok : Ok ns) (st : St 3 ks) (hl : ks.length = ns.length) (hf : Flat ns ks) {k j : Nat} (hk : k < ks.length) (hj : j < ks.length) (hb : (ns.getD k 0).testBit j = true) : (hgtL ns ks).getD j 0 - (hgtL ns ks).getD k 0 = riseOf (nats ks) (k : Int) (j : Int) := by
  rw [hgtL_get ns ks hk, hgtL_get ns ks hj, riseOf_ok st hk hj]
  exact hgt_hts ok st hl hf k j hk hj hb
theorem hgtL_root {ns ks : List Nat} {k : Nat} (hk : k < ks.length) (e : (parts ns).getD k 0 = k) : (hgtL ns ks).getD k 0 = 0 := by
  rw [hgtL_get ns ks hk]; exact hgt_root e
theorem still_wire {ns ks : List Nat} (ok : Ok ns) (st : St 3 ks) (hl : ks.length = ns.length) (hf : Flat ns ks) {k j : Nat} (hk : k < ks.length) (hj : j < ks.length) (hb : (ns.getD k 0).testBit j = true) : (turns ns ks (stand ns ks)).getD j 0 = (turns ns ks (stand ns ks)).getD k 0 :=
  (still_near ok (turns_st ns st _) (by rw [turns_length]; exact hl) (stand_still ok st hl hf) (by rw [turns_length]; exact hk) (by rw [turns_length]; exact hj) hb).symm

theorem wind_cong {ns ks js tr : List Nat} (ok : Ok ns) (st : St 3 ks) (sj : St 3 js) (hl : ks.length = ns.length) (hj : js.length = ns.length) (ht : Tour ns tr) (hr : Round tr) (h : climb js tr = climb ks tr) :
    windOf (nats ns) (nats js) (nats tr) = windOf (nats ns) (nats ks) (nats tr) ∧ windB (nats ns) (nats js) (nats tr) = true := by
  rw [windOf_ok ok st hl ht hr, windOf_ok ok sj hj ht hr, h]
  exact ⟨rfl, windB_yes ok sj hj ht hr⟩
theorem wind_step {ns ks tr : List Nat} (ok : Ok ns) (st : St 3 ks) (hl : ks.length = ns.length) (ht : Tour ns tr) (hr : Round tr) : windOf (nats ns) (nats (step ns 3 ks)) (nats tr) = windOf (nats ns) (nats ks) (nats tr) ∧ windB (nats ns) (nats (step ns 3 ks)) (nats tr) = true :=
  wind_cong ok st (run_st ns st 1) hl (by rw [step_length]; exact hl) ht hr (climb_step ok st hl ht hr)
theorem wind_turn {ns ks tr : List Nat} (ok : Ok ns) (st : St 3 ks) (hl : ks.length = ns.length) (ht : Tour ns tr) (hr : Round tr) : windOf (nats ns) (nats (turn ns ks)) (nats tr) = windOf (nats ns) (nats ks) (nats tr) ∧ windB (nats ns) (nats (turn ns ks)) (nats tr) = true :=
  wind_cong ok st (turns_st ns st 1) hl (by rw [turn_length]; exact hl) ht hr (climb_turn ok st hl ht hr)
theorem ends_few (ns : List Nat) {k : Nat} (hk : k ≤ 6) : endsTo ns k ≤ 36 := by
  have h := sumTo_le (f := fun i => pop (ns.getD i 0)) (c := 6) k (fun i _ => popTo_le _ 6)
  unfold endsTo
  omega
end Nt
end Go.Proofs.Ytllbdhfckdljgaa
