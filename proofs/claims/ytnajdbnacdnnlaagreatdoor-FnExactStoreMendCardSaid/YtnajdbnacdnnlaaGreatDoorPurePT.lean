/-
  Plain mathematics: texts of places written pair by pair.
-/
import Derived.Test.YtnajdbnacdnnlaaGreatDoorWA
import Derived.Test.YtnajdbnacdnnlaaGreatDoorSA
namespace Go.Proofs.YtnajdbnacdnnlaaGreatDoor
namespace Nt

theorem join_snoc1 (sep : Nat) : ∀ (ps : List (List Nat)) (p : List Nat), ps ≠ [] → join sep (ps ++ [p]) = join sep ps ++ sep :: p
  | [], _, h => absurd rfl h
  | [q], p, _ => rfl
  | q :: r :: rest, p, _ => by
    have ih := join_snoc1 sep (r :: rest) p (by simp)
    show q ++ sep :: join sep ((r :: rest) ++ [p]) = _
    rw [ih]
    show _ = (q ++ sep :: join sep (r :: rest)) ++ _
    simp
theorem rowW_zero (ns : List Nat) (k : Nat) : rowW ns k (k + 1) = [] := by
  unfold rowW
  rw [List.map_eq_nil_iff, List.filter_eq_nil_iff]
  intro j hj
  rw [List.mem_range] at hj
  rw [decide_eq_false (by omega)]
  simp
theorem rowW_succ (ns : List Nat) {k j : Nat} (h : k < j) : rowW ns k (j + 1) = if (ns.getD k 0).testBit j = true then rowW ns k j ++ [[48 + k, 48 + j]] else rowW ns k j := by
  unfold rowW
  rw [List.range_succ, List.filter_append, List.map_append, List.filter_cons, decide_eq_true h, Bool.true_and]
  cases (ns.getD k 0).testBit j
  · simp
  · simp
/-- The pairs written so far. -/
def wsTo (ns : List Nat) (k j : Nat) : List (List Nat) := wiresL ns k ++ rowW ns k j
theorem wsTo_first (ns : List Nat) (k : Nat) : wsTo ns k (k + 1) = wiresL ns k := by unfold wsTo; rw [rowW_zero, List.append_nil]
theorem wsTo_yes (ns : List Nat) {k j : Nat} (h : k < j) (hb : (ns.getD k 0).testBit j = true) : wsTo ns k (j + 1) = wsTo ns k j ++ [[48 + k, 48 + j]] := by
  unfold wsTo; rw [rowW_succ ns h, if_pos hb, List.append_assoc]
theorem wsTo_no (ns : List Nat) {k j : Nat} (h : k < j) (hb : (ns.getD k 0).testBit j = false) : wsTo ns k (j + 1) = wsTo ns k j := by
  unfold wsTo; rw [rowW_succ ns h, hb, if_neg (by simp)]
theorem wsTo_end (ns : List Nat) (k : Nat) : wsTo ns k ns.length = wiresL ns (k + 1) := rfl
theorem rowW_length (ns : List Nat) (k j : Nat) : (rowW ns k j).length ≤ j := by
  unfold rowW
  rw [List.length_map]
  exact Nat.le_trans (List.length_filter_le _ _) (by simp)
theorem wiresL_length (ns : List Nat) : ∀ k, (wiresL ns k).length ≤ k * ns.length
  | 0 => by simp [wiresL]
  | k + 1 => by
    have := wiresL_length ns k
    have := rowW_length ns k ns.length
    rw [wiresL, List.length_append, Nat.succ_mul]
    omega
/-- The text of so many pairs. -/
def wjoin (ps : List (List Nat)) : List Nat := join 44 ps
theorem wjoin_nil {ps : List (List Nat)} (h : ∀ p ∈ ps, p ≠ []) : wjoin ps = [] ↔ ps = [] := by
  cases ps with
  | nil => simp [wjoin, join]
  | cons p r =>
    have hp := h p (by simp)
    cases r with
    | nil => simp [wjoin, join, hp]
    | cons q s => simp [wjoin, join_cons 44 p (show q :: s ≠ [] by simp)]
theorem wsTo_parts (ns : List Nat) (k j : Nat) : ∀ p ∈ wsTo ns k j, p ≠ [] ∧ p.length ≤ 2 := by
  intro p hp
  unfold wsTo at hp
  rw [List.mem_append] at hp
  rcases hp with hp | hp
  · obtain ⟨_, _, _, _, _, _, rfl⟩ := (mem_wiresL _).1 hp; simp
  · obtain ⟨_, _, _, _, rfl⟩ := mem_rowW.1 hp; simp
theorem wjoin_small (ns : List Nat) (h6 : ns.length ≤ 6) {k j : Nat} (hk : k ≤ 6) (hj : j ≤ 6) : (wjoin (wsTo ns k j)).length ≤ 200 := by
  have h1 := join_length 44 (wsTo ns k j) 2 (fun p hp => (wsTo_parts ns k j p hp).2)
  have h2 := wiresL_length ns k
  have h3 := rowW_length ns k j
  have h4 : (wsTo ns k j).length ≤ 42 := by
    unfold wsTo
    rw [List.length_append]
    have : k * ns.length ≤ 6 * 6 := Nat.mul_le_mul hk h6
    omega
  unfold wjoin
  omega
theorem wjoin_one (p : List Nat) : wjoin ([] ++ [p]) = p := rfl
theorem wjoin_more {ps : List (List Nat)} (h : ps ≠ []) (p : List Nat) : wjoin (ps ++ [p]) = wjoin ps ++ [44] ++ p := by
  unfold wjoin; rw [join_snoc1 44 ps p h]; simp
/-- What is put ahead of a pair: a comma, or nothing. -/
def wsep (ps : List (List Nat)) : List Nat := if ps = [] then [] else [44]
theorem kindT_succ (ks : List Nat) {k : Nat} (h : k < ks.length) : kindT (ks.take (k + 1)) = kindT (ks.take k) ++ [48 + ks.getD k 0] := by
  rw [List.take_succ_eq_append_getElem h, List.getD_eq_getElem?_getD, List.getElem?_eq_getElem h]
  unfold kindT
  rw [List.map_append]; rfl
theorem wireT_of (ns : List Nat) : wireT ns = if wjoin (wiresL ns ns.length) = [] then [46] else wjoin (wiresL ns ns.length) := by
  have h : wjoin (wiresL ns ns.length) = [] ↔ wiresL ns ns.length = [] := by
    have := wjoin_nil (ps := wsTo ns ns.length (ns.length + 1)) (fun p hp => (wsTo_parts _ _ _ p hp).1)
    rw [wsTo_first] at this
    exact this
  unfold wireT wiresAll
  by_cases e : wiresL ns ns.length = []
  · rw [if_pos e, if_pos (h.2 e)]
  · rw [if_neg e, if_neg (fun e2 => e (h.1 e2))]; rfl
theorem placeT_is (ns : List Nat) (c : Nat) (ks : List Nat) : placeT ns c ks = digs ns.length ++ [32] ++ wireT ns ++ [32] ++ digs c ++ [32] ++ kindT ks := by
  unfold placeT
  rw [join_cons 32 _ (by simp), join_cons 32 _ (by simp), join_cons 32 _ (by simp)]
  simp [join]
end Nt
end Go.Proofs.YtnajdbnacdnnlaaGreatDoor
