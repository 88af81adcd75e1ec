/-
  Plain mathematics: a place read of a text, word by word.
-/
import Derived.Test.YtnajdbnacdnnlaaGreatDoorPurePT
namespace Go.Proofs.YtnajdbnacdnnlaaGreatDoor
namespace Nt

theorem readP_words {t : List Nat} {q : Pl} (h : readP t = some q) : POk q ∧ cut 32 t = [digs q.ns.length, wireT q.ns, digs q.c, kindT q.ks] := by
  obtain ⟨hq, rfl⟩ := readP_some.1 h
  exact ⟨hq, cut_placeT hq.ok.few hq.st⟩
theorem layW_snoc : ∀ (ps : List (List Nat)) (ms : List Nat) (p : List Nat), layW ms (ps ++ [p]) = wire (layW ms ps) (p.getD 0 0 - 48) (p.getD 1 0 - 48)
  | [], _, _ => rfl
  | q :: ps, ms, p => by
    show layW (wire ms _ _) (ps ++ [p]) = _
    rw [layW_snoc ps _ p]; rfl
theorem layW_succ (ps : List (List Nat)) (ms : List Nat) {k : Nat} (h : k < ps.length) {x y : Nat} (e : ps.getD k [] = [48 + x, 48 + y]) : layW ms (ps.take (k + 1)) = wire (layW ms (ps.take k)) x y := by
  rw [List.take_succ_eq_append_getElem h, layW_snoc]
  rw [List.getD_eq_getElem?_getD, List.getElem?_eq_getElem h, Option.getD_some] at e
  rw [e]
  simp
theorem wire_small {ms : List Nat} {n a b : Nat} (hl : ms.length = n) (h : ∀ j, j < n → ms.getD j 0 < 64) (ha : a < 6) (hb : b < 6) : ∀ j, j < n → (wire ms a b).getD j 0 < 64 := by
  intro j hj
  have h0 := h j hj
  have p : ∀ x, x < 6 → 2 ^ x < 2 ^ 6 := fun x hx => Nat.pow_lt_pow_right (by omega) hx
  have hA := p a ha
  have hB := p b hb
  have e : (64 : Nat) = 2 ^ 6 := rfl
  rw [e] at h0 ⊢
  rw [wire_get2 ms a b (by omega)]
  split
  · exact Nat.or_lt_two_pow (Nat.or_lt_two_pow h0 hB) hA
  · split
    · exact Nat.or_lt_two_pow h0 hA
    · split
      · exact Nat.or_lt_two_pow h0 hB
      · exact h0
theorem readP_len {t : List Nat} (h : (cut 32 t).length ≠ 4) : readP t = none := by
  cases e : readP t with
  | none => rfl
  | some q => rw [(readP_words e).2] at h; simp at h
theorem readP_num {t : List Nat} (h : ¬ (1 ≤ dval ((cut 32 t).getD 0 []) ∧ dval ((cut 32 t).getD 0 []) ≤ 6)) : readP t = none := by
  cases e : readP t with
  | none => rfl
  | some q =>
    obtain ⟨hq, hw⟩ := readP_words e
    have h1 := hq.ok.some
    have h2 := hq.ok.few
    rw [hw] at h
    simp only [List.getD_cons_zero] at h
    rw [dval_digs (show q.ns.length < 1000000 by omega)] at h
    omega
/-- The pairs of a place's text. -/
theorem readP_part {t : List Nat} {q : Pl} (h : readP t = some q) (hne : (cut 32 t).getD 1 [] ≠ [46]) {k : Nat} (hk : k < (cut 44 ((cut 32 t).getD 1 [])).length) :
    ∃ a b, a < b ∧ b < q.ns.length ∧ (cut 44 ((cut 32 t).getD 1 [])).getD k [] = [48 + a, 48 + b] := by
  obtain ⟨hq, hw⟩ := readP_words h
  rw [hw] at hne hk ⊢
  simp only [List.getD_cons_succ, List.getD_cons_zero] at hne hk ⊢
  have hw0 : wiresAll q.ns ≠ [] := fun e => hne ((wireT_dot hq.ok.few).2 e)
  rw [cut_wireT hq.ok.few hw0] at hk ⊢
  rw [List.getD_eq_getElem?_getD, List.getElem?_eq_getElem hk, Option.getD_some]
  obtain ⟨a, b, _, h2, h3, _, h5⟩ := (mem_wiresL _).1 (List.getElem_mem hk)
  exact ⟨a, b, h3, h2, h5⟩
theorem readP_net {t : List Nat} {q : Pl} (h : readP t = some q) (hne : (cut 32 t).getD 1 [] ≠ [46]) : layW (List.replicate q.ns.length 0) (cut 44 ((cut 32 t).getD 1 [])) = q.ns := by
  obtain ⟨hq, hw⟩ := readP_words h
  rw [hw] at hne ⊢
  simp only [List.getD_cons_succ, List.getD_cons_zero] at hne ⊢
  have hw0 : wiresAll q.ns ≠ [] := fun e => hne ((wireT_dot hq.ok.few).2 e)
  rw [cut_wireT hq.ok.few hw0]
  exact layW_all hq.ok
theorem readP_net0 {t : List Nat} {q : Pl} (h : readP t = some q) (he : (cut 32 t).getD 1 [] = [46]) : List.replicate q.ns.length 0 = q.ns := by
  obtain ⟨hq, hw⟩ := readP_words h
  rw [hw] at he
  simp only [List.getD_cons_succ, List.getD_cons_zero] at he
  have h0 := (wireT_dot hq.ok.few).1 he
  have h1 := layW_all hq.ok
  rw [h0] at h1
  exact h1
theorem readP_parts_no {t : List Nat} (hne : (cut 32 t).getD 1 [] ≠ [46]) {k : Nat} (hk : k < (cut 44 ((cut 32 t).getD 1 [])).length)
    (h : ∀ a b, a < b → ((b : Nat) : Int) < dval ((cut 32 t).getD 0 []) → (cut 44 ((cut 32 t).getD 1 [])).getD k [] ≠ [48 + a, 48 + b]) : readP t = none := by
  cases e : readP t with
  | none => rfl
  | some q =>
    obtain ⟨a, b, h1, h2, h3⟩ := readP_part e hne hk
    obtain ⟨hq, hw⟩ := readP_words e
    have h6 := hq.ok.few
    refine absurd h3 (h a b h1 ?_)
    rw [hw]
    simp only [List.getD_cons_zero]
    rw [dval_digs (show q.ns.length < 1000000 by omega)]
    omega
/-- The kinds of nodes, as they are read. -/
def offs48 (xs : List Nat) : List Int := xs.map fun x : Nat => (x : Int) - 48
theorem offs48_kind (ks : List Nat) : offs48 (kindT ks) = nats ks := by
  unfold offs48 kindT nats
  rw [List.map_map]
  refine List.map_congr_left fun x _ => ?_
  show ((48 + x : Nat) : Int) - 48 = (x : Int)
  omega
theorem offs48_succ (xs : List Nat) {k : Nat} (h : k < xs.length) : offs48 (xs.take (k + 1)) = offs48 (xs.take k) ++ [((xs.getD k 0 : Nat) : Int) - 48] := by
  rw [List.take_succ_eq_append_getElem h, List.getD_eq_getElem?_getD, List.getElem?_eq_getElem h]
  unfold offs48
  rw [List.map_append]; rfl
theorem offs48_length (xs : List Nat) : (offs48 xs).length = xs.length := by simp [offs48]
/-- What is read, if there is a place of this text. -/
theorem readP_is {t : List Nat} {q : Pl} (h : readP t = some q) {n : Nat} (hn : dval ((cut 32 t).getD 0 []) = (n : Int)) {ms : List Nat}
    (hm : ms = if (cut 32 t).getD 1 [] = [46] then List.replicate n 0 else layW (List.replicate n 0) (cut 44 ((cut 32 t).getD 1 []))) :
    (⟨nats ms, dval ((cut 32 t).getD 2 []), offs48 ((cut 32 t).getD 3 [])⟩ : Pi) = q.i := by
  obtain ⟨hq, hw⟩ := readP_words h
  have h6 := hq.ok.few
  have hn2 : n = q.ns.length := by
    rw [hw] at hn
    simp only [List.getD_cons_zero] at hn
    rw [dval_digs (show q.ns.length < 1000000 by omega)] at hn
    omega
  subst hn2
  have h1 : ms = q.ns := by
    by_cases e : (cut 32 t).getD 1 [] = [46]
    · rw [hm, if_pos e]; exact readP_net0 h e
    · rw [hm, if_neg e]; exact readP_net h e
  rw [h1, hw]
  simp only [List.getD_cons_succ, List.getD_cons_zero]
  have h5 := hq.st.c5
  rw [dval_digs (show q.c < 1000000 by omega), offs48_kind]; rfl
end Nt
end Go.Proofs.YtnajdbnacdnnlaaGreatDoor
