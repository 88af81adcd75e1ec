/-
  Plain mathematics: texts of places written pair by pair.
  Plain mathematics: a place read of a text, word by word.
  Plain mathematics: what a deed makes of a place, before it is looked at.
  Plain mathematics: what the program makes of a place by a deed, and when a deed is one.
  Plain mathematics: what the program reads: journals line by line, deeds and places out of words.
-/
import Derived.Test.YtnajdbnacdnnlaaGreatDoorWA
import Derived.Test.YtnajdbnacdnnlaaGreatDoorSA
namespace Go.Proofs.YtnajdbnacdnnlaaGreatDoor
namespace Nt

theorem join_snoc1 (sep : Nat) : ∀ (ps : List (List Nat)) (p : List Nat), ps ≠ [] → join sep (ps ++ [p]) = join sep ps ++ sep :: p
  | [], _, h => absurd rfl h
  | [q], p, _ => rfl
  | q :: r :: rest, p, _ => by
    have ih := join_snoc1 sep (r :: rest) p (by simp)
    show q ++ sep :: join sep ((r :: rest) ++ [p]) = _
    rw [ih]
    show _ = (q ++ sep :: join sep (r :: rest)) ++ _
    simp
theorem rowW_zero (ns : List Nat) (k : Nat) : rowW ns k (k + 1) = [] := by
  unfold rowW
  rw [List.map_eq_nil_iff, List.filter_eq_nil_iff]
  intro j hj
  rw [List.mem_range] at hj
  rw [decide_eq_false (by omega)]
  simp
theorem rowW_succ (ns : List Nat) {k j : Nat} (h : k < j) : rowW ns k (j + 1) = if (ns.getD k 0).testBit j = true then rowW ns k j ++ [[48 + k, 48 + j]] else rowW ns k j := by
  unfold rowW
  rw [List.range_succ, List.filter_append, List.map_append, List.filter_cons, decide_eq_true h, Bool.true_and]
  cases (ns.getD k 0).testBit j
  · simp
  · simp
/-- The pairs written so far. -/
def wsTo (ns : List Nat) (k j : Nat) : List (List Nat) := wiresL ns k ++ rowW ns k j
theorem wsTo_first (ns : List Nat) (k : Nat) : wsTo ns k (k + 1) = wiresL ns k := by unfold wsTo; rw [rowW_zero, List.append_nil]
theorem wsTo_yes (ns : List Nat) {k j : Nat} (h : k < j) (hb : (ns.getD k 0).testBit j = true) : wsTo ns k (j + 1) = wsTo ns k j ++ [[48 + k, 48 + j]] := by
  unfold wsTo; rw [rowW_succ ns h, if_pos hb, List.append_assoc]
theorem wsTo_no (ns : List Nat) {k j : Nat} (h : k < j) (hb : (ns.getD k 0).testBit j = false) : wsTo ns k (j + 1) = wsTo ns k j := by
  unfold wsTo; rw [rowW_succ ns h, hb, if_neg (by simp)]
theorem wsTo_end (ns : List Nat) (k : Nat) : wsTo ns k ns.length = wiresL ns (k + 1) := rfl
theorem rowW_length (ns : List Nat) (k j : Nat) : (rowW ns k j).length ≤ j := by
  unfold rowW
  rw [List.length_map]
  exact Nat.le_trans (List.length_filter_le _ _) (by simp)
theorem wiresL_length (ns : List Nat) : ∀ k, (wiresL ns k).length ≤ k * ns.length
  | 0 => by simp [wiresL]
  | k + 1 => by
    have := wiresL_length ns k
    have := rowW_length ns k ns.length
    rw [wiresL, List.length_append, Nat.succ_mul]
    omega
/-- The text of so many pairs. -/
def wjoin (ps : List (List Nat)) : List Nat := join 44 ps
theorem wjoin_nil {ps : List (List Nat)} (h : ∀ p ∈ ps, p ≠ []) : wjoin ps = [] ↔ ps = [] := by
  cases ps with
  | nil => simp [wjoin, join]
  | cons p r =>
    have hp := h p (by simp)
    cases r with
    | nil => simp [wjoin, join, hp]
    | cons q s => simp [wjoin, join_cons 44 p (show q :: s ≠ [] by simp)]
theorem wsTo_parts (ns : List Nat) (k j : Nat) : ∀ p ∈ wsTo ns k j, p ≠ [] ∧ p.length ≤ 2 := by
  intro p hp
  unfold wsTo at hp
  rw [List.mem_append] at hp
  rcases hp with hp | hp
  · obtain ⟨_, _, _, _, _, _, rfl⟩ := (mem_wiresL _).1 hp; simp
  · obtain ⟨_, _, _, _, rfl⟩ := mem_rowW.1 hp; simp
theorem wjoin_small (ns : List Nat) (h6 : ns.length ≤ 6) {k j : Nat} (hk : k ≤ 6) (hj : j ≤ 6) : (wjoin (wsTo ns k j)).length ≤ 200 := by
  have h1 := join_length 44 (wsTo ns k j) 2 (fun p hp => (wsTo_parts ns k j p hp).2)
  have h2 := wiresL_length ns k
  have h3 := rowW_length ns k j
  have h4 : (wsTo ns k j).length ≤ 42 := by
    unfold wsTo
    rw [List.length_append]
    have : k * ns.length ≤ 6 * 6 := Nat.mul_le_mul hk h6
    omega
  unfold wjoin
  omega
theorem wjoin_one (p : List Nat) : wjoin ([] ++ [p]) = p := rfl
theorem wjoin_more {ps : List (List Nat)} (h : ps ≠ []) (p : List Nat) : wjoin (ps ++ [p]) = wjoin ps ++ [44] ++ p := by
  unfold wjoin; rw [join_snoc1 44 ps p h]; simp
/-- What is put ahead of a pair: a comma, or nothing. -/
def wsep (ps : List (List Nat)) : List Nat := if ps = [] then [] else [44]
theorem kindT_succ (ks : List Nat) {k : Nat} (h : k < ks.length) : kindT (ks.take (k + 1)) = kindT (ks.take k) ++ [48 + ks.getD k 0] := by
  rw [List.take_succ_eq_append_getElem h, List.getD_eq_getElem?_getD, List.getElem?_eq_getElem h]
  unfold kindT
  rw [List.map_append]; rfl
theorem wireT_of (ns : List Nat) : wireT ns = if wjoin (wiresL ns ns.length) = [] then [46] else wjoin (wiresL ns ns.length) := by
  have h : wjoin (wiresL ns ns.length) = [] ↔ wiresL ns ns.length = [] := by
    have := wjoin_nil (ps := wsTo ns ns.length (ns.length + 1)) (fun p hp => (wsTo_parts _ _ _ p hp).1)
    rw [wsTo_first] at this
    exact this
  unfold wireT wiresAll
  by_cases e : wiresL ns ns.length = []
  · rw [if_pos e, if_pos (h.2 e)]
  · rw [if_neg e, if_neg (fun e2 => e (h.1 e2))]; rfl
theorem placeT_is (ns : List Nat) (c : Nat) (ks : List Nat) : placeT ns c ks = digs ns.length ++ [32] ++ wireT ns ++ [32] ++ digs c ++ [32] ++ kindT ks := by
  unfold placeT
  rw [join_cons 32 _ (by simp), join_cons 32 _ (by simp), join_cons 32 _ (by simp)]
  simp [join]
end Nt
end Go.Proofs.YtnajdbnacdnnlaaGreatDoor

namespace Go.Proofs.YtnajdbnacdnnlaaGreatDoor
namespace Nt

theorem readP_words {t : List Nat} {q : Pl} (h : readP t = some q) : POk q ∧ cut 32 t = [digs q.ns.length, wireT q.ns, digs q.c, kindT q.ks] := by
  obtain ⟨hq, rfl⟩ := readP_some.1 h
  exact ⟨hq, cut_placeT hq.ok.few hq.st⟩
theorem layW_snoc : ∀ (ps : List (List Nat)) (ms : List Nat) (p : List Nat), layW ms (ps ++ [p]) = wire (layW ms ps) (p.getD 0 0 - 48) (p.getD 1 0 - 48)
  | [], _, _ => rfl
  | q :: ps, ms, p => by
    show layW (wire ms _ _) (ps ++ [p]) = _
    rw [layW_snoc ps _ p]; rfl
theorem layW_succ (ps : List (List Nat)) (ms : List Nat) {k : Nat} (h : k < ps.length) {x y : Nat} (e : ps.getD k [] = [48 + x, 48 + y]) : layW ms (ps.take (k + 1)) = wire (layW ms (ps.take k)) x y := by
  rw [List.take_succ_eq_append_getElem h, layW_snoc]
  rw [List.getD_eq_getElem?_getD, List.getElem?_eq_getElem h, Option.getD_some] at e
  rw [e]
  simp
theorem wire_small {ms : List Nat} {n a b : Nat} (hl : ms.length = n) (h : ∀ j, j < n → ms.getD j 0 < 64) (ha : a < 6) (hb : b < 6) : ∀ j, j < n → (wire ms a b).getD j 0 < 64 := by
  intro j hj
  have h0 := h j hj
  have p : ∀ x, x < 6 → 2 ^ x < 2 ^ 6 := fun x hx => Nat.pow_lt_pow_right (by omega) hx
  have hA := p a ha
  have hB := p b hb
  have e : (64 : Nat) = 2 ^ 6 := rfl
  rw [e] at h0 ⊢
  rw [wire_get2 ms a b (by omega)]
  split
  · exact Nat.or_lt_two_pow (Nat.or_lt_two_pow h0 hB) hA
  · split
    · exact Nat.or_lt_two_pow h0 hA
    · split
      · exact Nat.or_lt_two_pow h0 hB
      · exact h0
theorem readP_len {t : List Nat} (h : (cut 32 t).length ≠ 4) : readP t = none := by
  cases e : readP t with
  | none => rfl
  | some q => rw [(readP_words e).2] at h; simp at h
theorem readP_num {t : List Nat} (h : ¬ (1 ≤ dval ((cut 32 t).getD 0 []) ∧ dval ((cut 32 t).getD 0 []) ≤ 6)) : readP t = none := by
  cases e : readP t with
  | none => rfl
  | some q =>
    obtain ⟨hq, hw⟩ := readP_words e
    have h1 := hq.ok.some
    have h2 := hq.ok.few
    rw [hw] at h
    simp only [List.getD_cons_zero] at h
    rw [dval_digs (show q.ns.length < 1000000 by omega)] at h
    omega
/-- The pairs of a place's text. -/
theorem readP_part {t : List Nat} {q : Pl} (h : readP t = some q) (hne : (cut 32 t).getD 1 [] ≠ [46]) {k : Nat} (hk : k < (cut 44 ((cut 32 t).getD 1 [])).length) :
    ∃ a b, a < b ∧ b < q.ns.length ∧ (cut 44 ((cut 32 t).getD 1 [])).getD k [] = [48 + a, 48 + b] := by
  obtain ⟨hq, hw⟩ := readP_words h
  rw [hw] at hne hk ⊢
  simp only [List.getD_cons_succ, List.getD_cons_zero] at hne hk ⊢
  have hw0 : wiresAll q.ns ≠ [] := fun e => hne ((wireT_dot hq.ok.few).2 e)
  rw [cut_wireT hq.ok.few hw0] at hk ⊢
  rw [List.getD_eq_getElem?_getD, List.getElem?_eq_getElem hk, Option.getD_some]
  obtain ⟨a, b, _, h2, h3, _, h5⟩ := (mem_wiresL _).1 (List.getElem_mem hk)
  exact ⟨a, b, h3, h2, h5⟩
theorem readP_net {t : List Nat} {q : Pl} (h : readP t = some q) (hne : (cut 32 t).getD 1 [] ≠ [46]) : layW (List.replicate q.ns.length 0) (cut 44 ((cut 32 t).getD 1 [])) = q.ns := by
  obtain ⟨hq, hw⟩ := readP_words h
  rw [hw] at hne ⊢
  simp only [List.getD_cons_succ, List.getD_cons_zero] at hne ⊢
  have hw0 : wiresAll q.ns ≠ [] := fun e => hne ((wireT_dot hq.ok.few).2 e)
  rw [cut_wireT hq.ok.few hw0]
  exact layW_all hq.ok
theorem readP_net0 {t : List Nat} {q : Pl} (h : readP t = some q) (he : (cut 32 t).getD 1 [] = [46]) : List.replicate q.ns.length 0 = q.ns := by
  obtain ⟨hq, hw⟩ := readP_words h
  rw [hw] at he
  simp only [List.getD_cons_succ, List.getD_cons_zero] at he
  have h0 := (wireT_dot hq.ok.few).1 he
  have h1 := layW_all hq.ok
  rw [h0] at h1
  exact h1
theorem readP_parts_no {t : List Nat} (hne : (cut 32 t).getD 1 [] ≠ [46]) {k : Nat} (hk : k < (cut 44 ((cut 32 t).getD 1 [])).length)
    (h : ∀ a b, a < b → ((b : Nat) : Int) < dval ((cut 32 t).getD 0 []) → (cut 44 ((cut 32 t).getD 1 [])).getD k [] ≠ [48 + a, 48 + b]) : readP t = none := by
  cases e : readP t with
  | none => rfl
  | some q =>
    obtain ⟨a, b, h1, h2, h3⟩ := readP_part e hne hk
    obtain ⟨hq, hw⟩ := readP_words e
    have h6 := hq.ok.few
    refine absurd h3 (h a b h1 ?_)
    rw [hw]
    simp only [List.getD_cons_zero]
    rw [dval_digs (show q.ns.length < 1000000 by omega)]
    omega
/-- The kinds of nodes, as they are read. -/
def offs48 (xs : List Nat) : List Int := xs.map fun x : Nat => (x : Int) - 48
theorem offs48_kind (ks : List Nat) : offs48 (kindT ks) = nats ks := by
  unfold offs48 kindT nats
  rw [List.map_map]
  refine List.map_congr_left fun x _ => ?_
  show ((48 + x : Nat) : Int) - 48 = (x : Int)
  omega
theorem offs48_succ (xs : List Nat) {k : Nat} (h : k < xs.length) : offs48 (xs.take (k + 1)) = offs48 (xs.take k) ++ [((xs.getD k 0 : Nat) : Int) - 48] := by
  rw [List.take_succ_eq_append_getElem h, List.getD_eq_getElem?_getD, List.getElem?_eq_getElem h]
  unfold offs48
  rw [List.map_append]; rfl
theorem offs48_length (xs : List Nat) : (offs48 xs).length = xs.length := by simp [offs48]
/-- What is read, if there is a place of this text. -/
theorem readP_is {t : List Nat} {q : Pl} (h : readP t = some q) {n : Nat} (hn : dval ((cut 32 t).getD 0 []) = (n : Int)) {ms : List Nat}
    (hm : ms = if (cut 32 t).getD 1 [] = [46] then List.replicate n 0 else layW (List.replicate n 0) (cut 44 ((cut 32 t).getD 1 []))) :
    (⟨nats ms, dval ((cut 32 t).getD 2 []), offs48 ((cut 32 t).getD 3 [])⟩ : Pi) = q.i := by
  obtain ⟨hq, hw⟩ := readP_words h
  have h6 := hq.ok.few
  have hn2 : n = q.ns.length := by
    rw [hw] at hn
    simp only [List.getD_cons_zero] at hn
    rw [dval_digs (show q.ns.length < 1000000 by omega)] at hn
    omega
  subst hn2
  have h1 : ms = q.ns := by
    by_cases e : (cut 32 t).getD 1 [] = [46]
    · rw [hm, if_pos e]; exact readP_net0 h e
    · rw [hm, if_neg e]; exact readP_net h e
  rw [h1, hw]
  simp only [List.getD_cons_succ, List.getD_cons_zero]
  have h5 := hq.st.c5
  rw [dval_digs (show q.c < 1000000 by omega), offs48_kind]; rfl
end Nt
end Go.Proofs.YtnajdbnacdnnlaaGreatDoor

namespace Go.Proofs.YtnajdbnacdnnlaaGreatDoor
namespace Nt

def madeI (q : Pl) (d : Dd) : Pi :=
  if d.kind = 0 ∧ (0 ≤ d.a ∧ d.a < q.ns.length) ∧ (0 ≤ d.b ∧ d.b < q.ns.length) ∧ d.a ≠ d.b then ⟨nats (tog q.ns d.a.toNat d.b.toNat), q.c, nats q.ks⟩
  else if d.kind = 1 ∧ d.b = 0 ∧ (0 ≤ d.a ∧ d.a < q.ns.length) ∧ q.ks.getD d.a.toNat 0 = 0 then ⟨nats q.ns, q.c, nats (q.ks.set d.a.toNat 1)⟩
  else if d.kind = 2 ∧ d.a = 0 ∧ d.b = 0 then ⟨nats q.ns, q.c, nats (step q.ns q.c q.ks)⟩
  else if d.kind = 3 ∧ d.b = 0 then ⟨nats q.ns, d.a, nats q.ks⟩
  else Pi.zero
theorem madeI_join {q : Pl} {a b : Nat} (ha : a < q.ns.length) (hb : b < q.ns.length) (hab : a ≠ b) : madeI q ⟨0, a, b⟩ = ⟨nats (tog q.ns a b), q.c, nats q.ks⟩ := by
  unfold madeI
  rw [if_pos ⟨rfl, by simp only; omega, by simp only; omega, by simp only; omega⟩]
  simp only [Int.toNat_natCast]
theorem madeI_light {q : Pl} {a : Nat} (ha : a < q.ns.length) (h0 : q.ks.getD a 0 = 0) : madeI q ⟨1, a, 0⟩ = ⟨nats q.ns, q.c, nats (q.ks.set a 1)⟩ := by
  unfold madeI
  rw [if_neg (by simp), if_pos ⟨rfl, rfl, by simp only; omega, by simp only [Int.toNat_natCast]; exact h0⟩]
  simp only [Int.toNat_natCast]
theorem madeI_step (q : Pl) : madeI q ⟨2, 0, 0⟩ = ⟨nats q.ns, q.c, nats (step q.ns q.c q.ks)⟩ := by
  unfold madeI
  rw [if_neg (by simp), if_neg (by simp), if_pos ⟨rfl, rfl, rfl⟩]
theorem madeI_kinds (q : Pl) (a : Int) : madeI q ⟨3, a, 0⟩ = ⟨nats q.ns, a, nats q.ks⟩ := by
  unfold madeI
  rw [if_neg (by simp), if_neg (by simp), if_neg (by simp), if_pos ⟨rfl, rfl⟩]
theorem madeI_no {q : Pl} {k a b : Int} (h0 : ¬ (k = 0 ∧ (0 ≤ a ∧ a < q.ns.length) ∧ (0 ≤ b ∧ b < q.ns.length) ∧ a ≠ b)) (h1 : ¬ (k = 1 ∧ b = 0 ∧ (0 ≤ a ∧ a < q.ns.length) ∧ q.ks.getD a.toNat 0 = 0)) (h2 : ¬ (k = 2 ∧ a = 0 ∧ b = 0)) (h3 : ¬ (k = 3 ∧ b = 0)) : madeI q ⟨k, a, b⟩ = Pi.zero := by
  unfold madeI
  rw [if_neg h0, if_neg h1, if_neg h2, if_neg h3]
/-- What comes of it is a place, and another one: or nothing. -/
theorem made_is {q : Pl} (hq : POk q) (d : Dd) : made q d = if plB (madeI q d) = true ∧ ptxt (madeI q d) ≠ q.t then some (madeI q d).n else none := by
  have key : ∀ p : Pl, POk p → p ≠ q → (plB p.i = true ∧ ptxt p.i ≠ q.t) := fun p hp hne => ⟨plB_yes hp, by rw [ptxt_ok hp]; exact fun e => hne (Pl.t_inj hp hq e)⟩
  have fin : ∀ p : Pl, POk p → p ≠ q → ∀ x : Pi, x = p.i → some p = if plB x = true ∧ ptxt x ≠ q.t then some x.n else none := by
    rintro p hp hne x rfl
    rw [if_pos (key p hp hne), Pl.i_n]
  have zero : ¬ (plB Pi.zero = true ∧ ptxt Pi.zero ≠ q.t) := fun h => by rw [plB_zero] at h; simp at h
  obtain ⟨k, a, b⟩ := d
  by_cases k0 : k = 0
  · subst k0
    by_cases h : (0 ≤ a ∧ a < q.ns.length) ∧ (0 ≤ b ∧ b < q.ns.length) ∧ a ≠ b
    · obtain ⟨x, rfl⟩ := Int.eq_ofNat_of_zero_le h.1.1
      obtain ⟨y, rfl⟩ := Int.eq_ofNat_of_zero_le h.2.1.1
      have hx : x < q.ns.length := by omega
      have hy : y < q.ns.length := by omega
      have hxy : x ≠ y := by omega
      have em : made q ⟨0, x, y⟩ = some ⟨tog q.ns x y, q.c, q.ks⟩ := by
        unfold made
        rw [if_pos rfl, if_pos (by simp only; omega)]
        simp only [Int.toNat_natCast]
      obtain ⟨h1, h2⟩ := made_ok hq em
      rw [em, madeI_join hx hy hxy]
      exact fin ⟨tog q.ns x y, q.c, q.ks⟩ h1 h2 _ rfl
    · rw [madeI_no (by intro hh; exact h hh.2) (by simp) (by simp) (by simp), if_neg zero]
      unfold made
      rw [if_pos rfl, if_neg (by simp only; intro hh; exact h ⟨⟨hh.1, hh.2.1⟩, ⟨hh.2.2.1, hh.2.2.2.1⟩, hh.2.2.2.2⟩)]
  · by_cases k1 : k = 1 ∧ b = 0
    · obtain ⟨rfl, rfl⟩ := k1
      by_cases h : 0 ≤ a ∧ a < q.ns.length ∧ q.ks.getD a.toNat 0 = 0
      · obtain ⟨x, rfl⟩ := Int.eq_ofNat_of_zero_le h.1
        have hx : x < q.ns.length := by omega
        have h0 : q.ks.getD x 0 = 0 := by have := h.2.2; rwa [Int.toNat_natCast] at this
        have em : made q ⟨1, x, 0⟩ = some ⟨q.ns, q.c, q.ks.set x 1⟩ := by
          unfold made
          rw [if_neg (by simp), if_pos ⟨rfl, rfl⟩, if_pos h]
          simp only [Int.toNat_natCast]
        obtain ⟨h1, h2⟩ := made_ok hq em
        rw [em, madeI_light hx h0]
        exact fin ⟨q.ns, q.c, q.ks.set x 1⟩ h1 h2 _ rfl
      · rw [madeI_no (by simp) (by intro hh; exact h ⟨hh.2.2.1.1, hh.2.2.1.2, hh.2.2.2⟩) (by simp) (by simp), if_neg zero]
        unfold made
        rw [if_neg (by simp), if_pos ⟨rfl, rfl⟩, if_neg h]
    · by_cases k2 : k = 2 ∧ a = 0 ∧ b = 0
      · obtain ⟨rfl, rfl, rfl⟩ := k2
        have hs : POk ⟨q.ns, q.c, step q.ns q.c q.ks⟩ := ⟨hq.ok, step_st q.ns hq.st, by show (step q.ns q.c q.ks).length = q.ns.length; rw [step_length]; exact hq.len⟩
        rw [madeI_step]
        unfold made
        rw [if_neg (by simp), if_neg (by simp), if_pos ⟨rfl, rfl, rfl⟩]
        by_cases e : step q.ns q.c q.ks ≠ q.ks
        · rw [if_pos e]
          exact fin ⟨q.ns, q.c, step q.ns q.c q.ks⟩ hs (fun h => e (congrArg Pl.ks h)) _ rfl
        · have e' := Classical.not_not.1 e
          rw [if_neg e, if_neg]
          rintro ⟨_, h2⟩
          apply h2
          rw [e']
          exact ptxt_ok hq
      · by_cases k3 : k = 3 ∧ b = 0
        · obtain ⟨rfl, rfl⟩ := k3
          rw [madeI_kinds]
          unfold made
          rw [if_neg (by simp), if_neg (by simp), if_neg (by simp), if_pos ⟨rfl, rfl⟩]
          by_cases h : 0 ≤ a ∧ a ≠ (q.c : Int) ∧ stBn a.toNat q.ks = true
          · obtain ⟨x, rfl⟩ := Int.eq_ofNat_of_zero_le h.1
            have em : made q ⟨3, x, 0⟩ = some ⟨q.ns, x, q.ks⟩ := by
              unfold made
              rw [if_neg (by simp), if_neg (by simp), if_neg (by simp), if_pos ⟨rfl, rfl⟩, if_pos h]
              simp only [Int.toNat_natCast]
            obtain ⟨h1, h2⟩ := made_ok hq em
            rw [if_pos h]
            simp only [Int.toNat_natCast]
            exact fin ⟨q.ns, x, q.ks⟩ h1 h2 _ rfl
          · rw [if_neg h, if_neg]
            rintro ⟨h1, h2⟩
            apply h
            obtain ⟨p, hp, ok⟩ := plB_ok h1
            obtain ⟨pn, pc, pk⟩ := p
            have e1 := congrArg Pi.ns hp
            have e2 := congrArg Pi.c hp
            have e3 := congrArg Pi.ks hp
            simp only [Pl.i] at e1 e2 e3
            have e3' := nats_inj e3
            subst e3'
            have e1' := nats_inj e1
            subst e1'
            subst e2
            refine ⟨by omega, fun e => h2 ?_, ?_⟩
            · have e4 : pc = q.c := by omega
              subst e4
              exact ptxt_ok hq
            · rw [Int.toNat_natCast]
              unfold stBn
              have h5 := ok.st
              rw [Bool.and_eq_true, decide_eq_true_eq, List.all_eq_true]
              refine ⟨⟨h5.c3, h5.c5⟩, fun y hy => ?_⟩
              obtain ⟨j, hj, rfl⟩ := List.getElem_of_mem hy
              have := h5.lt j hj
              rw [List.getD_eq_getElem?_getD, List.getElem?_eq_getElem hj] at this
              exact decide_eq_true this
        · rw [madeI_no (by intro hh; exact k0 hh.1) (by intro hh; exact k1 ⟨hh.1, hh.2.1⟩) k2 k3, if_neg zero]
          unfold made
          rw [if_neg k0, if_neg k1, if_neg k2, if_neg k3]
end Nt
end Go.Proofs.YtnajdbnacdnnlaaGreatDoor

namespace Go.Proofs.YtnajdbnacdnnlaaGreatDoor
namespace Nt

/-- How many numbers a kind of deeds names. -/
def dnum (k : Int) : Int := if k = 0 then 2 else if k = 1 ∨ k = 3 then 1 else 0
def dokB (d : Dd) : Bool := decide (0 ≤ d.kind ∧ d.kind < 5) && (decide (0 < dnum d.kind) || decide (d.a = 0)) && (decide (1 < dnum d.kind) || decide (d.b = 0))
theorem dokB_cases {d : Dd} (h : dokB d = true) : d.kind = 0 ∨ (d.kind = 1 ∧ d.b = 0) ∨ (d.kind = 2 ∧ d.a = 0 ∧ d.b = 0) ∨ (d.kind = 3 ∧ d.b = 0) ∨ (d.kind = 4 ∧ d.a = 0 ∧ d.b = 0) := by
  unfold dokB at h
  simp only [Bool.and_eq_true, Bool.or_eq_true, decide_eq_true_eq] at h
  obtain ⟨⟨h1, h2⟩, h3⟩ := h
  obtain ⟨k, a, b⟩ := d
  simp only at h1 h2 h3 ⊢
  have hk : k = 0 ∨ k = 1 ∨ k = 2 ∨ k = 3 ∨ k = 4 := by omega
  rcases hk with rfl | rfl | rfl | rfl | rfl <;> simp [dnum] at h2 h3 ⊢ <;> first | exact h3 | exact ⟨h2, h3⟩
theorem dokB_no {d : Dd} (h : dokB d = false) : ¬ d.kind = 0 ∧ ¬ (d.kind = 1 ∧ d.b = 0) ∧ ¬ (d.kind = 2 ∧ d.a = 0 ∧ d.b = 0) ∧ ¬ (d.kind = 3 ∧ d.b = 0) ∧ ¬ (d.kind = 4 ∧ d.a = 0 ∧ d.b = 0) := by
  obtain ⟨k, a, b⟩ := d
  refine ⟨?_, ?_, ?_, ?_, ?_⟩
  · rintro rfl; simp [dokB, dnum] at h
  · rintro ⟨rfl, rfl⟩; simp [dokB, dnum] at h
  · rintro ⟨rfl, rfl, rfl⟩; simp [dokB, dnum] at h
  · rintro ⟨rfl, rfl⟩; simp [dokB, dnum] at h
  · rintro ⟨rfl, rfl, rfl⟩; simp [dokB, dnum] at h
theorem doD_bad {x : Dk} {d : Dd} (h : dokB d = false) : doD x d = none := by
  obtain ⟨h0, h1, h2, h3, h4⟩ := dokB_no h
  unfold doD made
  rw [if_neg h4, if_neg h0, if_neg h1, if_neg h2, if_neg h3]
theorem dokB_kind {d : Dd} (h : dokB d = true) : 0 ≤ d.kind ∧ d.kind < 5 := by
  unfold dokB at h
  simp only [Bool.and_eq_true, decide_eq_true_eq] at h
  exact h.1.1
/-- A deed has a text exactly if it is one, and its numbers are small. -/
theorem DOk_is (d : Dd) : DOk d ↔ dokB d = true ∧ (0 ≤ d.a ∧ d.a ≤ 99) ∧ (0 ≤ d.b ∧ d.b ≤ 99) := by
  constructor
  · intro h
    rcases h.cases with ⟨a, b, ha, hb, rfl⟩ | ⟨a, ha, rfl⟩ | ⟨a, ha, rfl⟩ | rfl | rfl
    · exact ⟨by simp [dokB, dnum], by simp only; omega, by simp only; omega⟩
    · exact ⟨by simp [dokB, dnum], by simp only; omega, by simp only; omega⟩
    · exact ⟨by simp [dokB, dnum], by simp only; omega, by simp only; omega⟩
    · decide
    · decide
  · rintro ⟨h, ha, hb⟩
    have e := dokB_cases h
    obtain ⟨k, a, b⟩ := d
    simp only at e ha hb
    obtain ⟨x, rfl⟩ := Int.eq_ofNat_of_zero_le ha.1
    obtain ⟨y, rfl⟩ := Int.eq_ofNat_of_zero_le hb.1
    unfold DOk
    rcases e with rfl | ⟨rfl, h3⟩ | ⟨rfl, h2, h3⟩ | ⟨rfl, h3⟩ | ⟨rfl, h2, h3⟩
    · rw [deedW_join (by omega) (by omega)]; simp
    · rw [h3, deedW_light (by omega)]; simp
    · rw [h2, h3, deedW_step]; simp
    · rw [h3, deedW_kinds (by omega)]; simp
    · rw [h2, h3, deedW_back]; simp

def afterI (q : Pl) (d : Dd) : Pi :=
  if d.kind = 0 then (if (0 ≤ d.a ∧ d.a < q.ns.length) ∧ (0 ≤ d.b ∧ d.b < q.ns.length) ∧ d.a ≠ d.b then ⟨nats (tog q.ns d.a.toNat d.b.toNat), q.c, nats q.ks⟩ else q.i)
  else if d.kind = 1 then (if (0 ≤ d.a ∧ d.a < q.ns.length) ∧ q.ks.getD d.a.toNat 0 = 0 then ⟨nats q.ns, q.c, nats (q.ks.set d.a.toNat 1)⟩ else q.i)
  else if d.kind = 2 then ⟨nats q.ns, q.c, nats (step q.ns q.c q.ks)⟩
  else if d.kind = 3 then ⟨nats q.ns, d.a, nats q.ks⟩
  else q.i
theorem afterI_made {q : Pl} {d : Dd} (h : dokB d = true) (h4 : d.kind ≠ 4) : madeI q d = afterI q d ∨ (madeI q d = Pi.zero ∧ afterI q d = q.i) := by
  have e := dokB_cases h
  obtain ⟨k, a, b⟩ := d
  simp only at e h4
  rcases e with rfl | ⟨rfl, rfl⟩ | ⟨rfl, rfl, rfl⟩ | ⟨rfl, rfl⟩ | ⟨rfl, _⟩
  · by_cases hc : (0 ≤ a ∧ a < q.ns.length) ∧ (0 ≤ b ∧ b < q.ns.length) ∧ a ≠ b
    · left
      unfold madeI afterI
      rw [if_pos ⟨rfl, hc⟩, if_pos rfl, if_pos hc]
    · right
      refine ⟨madeI_no (fun hh => hc hh.2) (by simp) (by simp) (by simp), ?_⟩
      unfold afterI
      rw [if_pos rfl, if_neg hc]
  · by_cases hc : (0 ≤ a ∧ a < q.ns.length) ∧ q.ks.getD a.toNat 0 = 0
    · left
      unfold madeI afterI
      rw [if_neg (by simp), if_pos ⟨rfl, rfl, hc⟩, if_neg (by simp), if_pos rfl, if_pos hc]
    · right
      refine ⟨madeI_no (by simp) (fun hh => hc hh.2.2) (by simp) (by simp), ?_⟩
      unfold afterI
      rw [if_neg (by simp), if_pos rfl, if_neg hc]
  · left
    rw [madeI_step]
    unfold afterI
    rw [if_neg (by simp), if_neg (by simp), if_pos rfl]
  · left
    rw [madeI_kinds]
    unfold afterI
    rw [if_neg (by simp), if_neg (by simp), if_neg (by simp), if_pos rfl]
  · exact absurd rfl h4
theorem made_after {q : Pl} (hq : POk q) {d : Dd} (h : dokB d = true) (h4 : d.kind ≠ 4) : made q d = if afterI q d ≠ q.i ∧ plB (afterI q d) = true then some (afterI q d).n else none := by
  rw [made_is hq d]
  rcases afterI_made (q := q) h h4 with e | ⟨e1, e2⟩
  · rw [e]
    have key : (plB (afterI q d) = true ∧ ptxt (afterI q d) ≠ q.t) ↔ (afterI q d ≠ q.i ∧ plB (afterI q d) = true) := by
      constructor
      · rintro ⟨h1, h2⟩
        exact ⟨fun e => h2 (by rw [e]; exact ptxt_ok hq), h1⟩
      · rintro ⟨h1, h2⟩
        refine ⟨h2, fun e => h1 ?_⟩
        obtain ⟨p, hp, ok⟩ := plB_ok h2
        rw [hp] at e ⊢
        rw [ptxt_ok ok] at e
        rw [Pl.t_inj ok hq e]
    by_cases hh : plB (afterI q d) = true ∧ ptxt (afterI q d) ≠ q.t
    · rw [if_pos hh, if_pos (key.1 hh)]
    · rw [if_neg hh, if_neg (fun k => hh (key.2 k))]
  · rw [e1, e2, if_neg (fun k => by rw [plB_zero] at k; simp at k), if_neg (fun k => k.1 rfl)]
/-- The deed that takes back. -/
theorem doD_four (x : Dk) : doD x ⟨4, 0, 0⟩ = match x.past.getLast? with | some p => some ⟨p, x.past.dropLast⟩ | none => none := by
  unfold doD; rw [if_pos ⟨rfl, rfl, rfl⟩]; cases x.past.getLast? <;> rfl
theorem doD_none {x : Dk} {d : Dd} (h4 : d.kind ≠ 4) (h : made x.now d = none) : doD x d = none := by
  unfold doD
  rw [if_neg (fun h => h4 h.1), h]
theorem doD_some {x : Dk} (hf : x.past.length ≤ 8) {d : Dd} (h4 : d.kind ≠ 4) {p : Pl} (h : made x.now d = some p) : doD x d = some ⟨p, (x.past ++ [x.now]).drop ((x.past ++ [x.now]).length - 8)⟩ := by
  unfold doD
  rw [if_neg (fun h => h4 h.1), h]
  have hl : (x.past ++ [x.now]).length = x.past.length + 1 := by simp
  simp only [hl]
  by_cases h : x.past.length < 8
  · rw [if_pos h, show x.past.length + 1 - 8 = 0 by omega, List.drop_zero]
  · rw [if_neg h, show x.past.length + 1 - 8 = 1 by omega]
end Nt
end Go.Proofs.YtnajdbnacdnnlaaGreatDoor

namespace Go.Proofs.YtnajdbnacdnnlaaGreatDoor
namespace Nt

/-! A text parted at the first sign. -/
/-- What stands ahead of the first sign and behind it, and whether there is one. -/
def Parted (c : Nat) (s p q : List Nat) (ok : Bool) : Prop := (ok = true ∧ c ∉ p ∧ s = p ++ c :: q) ∨ (ok = false ∧ c ∉ s ∧ p = s ∧ q = [])
theorem parted_one {c : Nat} : ∀ {p p' q q' : List Nat}, c ∉ p → c ∉ p' → p ++ c :: q = p' ++ c :: q' → p = p' ∧ q = q'
  | [], [], q, q', _, _, e => by simp at e; exact ⟨rfl, e⟩
  | [], y :: p', q, q', _, h, e => by
    rw [List.nil_append, List.cons_append, List.cons.injEq] at e
    exact absurd (by rw [e.1]; simp) h
  | x :: p, [], q, q', h, _, e => by
    rw [List.nil_append, List.cons_append, List.cons.injEq] at e
    exact absurd (by rw [← e.1]; simp) h
  | x :: p, y :: p', q, q', h, h', e => by
    rw [List.cons_append, List.cons_append, List.cons.injEq] at e
    obtain ⟨h1, h2⟩ := parted_one (fun k => h (by simp [k])) (fun k => h' (by simp [k])) e.2
    exact ⟨by rw [e.1, h1], h2⟩
theorem Parted.at {c : Nat} {s p q a b : List Nat} {ok : Bool} (h : Parted c s p q ok) (ha : c ∉ a) (e : s = a ++ c :: b) : p = a ∧ q = b ∧ ok = true := by
  rcases h with ⟨h1, h2, h3⟩ | ⟨_, h2, _⟩
  · obtain ⟨e1, e2⟩ := parted_one h2 ha (h3.symm.trans e)
    exact ⟨e1, e2, h1⟩
  · rw [e] at h2; exact absurd (by simp) h2
theorem Parted.no {c : Nat} {s p q : List Nat} {ok : Bool} (h : Parted c s p q ok) (hn : c ∉ s) : p = s ∧ q = [] ∧ ok = false := by
  rcases h with ⟨_, _, h3⟩ | ⟨h1, _, h3, h4⟩
  · rw [h3] at hn; exact absurd (by simp) hn
  · exact ⟨h3, h4, h1⟩
theorem Parted.len {c : Nat} {s p q : List Nat} {ok : Bool} (h : Parted c s p q ok) : p.length ≤ s.length ∧ q.length ≤ s.length ∧ (ok = true → p.length + 1 ≤ s.length ∧ s.drop (p.length + 1) = q ∧ s = p ++ c :: q) := by
  rcases h with ⟨_, _, h3⟩ | ⟨h1, _, h3, h4⟩
  · subst h3
    refine ⟨by rw [List.length_append]; omega, by rw [List.length_append, List.length_cons]; omega, fun _ => ⟨by rw [List.length_append, List.length_cons]; omega, ?_, rfl⟩⟩
    rw [← List.drop_drop, List.drop_left]; rfl
  · subst h3; subst h4
    refine ⟨Nat.le_refl _, by simp, fun h => ?_⟩
    rw [h1] at h; cases h

/-! Journals. -/
theorem jline_no {s p q : List Nat} {ok : Bool} (h : Parted 10 s p q ok) (hn : ok = false) : jgo [] s = [] ∧ jlen [] s = 0 := by
  rcases h with ⟨h1, _, _⟩ | ⟨_, h2, _, _⟩
  · rw [h1] at hn; cases hn
  · have := jgo_free s [] [] h2
    rw [List.append_nil] at this
    exact this
theorem jline_bad {s p q : List Nat} (h : Parted 10 s p q true) (hr : readD p = none) : jgo [] s = [] ∧ jlen [] s = 0 := by
  rcases h with ⟨_, h2, h3⟩ | ⟨h1, _, _, _⟩
  · have := jgo_free p (10 :: q) [] h2
    rw [← h3, List.nil_append] at this
    rw [this.1, this.2]
    exact jgo_stop hr q
  · cases h1
theorem jline_go {s p q : List Nat} (h : Parted 10 s p q true) {d : Dd} (hr : readD p = some d) : jgo [] s = d :: jgo [] q ∧ jlen [] s = p.length + 1 + jlen [] q := by
  rcases h with ⟨_, h2, h3⟩ | ⟨h1, _, _, _⟩
  · have := jgo_free p (10 :: q) [] h2
    rw [← h3, List.nil_append] at this
    rw [this.1, this.2]
    exact jgo_nl hr q
  · cases h1
theorem readD_line {s : List Nat} {d : Dd} (h : readD s = some d) : s.length ≤ 11 := by
  have hd := readD_ok h
  obtain ⟨rfl, _⟩ := readD_some.1 h
  have d2 : ∀ n : Nat, n ≤ 99 → (digs n).length ≤ 2 := fun n hn => digs_length 1 (by simp; omega)
  rcases hd.cases with ⟨a, b, ha, hb, rfl⟩ | ⟨a, ha, rfl⟩ | ⟨a, ha, rfl⟩ | rfl | rfl
  · have h1 := d2 a ha
    have h2 := d2 b hb
    unfold deedT
    rw [deedW_join ha hb]
    simp [join, wJoin]; omega
  · have h1 := d2 a ha
    unfold deedT
    rw [deedW_light ha]
    simp [join, wLight]; omega
  · have h1 := d2 a ha
    unfold deedT
    rw [deedW_kinds ha]
    simp [join, wKinds]; omega
  · decide
  · decide

/-! Deeds. -/
def kindW (w : List Nat) : Int := if w = wJoin then 0 else if w = wLight then 1 else if w = wStep then 2 else if w = wKinds then 3 else if w = wBack then 4 else -1
/-- A number that is told of a text, if it is one; 0 of none. -/
def NumOf (t : List Nat) (v : Int) : Prop := (∀ n : Nat, n < 100 → t = digs n → v = (n : Int)) ∧ (t = [] → v = 0)
theorem readD_cand {s word behind a b : List Nat} {ok ok' : Bool} (h1 : Parted 32 s word behind ok) (h2 : Parted 32 behind a b ok') {va vb : Int} (ha : NumOf a va) (hb : NumOf b vb) {d : Dd} (h : readD s = some d) : d = ⟨kindW word, va, vb⟩ := by
  have hd := readD_ok h
  obtain ⟨rfl, _⟩ := readD_some.1 h
  have f : ∀ n : Nat, 32 ∉ digs n := fun n => digs_free (.inl (by omega))
  rcases hd.cases with ⟨x, y, hx, hy, rfl⟩ | ⟨x, hx, rfl⟩ | ⟨x, hx, rfl⟩ | rfl | rfl
  · have e : deedT ⟨0, x, y⟩ = wJoin ++ 32 :: (digs x ++ 32 :: digs y) := by unfold deedT; rw [deedW_join hx hy]; rfl
    obtain ⟨rfl, rfl, _⟩ := h1.at (by decide) e
    obtain ⟨rfl, rfl, _⟩ := h2.at (f x) rfl
    rw [ha.1 x (by omega) rfl, hb.1 y (by omega) rfl]; rfl
  · have e : deedT ⟨1, x, 0⟩ = wLight ++ 32 :: digs x := by unfold deedT; rw [deedW_light hx]; rfl
    obtain ⟨rfl, rfl, _⟩ := h1.at (by decide) e
    obtain ⟨rfl, rfl, _⟩ := h2.no (f x)
    rw [ha.1 x (by omega) rfl, hb.2 rfl]; rfl
  · have e : deedT ⟨3, x, 0⟩ = wKinds ++ 32 :: digs x := by unfold deedT; rw [deedW_kinds hx]; rfl
    obtain ⟨rfl, rfl, _⟩ := h1.at (by decide) e
    obtain ⟨rfl, rfl, _⟩ := h2.no (f x)
    rw [ha.1 x (by omega) rfl, hb.2 rfl]; rfl
  · have e : deedT ⟨2, 0, 0⟩ = wStep := by unfold deedT; rw [deedW_step]; rfl
    rw [e] at h1
    obtain ⟨rfl, rfl, _⟩ := h1.no (by decide)
    obtain ⟨rfl, rfl, _⟩ := h2.no (by simp)
    rw [ha.2 rfl, hb.2 rfl]; rfl
  · have e : deedT ⟨4, 0, 0⟩ = wBack := by unfold deedT; rw [deedW_back]; rfl
    rw [e] at h1
    obtain ⟨rfl, rfl, _⟩ := h1.no (by decide)
    obtain ⟨rfl, rfl, _⟩ := h2.no (by simp)
    rw [ha.2 rfl, hb.2 rfl]; rfl
/-- What the program says of a candidate. -/
theorem readD_is {s : List Nat} {d : Dd} (hc : ∀ d', readD s = some d' → d' = d) : readD s = if s ≠ [] ∧ deedT d = s then some d else none := by
  cases e : readD s with
  | none =>
    rw [if_neg]
    rintro ⟨h1, h2⟩
    rw [readD_some.2 ⟨h2, h1⟩] at e
    cases e
  | some d' =>
    obtain rfl := hc d' e
    obtain ⟨h1, h2⟩ := readD_some.1 e
    rw [if_pos ⟨h2, h1⟩]

/-! Places. -/
/-- Nets laid pair by pair, what is no pair left out. -/
def layP (many : Nat) (ns : List Nat) : List (List Nat) → List Nat
  | [] => ns
  | p :: rest => layP many (if p.length = 2 ∧ (48 ≤ p.getD 0 0 ∧ p.getD 0 0 < 48 + many) ∧ (48 ≤ p.getD 1 0 ∧ p.getD 1 0 < 48 + many) then wire ns (p.getD 0 0 - 48) (p.getD 1 0 - 48) else ns) rest
theorem layP_snoc (many : Nat) : ∀ (ps : List (List Nat)) (ns : List Nat) (p : List Nat), layP many ns (ps ++ [p]) = (if p.length = 2 ∧ (48 ≤ p.getD 0 0 ∧ p.getD 0 0 < 48 + many) ∧ (48 ≤ p.getD 1 0 ∧ p.getD 1 0 < 48 + many) then wire (layP many ns ps) (p.getD 0 0 - 48) (p.getD 1 0 - 48) else layP many ns ps)
  | [], _, _ => rfl
  | _ :: ps, _, p => layP_snoc many ps _ p
theorem layP_length (many : Nat) : ∀ (ps : List (List Nat)) (ns : List Nat), (layP many ns ps).length = ns.length
  | [], _ => rfl
  | p :: ps, ns => by
    unfold layP
    rw [layP_length many ps]
    split
    · exact wire_length _ _ _
    · rfl
theorem layP_lay (many : Nat) : ∀ (ps : List (List Nat)) (ns : List Nat), (∀ p ∈ ps, ∃ a b, a < b ∧ b < many ∧ p = [48 + a, 48 + b]) → layP many ns ps = layW ns ps
  | [], _, _ => rfl
  | p :: ps, ns, h => by
    obtain ⟨a, b, hab, hb, rfl⟩ := h p (by simp)
    show layP many _ ps = layW (wire ns _ _) ps
    rw [if_pos ⟨rfl, ⟨by simp, by simp; omega⟩, ⟨by simp, by simp; omega⟩⟩]
    exact layP_lay many ps _ (fun p hp => h p (by simp [hp]))
/-- Of the text of a net its net is read. -/
theorem layP_net {ns : List Nat} (ok : Ok ns) : layP ns.length (List.replicate ns.length 0) (cut 44 (wireT ns)) = ns := by
  by_cases h0 : wiresAll ns = []
  · rw [(wireT_dot ok.few).2 h0]
    have h1 := layW_all ok
    rw [h0] at h1
    exact h1
  · rw [cut_wireT ok.few h0, layP_lay]
    · exact layW_all ok
    · intro p hp
      obtain ⟨a, b, _, h2, h3, _, h5⟩ := (mem_wiresL _).1 hp
      exact ⟨a, b, h3, h2, h5⟩
/-- What the program makes of the words of a text. -/
def candP (many c : Int) (ws : List (List Nat)) : Pi := ⟨if 1 ≤ many ∧ many ≤ 6 then nats (layP many.toNat (List.replicate many.toNat 0) (cut 44 (ws.getD 1 []))) else [], c, (ws.getD 3 []).map fun (x : Nat) => (x : Int) - 48⟩
theorem readP_cand2 {t : List Nat} {many c : Int} (hm : NumOf ((cut 32 t).getD 0 []) many) (hc : NumOf ((cut 32 t).getD 2 []) c) {q : Pl} (h : readP t = some q) : candP many c (cut 32 t) = q.i := by
  obtain ⟨hq, hw⟩ := readP_words h
  rw [hw] at hm hc ⊢
  have h6 := hq.ok.few
  have h1 := hq.ok.some
  have h5 := hq.st.c5
  have e1 := hm.1 q.ns.length (by omega) rfl
  have e2 := hc.1 q.c (by omega) rfl
  unfold candP Pl.i
  rw [e1, e2, if_pos ⟨by omega, by omega⟩, Int.toNat_natCast]
  show (⟨nats (layP q.ns.length (List.replicate q.ns.length 0) (cut 44 (wireT q.ns))), (q.c : Int), (kindT q.ks).map fun (x : Nat) => (x : Int) - 48⟩ : Pi) = _
  rw [layP_net hq.ok]
  congr 1
  unfold kindT nats
  rw [List.map_map]
  refine List.map_congr_left (fun x _ => ?_)
  show ((48 + x : Nat) : Int) - 48 = (x : Int)
  omega
/-- What the program says of a candidate. -/
theorem readP_prog {t : List Nat} {x : Pi} (hl : (cut 32 t).length = 4) (hc : ∀ q, readP t = some q → x = q.i) : (readPB t = decide (ptxt x = t)) ∧ (ptxt x = t → readPI t = x) := by
  have hne : t ≠ [] := fun e => by rw [e] at hl; simp [cut, cutFrom] at hl
  by_cases h : ptxt x = t
  · obtain ⟨q, rfl, hr⟩ := readP_cand h hne
    rw [decide_eq_true h]
    exact ⟨(readPI_some hr).2, fun _ => (readPI_some hr).1⟩
  · rw [decide_eq_false h]
    refine ⟨?_, fun e => absurd e h⟩
    cases e : readP t with
    | none => exact (readPI_none e).2
    | some q =>
      have h1 := hc q e
      obtain ⟨h2, h3⟩ := readP_some.1 e
      rw [h1, ptxt_ok h2] at h
      exact absurd h3 h
end Nt
end Go.Proofs.YtnajdbnacdnnlaaGreatDoor
