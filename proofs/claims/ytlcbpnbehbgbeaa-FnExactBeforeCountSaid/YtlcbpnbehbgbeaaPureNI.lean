/-
  Plain mathematics: what the functions that count states answer.
-/
import Derived.Test.YtlcbpnbehbgbeaaPureN
import Derived.Test.YtlcbpnbehbgbeaaXA
import Derived.Test.YtlcbpnbehbgbeaaRA
import Derived.Test.YtlcbpnbehbgbeaaPA
namespace Go.Proofs.Ytlcbpnbehbgbeaa
namespace Nt

/-- Nets and kinds of which states are counted. -/
def ccB (xs : List Int) (kinds : Int) : Bool := okB xs && decide (xs.length ≤ 4) && decide (3 ≤ kinds ∧ kinds ≤ 5)
theorem ccB_ok {xs : List Int} {kinds : Int} (h : ccB xs kinds = true) : ∃ (ns : List Nat) (c : Nat), xs = nats ns ∧ kinds = (c : Int) ∧ Ok ns ∧ ns.length ≤ 4 ∧ 3 ≤ c ∧ c ≤ 5 := by
  unfold ccB at h
  rw [Bool.and_eq_true, Bool.and_eq_true, decide_eq_true_eq, decide_eq_true_eq] at h
  obtain ⟨⟨h1, h2⟩, h3⟩ := h
  obtain ⟨ns, rfl, ok⟩ := okB_ok h1
  rw [nats_length] at h2
  exact ⟨ns, kinds.toNat, rfl, by omega, ok, h2, by omega, by omega⟩
theorem ccB_yes {ns : List Nat} {c : Nat} (ok : Ok ns) (h4 : ns.length ≤ 4) (h3 : 3 ≤ c) (h5 : c ≤ 5) : ccB (nats ns) (c : Int) = true := by
  unfold ccB
  rw [ok_okB ok, nats_length, decide_eq_true h4, decide_eq_true (by omega : 3 ≤ (c : Int) ∧ (c : Int) ≤ 5)]; rfl
theorem ccB_no1 {xs : List Int} {kinds : Int} (h : okB xs = false) : ccB xs kinds = false := by unfold ccB; rw [h]; rfl
theorem ccB_no2 {xs : List Int} {kinds : Int} (h : ¬ xs.length ≤ 4) : ccB xs kinds = false := by unfold ccB; rw [decide_eq_false h, Bool.and_false, Bool.false_and]
theorem ccB_no3 {xs : List Int} {kinds : Int} (h : ¬ (3 ≤ kinds ∧ kinds ≤ 5)) : ccB xs kinds = false := by unfold ccB; rw [decide_eq_false h, Bool.and_false]

/-- The state of a number. -/
def stN (ns : List Nat) (c m : Nat) : List Nat := digits c m ns.length
theorem stN_length (ns : List Nat) (c m : Nat) : (stN ns c m).length = ns.length := digits_length _ _ _
theorem stN_st {ns : List Nat} {c : Nat} (ok : Ok ns) (h3 : 3 ≤ c) (h5 : c ≤ 5) (m : Nat) : St c (stN ns c m) := digits_st h3 h5 ok.some ok.few m
theorem stN_zero {ns : List Nat} {c : Nat} : stN ns c 0 = rest ns.length := by
  have h : ∀ k, k < (stN ns c 0).length → (stN ns c 0).getD k 0 = 0 := fun k hk => by
    rw [stN_length] at hk
    unfold stN
    rw [digits_get _ _ _ _ hk, Nat.zero_div, Nat.zero_mod]
  have := eq_rest h
  rwa [stN_length] at this
/-- The number of the state that follows. -/
def stepN (ns : List Nat) (c m : Nat) : Nat := num c (step ns c (stN ns c m))
theorem num_of_st {ns ks : List Nat} {c : Nat} (st : St c ks) (hl : ks.length = ns.length) : num c ks < c ^ ns.length := by
  rw [← hl]; exact num_lt fun x hx => st.mem x hx
theorem stN_num {ns ks : List Nat} {c : Nat} (st : St c ks) (hl : ks.length = ns.length) : stN ns c (num c ks) = ks := by
  unfold stN
  rw [← hl]
  exact digits_num ks fun x hx => st.mem x hx
theorem num_stN {ns : List Nat} {c m : Nat} (h3 : 3 ≤ c) (hm : m < c ^ ns.length) : num c (stN ns c m) = m := num_digits (by omega) _ _ hm
theorem step_stN {ns : List Nat} {c : Nat} (ok : Ok ns) (h3 : 3 ≤ c) (h5 : c ≤ 5) (m : Nat) : St c (step ns c (stN ns c m)) ∧ (step ns c (stN ns c m)).length = ns.length := ⟨step_st ns (stN_st ok h3 h5 m), by rw [step_length, stN_length]⟩
theorem stepN_lt {ns : List Nat} {c : Nat} (ok : Ok ns) (h3 : 3 ≤ c) (h5 : c ≤ 5) (m : Nat) : stepN ns c m < c ^ ns.length := num_of_st (step_stN ok h3 h5 m).1 (step_stN ok h3 h5 m).2
theorem stN_stepN {ns : List Nat} {c : Nat} (ok : Ok ns) (h3 : 3 ≤ c) (h5 : c ≤ 5) (m : Nat) : stN ns c (stepN ns c m) = step ns c (stN ns c m) := stN_num (step_stN ok h3 h5 m).1 (step_stN ok h3 h5 m).2
theorem iter_run {ns : List Nat} {c : Nat} (ok : Ok ns) (h3 : 3 ≤ c) (h5 : c ≤ 5) (m : Nat) : ∀ t, stN ns c (iter (stepN ns c) t m) = run ns c (stN ns c m) t
  | 0 => rfl
  | t + 1 => by
    show stN ns c (stepN ns c (iter (stepN ns c) t m)) = step ns c (run ns c (stN ns c m) t)
    rw [stN_stepN ok h3 h5, iter_run ok h3 h5 m t]
theorem stN_inj {ns : List Nat} {c a b : Nat} (h3 : 3 ≤ c) (ha : a < c ^ ns.length) (hb : b < c ^ ns.length) (e : stN ns c a = stN ns c b) : a = b := by
  have := congrArg (num c) e
  rwa [num_stN h3 ha, num_stN h3 hb] at this
theorem stepN_is {ns : List Nat} {c m s : Nat} (ok : Ok ns) (h3 : 3 ≤ c) (h5 : c ≤ 5) (hs : s < c ^ ns.length) : step ns c (stN ns c m) = stN ns c s ↔ stepN ns c m = s := by
  rw [← stN_stepN ok h3 h5]
  exact ⟨fun e => stN_inj h3 (stepN_lt ok h3 h5 m) hs e, fun e => by rw [e]⟩
theorem pow_pos3 {c n : Nat} (h3 : 3 ≤ c) : 0 < c ^ n := Nat.pow_pos (by omega)

/-! Those before a state. -/
def befP (ns : List Nat) (c : Nat) (ks : List Nat) (m : Nat) : Bool := decide (step ns c (stN ns c m) = ks)
def befN (ns : List Nat) (c : Nat) (ks : List Nat) : Nat := cnt (befP ns c ks) (c ^ ns.length)
def befOf (xs : List Int) (kinds : Int) (ys : List Int) : Int := if (ccB xs kinds && fireB xs kinds ys) = true then ((befN (xs.map Int.toNat) kinds.toNat (ys.map Int.toNat) : Nat) : Int) else -1
theorem befOf_ok {ns ks : List Nat} {c : Nat} (ok : Ok ns) (h4 : ns.length ≤ 4) (st : St c ks) (hl : ks.length = ns.length) : befOf (nats ns) (c : Int) (nats ks) = ((befN ns c ks : Nat) : Int) := by
  unfold befOf
  rw [ccB_yes ok h4 st.c3 st.c5, fireB_yes ok st hl, Bool.true_and, if_pos rfl, nats_toNat, nats_toNat, Int.toNat_natCast]
theorem befOf_no1 {xs ys : List Int} {kinds : Int} (h : ccB xs kinds = false) : befOf xs kinds ys = -1 := by unfold befOf; rw [h, Bool.false_and, if_neg (by simp)]
theorem befOf_no2 {xs ys : List Int} {kinds : Int} (h : fireB xs kinds ys = false) : befOf xs kinds ys = -1 := by unfold befOf; rw [h, Bool.and_false, if_neg (by simp)]
theorem befOf_neg {xs ys : List Int} {kinds : Int} : (befOf xs kinds ys < 0 → befOf xs kinds ys = -1) ∧ (¬ befOf xs kinds ys < 0 → ∃ (ns : List Nat) (c : Nat) (ks : List Nat), xs = nats ns ∧ kinds = (c : Int) ∧ ys = nats ks ∧ Ok ns ∧ ns.length ≤ 4 ∧ St c ks ∧ ks.length = ns.length) := by
  cases h1 : ccB xs kinds
  · rw [befOf_no1 h1]; exact ⟨fun _ => rfl, fun h => absurd (by omega) h⟩
  · cases h2 : fireB xs kinds ys
    · rw [befOf_no2 h2]; exact ⟨fun _ => rfl, fun h => absurd (by omega) h⟩
    · obtain ⟨ns, c, rfl, rfl, ok, h4, h3, h5⟩ := ccB_ok h1
      obtain ⟨ns', c', ks, e1, e2, rfl, _, st, hl⟩ := fireB_ok h2
      have := nats_inj e1
      subst this
      have : c = c' := by omega
      subst this
      exact ⟨fun h => by rw [befOf_ok ok h4 st hl] at h; omega, fun _ => ⟨ns, c, ks, rfl, rfl, rfl, ok, h4, st, hl⟩⟩
theorem befN_step {ns ks : List Nat} {c : Nat} (st : St c ks) (hl : ks.length = ns.length) : 1 ≤ befN ns c (step ns c ks) :=
  cnt_pos.2 ⟨num c ks, num_of_st st hl, by unfold befP; rw [stN_num st hl, decide_eq_true rfl]⟩
theorem befN_rest {ns : List Nat} {c : Nat} (ok : Ok ns) (h3 : 3 ≤ c) (h5 : c ≤ 5) : 1 ≤ befN ns c (rest ns.length) := by
  have h := befN_step (ns := ns) (rest_st h3 h5 ok.some ok.few) (rest_length _)
  rwa [step_rest] at h
theorem befN_le (ns : List Nat) (c : Nat) (ks : List Nat) : befN ns c ks ≤ c ^ ns.length := cnt_le _ _
theorem befN_sum {ns : List Nat} {c : Nat} (ok : Ok ns) (h3 : 3 ≤ c) (h5 : c ≤ 5) : sumTo (fun s => befN ns c (stN ns c s)) (c ^ ns.length) = c ^ ns.length := by
  refine Eq.trans (sumTo_congr _ fun s hs => ?_) (before_all (F := stepN ns c) (N := c ^ ns.length) fun m _ => stepN_lt ok h3 h5 m)
  unfold befN cnt
  refine sumTo_congr _ fun m _ => ?_
  unfold befP
  by_cases e : stepN ns c m = s
  · rw [if_pos e, decide_eq_true ((stepN_is ok h3 h5 hs).2 e), if_pos rfl]
  · rw [if_neg e, decide_eq_false (fun h => e ((stepN_is ok h3 h5 hs).1 h)), if_neg (by simp)]
/-- Who fires was lit by somebody who is tired now. -/
theorem befN_lit {ns ks : List Nat} {c : Nat} (ok : Ok ns) (st : St c ks) (hl : ks.length = ns.length) (hb : befN ns c ks ≠ 0) {k : Nat} (hk : k < ks.length) (h1 : ks.getD k 0 = 1) : ∃ j, j < ks.length ∧ (ns.getD k 0).testBit j = true ∧ ks.getD j 0 = 2 := by
  obtain ⟨m, _, hp⟩ := cnt_pos.1 (Nat.one_le_iff_ne_zero.2 hb)
  unfold befP at hp
  rw [decide_eq_true_eq] at hp
  have hsl : (stN ns c m).length = ks.length := by rw [stN_length, hl]
  have hst := stN_st ok st.c3 st.c5 m
  have e1 := step_get ns c (stN ns c m) (k := k) (by omega)
  rw [hp, h1] at e1
  obtain ⟨_, hlit⟩ := (fireK_one (hst.lt k (by omega)) _).1 e1.symm
  obtain ⟨j, hj, hbit, hj1⟩ := litB_iff.1 hlit
  refine ⟨j, by omega, hbit, ?_⟩
  have e2 := step_get ns c (stN ns c m) (k := j) hj
  rw [hp] at e2
  rw [e2, hj1]
  unfold fireK
  have := st.c3
  rw [if_pos (by omega), Nat.mod_eq_of_lt (by omega)]

/-! Those to which no state leads. -/
def edenP (ns : List Nat) (c s : Nat) : Bool := decide (befN ns c (stN ns c s) = 0)
def edenN (ns : List Nat) (c : Nat) : Nat := cnt (edenP ns c) (c ^ ns.length)
def edenOf (xs : List Int) (kinds : Int) : Int := if ccB xs kinds = true then ((edenN (xs.map Int.toNat) kinds.toNat : Nat) : Int) else -1
theorem edenOf_ok {ns : List Nat} {c : Nat} (ok : Ok ns) (h4 : ns.length ≤ 4) (h3 : 3 ≤ c) (h5 : c ≤ 5) : edenOf (nats ns) (c : Int) = ((edenN ns c : Nat) : Int) := by
  unfold edenOf; rw [ccB_yes ok h4 h3 h5, if_pos rfl, nats_toNat, Int.toNat_natCast]
theorem edenOf_no {xs : List Int} {kinds : Int} (h : ccB xs kinds = false) : edenOf xs kinds = -1 := by unfold edenOf; rw [if_neg (by simp [h])]
theorem edenP_iff {ns : List Nat} {c s : Nat} (ok : Ok ns) (h3 : 3 ≤ c) (h5 : c ≤ 5) (hs : s < c ^ ns.length) : edenP ns c s = true ↔ ∀ m, m < c ^ ns.length → stepN ns c m ≠ s := by
  unfold edenP
  rw [decide_eq_true_eq]
  unfold befN
  rw [cnt_none]
  unfold befP
  exact ⟨fun h m hm e => by have := h m hm; rw [decide_eq_false_iff_not] at this; exact this ((stepN_is ok h3 h5 hs).2 e), fun h m hm => decide_eq_false fun e => h m hm ((stepN_is ok h3 h5 hs).1 e)⟩
theorem edenN_lt {ns : List Nat} {c : Nat} (ok : Ok ns) (h3 : 3 ≤ c) (h5 : c ≤ 5) : edenN ns c < c ^ ns.length := by
  have h1 := cnt_le (edenP ns c) (c ^ ns.length)
  have h2 : cnt (edenP ns c) (c ^ ns.length) ≠ c ^ ns.length := fun e => by
    have h3' := cnt_all.1 e 0 (pow_pos3 h3)
    unfold edenP at h3'
    rw [decide_eq_true_eq, stN_zero] at h3'
    have := befN_rest ok h3 h5
    omega
  unfold edenN
  omega
theorem ok_one : Ok [0] := by
  have h : okB (nats [0]) = true := by decide
  obtain ⟨ns, e, ok⟩ := okB_ok h
  have := nats_inj e
  rw [this]; exact ok
theorem edenN_one {c : Nat} (h3 : 3 ≤ c) (h5 : c ≤ 5) : edenN [0] c = 1 := by
  have : c = 3 ∨ c = 4 ∨ c = 5 := by omega
  rcases this with rfl | rfl | rfl <;> decide +kernel

/-! Those that come to rest. -/
def dieP (ns : List Nat) (c m : Nat) : Bool := decide (run ns c (stN ns c m) (c ^ ns.length) = rest ns.length)
def dieN (ns : List Nat) (c : Nat) : Nat := cnt (dieP ns c) (c ^ ns.length)
def dieOf (xs : List Int) (kinds : Int) : Int := if ccB xs kinds = true then ((dieN (xs.map Int.toNat) kinds.toNat : Nat) : Int) else -1
theorem dieOf_ok {ns : List Nat} {c : Nat} (ok : Ok ns) (h4 : ns.length ≤ 4) (h3 : 3 ≤ c) (h5 : c ≤ 5) : dieOf (nats ns) (c : Int) = ((dieN ns c : Nat) : Int) := by
  unfold dieOf; rw [ccB_yes ok h4 h3 h5, if_pos rfl, nats_toNat, Int.toNat_natCast]
theorem dieOf_no {xs : List Int} {kinds : Int} (h : ccB xs kinds = false) : dieOf xs kinds = -1 := by unfold dieOf; rw [if_neg (by simp [h])]
theorem run_stays {net : List Nat} {c : Nat} {ks : List Nat} {t : Nat} (e : run net c ks t = rest ks.length) : ∀ d, run net c ks (t + d) = rest ks.length
  | 0 => e
  | d + 1 => by
    show step net c (run net c ks (t + d)) = _
    rw [run_stays e d, step_rest]
theorem dieP_loop {ns : List Nat} {c m a l : Nat} (hloop : IsLoop (run ns c (stN ns c m)) a l) (st : St c (stN ns c m)) (hb : a + l ≤ c ^ ns.length) : dieP ns c m = decide (l = 1) := by
  unfold dieP
  by_cases e : l = 1
  · subst e
    have h := loop_rest st hloop
    rw [decide_eq_true rfl]
    refine decide_eq_true ?_
    have h2 := run_stays h (c ^ ns.length - a)
    rw [show a + (c ^ ns.length - a) = c ^ ns.length by omega, stN_length] at h2
    exact h2
  · rw [decide_eq_false e]
    refine decide_eq_false fun h => e ?_
    rw [← stN_length ns c m] at h
    have h' : run ns c (stN ns c m) (c ^ (stN ns c m).length) = rest (stN ns c m).length := by
      have e1 : (stN ns c m).length = ns.length := stN_length ns c m
      rw [e1] at h ⊢
      exact h
    exact (rest_loop hloop h').1
theorem dieP_iff {ns : List Nat} {c m : Nat} (st : St c (stN ns c m)) : dieP ns c m = true ↔ ∃ t, run ns c (stN ns c m) t = rest ns.length := by
  obtain ⟨a, l, hloop, hb⟩ := run_loop ns st
  rw [stN_length] at hb
  rw [dieP_loop hloop st hb, decide_eq_true_eq]
  constructor
  · rintro rfl
    have h := loop_rest st hloop
    rw [stN_length] at h
    exact ⟨a, h⟩
  · rintro ⟨t, ht⟩
    rw [← stN_length ns c m] at ht
    exact (rest_loop hloop ht).1
/-- What EndsAt tells. -/
theorem dieP_ends {ns : List Nat} {c m : Nat} (ok : Ok ns) (h3 : 3 ≤ c) (h5 : c ≤ 5) {a b : Int} (h : LoopIs (nats ns) (c : Int) (nats (stN ns c m)) a b) : decide (0 ≤ endsOf a b) = dieP ns c m := by
  have st := stN_st ok h3 h5 m
  rcases h with ⟨ns', c', ks', q, l, e1, e2, e3, _, _, _, hloop, hb, rfl, rfl⟩ | ⟨hf, _, _⟩
  · have := nats_inj e1
    subst this
    have := nats_inj e3
    subst this
    have : c = c' := by omega
    subst this
    rw [stN_length] at hb
    rw [dieP_loop hloop st hb]
    unfold endsOf
    by_cases e : l = 1
    · subst e; rw [if_pos (by omega), decide_eq_true rfl, decide_eq_true (by omega)]
    · rw [if_neg (by omega), decide_eq_false e]; rfl
  · rw [fireB_yes ok st (stN_length _ _ _)] at hf; cases hf
theorem dieN_pos {ns : List Nat} {c : Nat} (h3 : 3 ≤ c) : 1 ≤ dieN ns c :=
  cnt_pos.2 ⟨0, pow_pos3 h3, by unfold dieP; rw [stN_zero, run_rest, decide_eq_true rfl]⟩
theorem dieN_le (ns : List Nat) (c : Nat) : dieN ns c ≤ c ^ ns.length := cnt_le _ _

/-! Those that are flat. -/
def flP (ns : List Nat) (m : Nat) : Bool := flatB ns (stN ns 3 m)
def flN (ns : List Nat) : Nat := cnt (flP ns) (3 ^ ns.length)
def flOf (xs : List Int) : Int := if ccB xs 3 = true then ((flN (xs.map Int.toNat) : Nat) : Int) else -1
theorem flOf_ok {ns : List Nat} (ok : Ok ns) (h4 : ns.length ≤ 4) : flOf (nats ns) = ((flN ns : Nat) : Int) := by
  have h := ccB_yes (c := 3) ok h4 (by omega) (by omega)
  have e : ((3 : Nat) : Int) = 3 := rfl
  rw [e] at h
  unfold flOf; rw [h, if_pos rfl, nats_toNat]
theorem flOf_no {xs : List Int} (h : ccB xs 3 = false) : flOf xs = -1 := by unfold flOf; rw [if_neg (by simp [h])]
theorem flP_die {ns : List Nat} (ok : Ok ns) (m : Nat) : dieP ns 3 m = flP ns m := by
  have st := stN_st (c := 3) ok (by omega) (by omega) m
  have h1 := dieP_iff (ns := ns) st
  have h2 := flat_dies ok st (stN_length _ _ _)
  have h3 := flatB_iff ok st (stN_length _ _ _)
  rw [stN_length] at h2
  unfold flP
  cases e : flatB ns (stN ns 3 m)
  · cases e2 : dieP ns 3 m
    · rfl
    · have := h3.2 (h2.2 (h1.1 e2)); rw [e] at this; cases this
  · exact h1.2 (h2.1 (h3.1 e))
theorem dieN_flat {ns : List Nat} (ok : Ok ns) : dieN ns 3 = flN ns := cnt_congr fun m _ => flP_die ok m
theorem flN_path {n : Nat} (h1 : 1 ≤ n) (h4 : n ≤ 4) : flN (pathN n) = 3 ^ n := by
  have : n = 1 ∨ n = 2 ∨ n = 3 ∨ n = 4 := by omega
  rcases this with rfl | rfl | rfl | rfl <;> decide +kernel
theorem flN_ring {n : Nat} (h3 : 3 ≤ n) (h4 : n ≤ 4) : flN (ringN n) = 3 * ways n 0 := by
  have : n = 3 ∨ n = 4 := by omega
  rcases this with rfl | rfl <;> decide +kernel

theorem cnt_up {p : Nat → Bool} {i : Nat} : ∀ {j}, i ≤ j → cnt p i ≤ cnt p j
  | 0, h => by have : i = 0 := by omega
               subst this; exact Nat.le_refl _
  | j + 1, h => by
    have e : cnt p (j + 1) = cnt p j + if p j = true then 1 else 0 := rfl
    by_cases e1 : i = j + 1
    · subst e1; exact Nat.le_refl _
    · have := cnt_up (p := p) (show i ≤ j by omega)
      omega
theorem cnt_three {p : Nat → Bool} {N a b c : Nat} (h1 : a < b) (h2 : b < c) (h3 : c < N) (ha : p a = true) (hb : p b = true) (hc : p c = true) : 3 ≤ cnt p N := by
  have ea : cnt p (a + 1) = cnt p a + 1 := by show cnt p a + (if p a = true then 1 else 0) = _; rw [if_pos ha]
  have eb : cnt p (b + 1) = cnt p b + 1 := by show cnt p b + (if p b = true then 1 else 0) = _; rw [if_pos hb]
  have ec : cnt p (c + 1) = cnt p c + 1 := by show cnt p c + (if p c = true then 1 else 0) = _; rw [if_pos hc]
  have h4 := cnt_up (p := p) (show a + 1 ≤ b by omega)
  have h5 := cnt_up (p := p) (show b + 1 ≤ c by omega)
  have h6 := cnt_up (p := p) (show c + 1 ≤ N by omega)
  omega
theorem turn_const (net : List Nat) (n : Nat) {k : Nat} (hk : k < 3) : turn net (List.replicate n k) = List.replicate n k := by
  apply List.ext_getElem (by rw [turn_length])
  intro i h1 h2
  rw [List.length_replicate] at h2
  have e := turn_get net (List.replicate n k) (k := i) (by rw [List.length_replicate]; exact h2)
  have e0 : ∀ j, j < n → (List.replicate n k).getD j 0 = k := fun j hj => by simp [List.getD_eq_getElem?_getD, hj]
  have ep : pullB net (List.replicate n k) i = false := by
    cases ep : pullB net (List.replicate n k) i
    · rfl
    · obtain ⟨j, hj, _, he⟩ := pullB_iff.1 ep
      rw [List.length_replicate] at hj
      rw [e0 j hj, e0 i h2] at he
      have : k = 0 ∨ k = 1 ∨ k = 2 := by omega
      rcases this with rfl | rfl | rfl <;> omega
  rw [ep, e0 i h2] at e
  rw [List.getD_eq_getElem?_getD, List.getElem?_eq_getElem h1, Option.getD_some] at e
  rw [e]
  simp [turnK]
theorem same_st {n k : Nat} (h1 : 1 ≤ n) (h6 : n ≤ 6) (hk : k < 3) : St 3 (List.replicate n k) :=
  ⟨by omega, by omega, by rw [List.length_replicate]; exact h1, by rw [List.length_replicate]; exact h6, fun i hi => by
    rw [List.length_replicate] at hi
    simp [List.getD_eq_getElem?_getD, hi]; exact hk⟩
theorem flP_same {ns : List Nat} (ok : Ok ns) {k : Nat} (hk : k < 3) : flP ns (num 3 (List.replicate ns.length k)) = true := by
  have st := same_st (k := k) ok.some ok.few hk
  unfold flP
  rw [stN_num st (List.length_replicate ..)]
  exact (flatB_iff ok st (List.length_replicate ..)).2 (still_flat ok st (List.length_replicate ..) (turn_const ns _ hk))
theorem flN_three {ns : List Nat} (ok : Ok ns) (h4 : ns.length ≤ 4) : 3 ≤ flN ns := by
  have h1 := ok.some
  have hb : num 3 (List.replicate ns.length 0) < num 3 (List.replicate ns.length 1) ∧ num 3 (List.replicate ns.length 1) < num 3 (List.replicate ns.length 2) ∧ num 3 (List.replicate ns.length 2) < 3 ^ ns.length := by
    have : ns.length = 1 ∨ ns.length = 2 ∨ ns.length = 3 ∨ ns.length = 4 := by omega
    rcases this with e | e | e | e <;> rw [e] <;> decide
  exact cnt_three hb.1 hb.2.1 hb.2.2 (flP_same ok (by omega)) (flP_same ok (by omega)) (flP_same ok (by omega))

/-! Those in loops. -/
def lpP (ns : List Nat) (c m : Nat) : Bool := (List.range (c ^ ns.length)).any fun l => decide (run ns c (stN ns c m) (l + 1) = stN ns c m)
def lpN (ns : List Nat) (c : Nat) : Nat := cnt (lpP ns c) (c ^ ns.length)
def lpOf (xs : List Int) (kinds : Int) : Int := if ccB xs kinds = true then ((lpN (xs.map Int.toNat) kinds.toNat : Nat) : Int) else -1
theorem lpOf_ok {ns : List Nat} {c : Nat} (ok : Ok ns) (h4 : ns.length ≤ 4) (h3 : 3 ≤ c) (h5 : c ≤ 5) : lpOf (nats ns) (c : Int) = ((lpN ns c : Nat) : Int) := by
  unfold lpOf; rw [ccB_yes ok h4 h3 h5, if_pos rfl, nats_toNat, Int.toNat_natCast]
theorem lpOf_no {xs : List Int} {kinds : Int} (h : ccB xs kinds = false) : lpOf xs kinds = -1 := by unfold lpOf; rw [if_neg (by simp [h])]
theorem lpP_iff {ns : List Nat} {c m : Nat} (st : St c (stN ns c m)) : lpP ns c m = true ↔ ∃ l, 1 ≤ l ∧ run ns c (stN ns c m) l = stN ns c m := by
  unfold lpP
  rw [List.any_eq_true]
  constructor
  · rintro ⟨l, _, h⟩
    rw [decide_eq_true_eq] at h
    exact ⟨l + 1, by omega, h⟩
  · rintro ⟨l, hl, h⟩
    obtain ⟨a, p, hloop, hb⟩ := run_loop ns st
    rw [stN_length] at hb
    have ha : a = 0 := by
      have := hloop.first 0 l (by omega) h.symm
      omega
    subst ha
    have hp := hloop.pos
    have hback := hloop.back
    rw [Nat.zero_add] at hback
    refine ⟨p - 1, List.mem_range.2 (by omega), decide_eq_true ?_⟩
    rw [show p - 1 + 1 = p by omega]
    exact hback
/-- What LoopOf tells. -/
theorem lpP_loop {ns : List Nat} {c m : Nat} (ok : Ok ns) (h3 : 3 ≤ c) (h5 : c ≤ 5) {a b : Int} (h : LoopIs (nats ns) (c : Int) (nats (stN ns c m)) a b) : decide (a = 0) = lpP ns c m := by
  have st := stN_st ok h3 h5 m
  rcases h with ⟨ns', c', ks', q, l, e1, e2, e3, _, _, _, hloop, hb, rfl, rfl⟩ | ⟨hf, _, _⟩
  · have := nats_inj e1
    subst this
    have := nats_inj e3
    subst this
    have : c = c' := by omega
    subst this
    have h1 := lpP_iff (ns := ns) st
    cases e : lpP ns c m
    · refine decide_eq_false fun h0 => ?_
      have hq : q = 0 := by omega
      subst hq
      have hback := hloop.back
      rw [Nat.zero_add] at hback
      have := h1.2 ⟨l, hloop.pos, hback⟩
      rw [e] at this; cases this
    · obtain ⟨t, ht, h2⟩ := h1.1 e
      have := hloop.first 0 t (by omega) h2.symm
      exact decide_eq_true (by omega)
  · rw [fireB_yes ok st (stN_length _ _ _)] at hf; cases hf
theorem lpN_pos {ns : List Nat} {c : Nat} (ok : Ok ns) (h3 : 3 ≤ c) (h5 : c ≤ 5) : 1 ≤ lpN ns c :=
  cnt_pos.2 ⟨0, pow_pos3 h3, (lpP_iff (stN_st ok h3 h5 0)).2 ⟨1, Nat.le_refl _, by rw [stN_zero, run_rest]⟩⟩
theorem iter_back {ns : List Nat} {c m l : Nat} (ok : Ok ns) (h3 : 3 ≤ c) (h5 : c ≤ 5) (hm : m < c ^ ns.length) : run ns c (stN ns c m) l = stN ns c m ↔ iter (stepN ns c) l m = m := by
  rw [← iter_run ok h3 h5]
  exact ⟨fun e => stN_inj h3 (iter_lt (fun m _ => stepN_lt ok h3 h5 m) hm l) hm e, fun e => by rw [e]⟩
theorem lpN_eden {ns : List Nat} {c : Nat} (ok : Ok ns) (h3 : 3 ≤ c) (h5 : c ≤ 5) : lpN ns c + edenN ns c ≤ c ^ ns.length := by
  refine loops_led (F := stepN ns c) (fun m _ => stepN_lt ok h3 h5 m) (fun m hm hp => ?_) (fun s hs hq => (edenP_iff ok h3 h5 hs).1 hq)
  obtain ⟨l, hl, e⟩ := (lpP_iff (stN_st ok h3 h5 m)).1 hp
  exact ⟨l, hl, (iter_back ok h3 h5 hm).1 e⟩
theorem stepN_zero {ns : List Nat} {c : Nat} (h3 : 3 ≤ c) : stepN ns c 0 = 0 := by
  unfold stepN
  rw [stN_zero, step_rest, ← stN_zero (c := c), num_stN h3 (pow_pos3 h3)]
theorem lpN_one {ns : List Nat} {c : Nat} (ok : Ok ns) (h3 : 3 ≤ c) (h5 : c ≤ 5) : lpN ns c = 1 ↔ dieN ns c = c ^ ns.length := by
  refine loops_one (F := stepN ns c) (pow_pos3 h3) (fun m _ => stepN_lt ok h3 h5 m) (stepN_zero h3) (fun m hm => ?_) (fun m hm => ?_)
  · rw [lpP_iff (stN_st ok h3 h5 m)]
    exact ⟨fun ⟨l, hl, e⟩ => ⟨l, hl, (iter_back ok h3 h5 hm).1 e⟩, fun ⟨l, hl, e⟩ => ⟨l, hl, (iter_back ok h3 h5 hm).2 e⟩⟩
  · rw [dieP_iff (stN_st ok h3 h5 m)]
    constructor
    · rintro ⟨t, e⟩
      rw [← iter_run ok h3 h5, ← stN_zero (c := c)] at e
      exact ⟨t, stN_inj h3 (iter_lt (fun m _ => stepN_lt ok h3 h5 m) hm t) (pow_pos3 h3) e⟩
    · rintro ⟨t, e⟩
      exact ⟨t, by rw [← iter_run ok h3 h5, e, stN_zero]⟩

end Nt
end Go.Proofs.Ytlcbpnbehbgbeaa
