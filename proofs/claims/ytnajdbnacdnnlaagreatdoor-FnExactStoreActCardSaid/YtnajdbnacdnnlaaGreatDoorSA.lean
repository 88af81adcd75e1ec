/-
  Plain mathematics of pulses: slow pulses all go out.
  Plain mathematics of texts: numbers in decimal, texts cut at signs and joined again. A text is a list of numbers, one a byte.
  Plain mathematics of scripts of lights: runs by a script, firings counted, lights that come later, pulses, lights at first.
  Plain mathematics: what the functions of scripts answer.
  Plain mathematics: a run by a script, the lights taken one by one in their order.
  Plain mathematics: what a script's text is, and what reading a text answers.
-/
import Derived.Test.YtnajdbnacdnnlaaGreatDoorVP
import Derived.Test.YtnajdbnacdnnlaaGreatDoorPA
import Derived.Test.YtnajdbnacdnnlaaGreatDoorTA
namespace Go.Proofs.YtnajdbnacdnnlaaGreatDoor
namespace Nt

/-- The kind, so many steps behind the first pulse, of a node that slow pulses pass. -/
def pk (c e m u : Nat) : Nat := if u / e < m ∧ u % e + 1 < c then u % e + 1 else 0
theorem div_succ {e u : Nat} (he : 0 < e) : (u % e + 1 < e ∧ (u + 1) / e = u / e ∧ (u + 1) % e = u % e + 1) ∨ (u % e + 1 = e ∧ (u + 1) / e = u / e + 1 ∧ (u + 1) % e = 0) := by
  have key : ∀ q p, p < e → (e * q + p) / e = q ∧ (e * q + p) % e = p := by
    intro q p hp
    rw [Nat.mul_add_div he, Nat.mul_add_mod, Nat.div_eq_of_lt hp, Nat.mod_eq_of_lt hp]
    exact ⟨rfl, rfl⟩
  have h1 := Nat.div_add_mod u e
  have h2 := Nat.mod_lt u he
  by_cases h : u % e + 1 < e
  · have k := key (u / e) (u % e + 1) h
    rw [show e * (u / e) + (u % e + 1) = u + 1 by omega] at k
    exact Or.inl ⟨h, k.1, k.2⟩
  · have k := key (u / e + 1) 0 he
    rw [Nat.mul_add, Nat.mul_one, show e * (u / e) + e + 0 = u + 1 by omega] at k
    exact Or.inr ⟨by omega, k.1, k.2⟩
theorem pk_lt {c e m u : Nat} (h3 : 3 ≤ c) : pk c e m u < c := by unfold pk; split <;> omega
theorem pk_one {c e m u : Nat} (h3 : 3 ≤ c) : pk c e m u = 1 ↔ u % e = 0 ∧ u / e < m := by
  unfold pk
  constructor
  · intro h
    split at h
    · rename_i h1
      exact ⟨by omega, h1.1⟩
    · omega
  · rintro ⟨h1, h2⟩
    rw [if_pos ⟨h2, by omega⟩, h1]
theorem pk_next {c e m u : Nat} (h3 : 3 ≤ c) (he : c ≤ e) (h : 0 < pk c e m u) : (pk c e m u + 1) % c = pk c e m (u + 1) := by
  have hq : u / e < m ∧ u % e + 1 < c := by
    apply Classical.byContradiction
    intro hn
    unfold pk at h
    rw [if_neg hn] at h
    omega
  rcases div_succ (u := u) (by omega : 0 < e) with ⟨h1, h2, h4⟩ | ⟨h1, _, _⟩
  · unfold pk
    rw [if_pos hq, h2, h4, succ_mod_cases (by omega)]
    by_cases e2 : u % e + 1 + 1 = c
    · rw [if_pos e2, if_neg (by omega)]
    · rw [if_neg e2, if_pos ⟨hq.1, by omega⟩]
  · omega
theorem pk_zero {c e m u : Nat} (h3 : 3 ≤ c) (he : c ≤ e) (h : pk c e m u = 0) : pk c e m (u + 1) = 0 ∨ pk c e m (u + 1) = 1 := by
  have hq : ¬ (u / e < m ∧ u % e + 1 < c) := fun hn => by
    unfold pk at h
    rw [if_pos hn] at h
    omega
  rcases div_succ (u := u) (by omega : 0 < e) with ⟨h1, h2, h4⟩ | ⟨h1, h2, h4⟩
  · left
    unfold pk
    rw [h2, h4, if_neg (fun hn => hq ⟨hn.1, by omega⟩)]
  · unfold pk
    rw [h2, h4]
    split
    · right; rfl
    · left; rfl
theorem pk_after {c e m u : Nat} (h3 : 3 ≤ c) (he : c ≤ e) (h : pk c e m u = 1) : pk c e m (u + 1) = 2 := by
  rw [← pk_next h3 he (by omega), h, Nat.mod_eq_of_lt (by omega)]

/-- The kind at a time of a node that is so far; the state with the pulse of that time lit. -/
def kd (c e m : Nat) (d : Int) (t : Nat) : Nat := if 0 ≤ d ∧ d ≤ (t : Int) then pk c e m ((t : Int) - d).toNat else 0
theorem kd_at {c e m t d : Nat} (h : d ≤ t) : kd c e m (d : Int) t = pk c e m (t - d) := by
  unfold kd
  rw [if_pos (by omega), show ((t : Int) - (d : Int)).toNat = t - d by omega]
theorem kd_early {c e m t : Nat} {d : Int} (h : ¬ (0 ≤ d ∧ d ≤ (t : Int))) : kd c e m d t = 0 := by unfold kd; rw [if_neg h]
def pst (net : List Nat) (c e m node t : Nat) : List Nat := (List.range net.length).map fun k => kd c e m (dist net (2 ^ node) 64 k) t
theorem pst_length (net : List Nat) (c e m node t : Nat) : (pst net c e m node t).length = net.length := by simp [pst]
theorem pst_get (net : List Nat) (c e m node t : Nat) {k : Nat} (h : k < net.length) : (pst net c e m node t).getD k 0 = kd c e m (dist net (2 ^ node) 64 k) t := by
  simp [pst, List.getD_eq_getElem?_getD, h]
/-- A step leads to the next state, but for the pulse that is lit then. -/
theorem pst_step {net : List Nat} (ok : Ok net) {c e m node : Nat} (h3 : 3 ≤ c) (he : c ≤ e) (hm : 1 ≤ m) (hn : node < net.length) (t : Nat) {k : Nat} (hk : k < net.length) :
    (step net c (pst net c e m node t)).getD k 0 = if k = node ∧ pk c e m (t + 1) = 1 then 0 else (pst net c e m node (t + 1)).getD k 0 := by
  have hs : 2 ^ node < 2 ^ net.length := Nat.pow_lt_pow_right (by omega) hn
  have hz : ∀ j, dist net (2 ^ node) 64 j = 0 ↔ j = node := fun j => by
    rw [dist_zero, bit_pow]
    exact ⟨fun e => e.symm, fun e => e.symm⟩
  have hlb : litB net (pst net c e m node t) k = true ↔ ∃ j, j < net.length ∧ (net.getD k 0).testBit j = true ∧ kd c e m (dist net (2 ^ node) 64 j) t = 1 := by
    rw [litB_iff, pst_length]
    constructor
    · rintro ⟨j, hj, hb, hf⟩
      rw [pst_get _ _ _ _ _ _ hj] at hf
      exact ⟨j, hj, hb, hf⟩
    · rintro ⟨j, hj, hb, hf⟩
      exact ⟨j, hj, hb, by rw [pst_get _ _ _ _ _ _ hj]; exact hf⟩
  -- which neighbours may fire
  have hfire : ∀ j, j < net.length → (net.getD k 0).testBit j = true → kd c e m (dist net (2 ^ node) 64 j) t = 1 → ∃ d i : Nat, dist net (2 ^ node) 64 k = (d : Int) ∧ dist net (2 ^ node) 64 j = (i : Int) ∧ i ≤ t ∧ pk c e m (t - i) = 1 ∧ d ≤ i + 1 ∧ i ≤ d + 1 := fun j hj hb hf => by
    have h0 : 0 ≤ dist net (2 ^ node) 64 j ∧ dist net (2 ^ node) 64 j ≤ (t : Int) := by
      apply Classical.byContradiction
      intro hno
      rw [kd_early hno] at hf
      omega
    obtain ⟨i, hi⟩ := Int.eq_ofNat_of_zero_le h0.1
    have h1 := dist_near ok hs hj (by rw [ok.both j k hj hk]; exact hb) hi
    obtain ⟨d, hd⟩ := Int.eq_ofNat_of_zero_le h1.1
    have h2 := dist_near ok hs hk hb hd
    rw [hi, kd_at (by omega)] at hf
    exact ⟨d, i, hd, hi, by omega, hf, by omega, by omega⟩
  rw [step_get _ _ _ (by rw [pst_length]; exact hk), pst_get _ _ _ _ _ _ hk, pst_get _ _ _ _ _ _ hk]
  generalize litB net (pst net c e m node t) k = b at *
  by_cases h0 : 0 ≤ dist net (2 ^ node) 64 k
  · obtain ⟨d, hd⟩ := Int.eq_ofNat_of_zero_le h0
    by_cases hdt : d ≤ t
    · -- pulses pass it
      rw [hd, kd_at hdt, kd_at (by omega), show t + 1 - d = t - d + 1 by omega]
      by_cases hp : 0 < pk c e m (t - d)
      · have hnext := pk_next h3 he hp
        unfold fireK
        rw [if_pos hp, hnext]
        by_cases hc : k = node ∧ pk c e m (t + 1) = 1
        · exfalso
          have hd0 : d = 0 := by have := (hz k).2 hc.1; omega
          subst hd0
          rw [Nat.sub_zero] at hnext hp
          rw [hc.2] at hnext
          have := pk_lt (e := e) (m := m) (u := t) h3
          rw [succ_mod_cases this] at hnext
          split at hnext <;> omega
        · rw [if_neg hc]
      · have hp0 : pk c e m (t - d) = 0 := by omega
        have hstep := pk_zero h3 he hp0
        unfold fireK
        rw [if_neg hp]
        -- a neighbour that fires is one nearer
        have near : b = true → 0 < d ∧ pk c e m (t - d + 1) = 1 := fun hbt => by
          obtain ⟨j, hj, hb, hf⟩ := hlb.1 hbt
          obtain ⟨d', i, h1, h2, h4, h5, h6, h7⟩ := hfire j hj hb hf
          have : d' = d := by omega
          subst this
          by_cases c1 : i = d'
          · subst c1; omega
          · by_cases c2 : i = d' + 1
            · subst c2
              have := pk_after h3 he h5
              rw [show t - (d' + 1) + 1 = t - d' by omega] at this
              omega
            · refine ⟨by omega, ?_⟩
              rw [show t - d' + 1 = t - i by omega]; exact h5
        by_cases hd0 : d = 0
        · subst hd0
          have hkn := (hz k).1 hd
          have hbf : b = false := by
            cases hb : b
            · rfl
            · have := (near hb).1; omega
          rw [hbf, Nat.sub_zero] at *
          by_cases h1 : pk c e m (t + 1) = 1
          · rw [if_pos (show k = node ∧ pk c e m (t + 1) = 1 from ⟨hkn, h1⟩)]; rfl
          · rw [if_neg (show ¬ (k = node ∧ pk c e m (t + 1) = 1) from fun hh => h1 hh.2)]
            rcases hstep with h2 | h2
            · rw [h2]; rfl
            · exact absurd h2 h1
        · rw [if_neg (show ¬ (k = node ∧ pk c e m (t + 1) = 1) from fun hh => hd0 (by have := (hz k).2 hh.1; omega))]
          rcases hstep with h2 | h2
          · have hbf : b = false := by
              cases hb : b
              · rfl
              · have := (near hb).2; omega
            rw [hbf, h2]; rfl
          · obtain ⟨j, hj, hb, hjd⟩ := dist_back ok hk (set := 2 ^ node) (t := d - 1) (by omega)
            have hbt : b = true := hlb.2 ⟨j, hj, hb, by rw [hjd, kd_at (by omega), show t - (d - 1) = t - d + 1 by omega]; exact h2⟩
            rw [hbt, h2]; rfl
    · -- it is too far as yet
      rw [if_neg (show ¬ (k = node ∧ pk c e m (t + 1) = 1) from fun hh => hdt (by have := (hz k).2 hh.1; omega)), hd, kd_early (by omega)]
      unfold fireK
      rw [if_neg (by omega)]
      have p0 : pk c e m 0 = 1 := (pk_one h3).2 ⟨Nat.zero_mod _, by rw [Nat.zero_div]; omega⟩
      by_cases h1 : d = t + 1
      · subst h1
        obtain ⟨j, hj, hb, hjd⟩ := dist_back ok hk hd
        have hbt : b = true := hlb.2 ⟨j, hj, hb, by rw [hjd, kd_at (Nat.le_refl _), Nat.sub_self]; exact p0⟩
        rw [hbt, kd_at (Nat.le_refl _), Nat.sub_self, p0]; rfl
      · have hbf : b = false := by
          cases hb : b
          · rfl
          · obtain ⟨j, hj, hb2, hf⟩ := hlb.1 hb
            obtain ⟨d', i, h4, h5, h6, -, h7, -⟩ := hfire j hj hb2 hf
            omega
        rw [hbf, kd_early (by omega)]; rfl
  · -- it is not come to
    have hbf : b = false := by
      cases hb : b
      · rfl
      · obtain ⟨j, hj, hb2, hf⟩ := hlb.1 hb
        obtain ⟨d', i, h4, -⟩ := hfire j hj hb2 hf
        omega
    rw [if_neg (show ¬ (k = node ∧ pk c e m (t + 1) = 1) from fun hh => h0 (by have := (hz k).2 hh.1; omega)), kd_early (by omega), kd_early (by omega), hbf]
    rfl

/-- How many pulses have gone out of the node before a time. -/
theorem pulses_count {c e m : Nat} (h3 : 3 ≤ c) (he : c ≤ e) : ∀ T, sumTo (fun t => if pk c e m t = 1 then 1 else 0) T = min m (if T % e = 0 then T / e else T / e + 1)
  | 0 => by
    show 0 = _
    rw [Nat.zero_mod, if_pos rfl, Nat.zero_div]; omega
  | T + 1 => by
    have ih := pulses_count (m := m) h3 he T
    have h1 : (if pk c e m T = 1 then 1 else 0) = if T % e = 0 ∧ T / e < m then 1 else 0 := by
      by_cases hp : pk c e m T = 1
      · rw [if_pos hp, if_pos ((pk_one h3).1 hp)]
      · rw [if_neg hp, if_neg (fun hh => hp ((pk_one h3).2 hh))]
    rw [sumTo, ih, h1]
    rcases div_succ (u := T) (by omega : 0 < e) with ⟨a, b, d⟩ | ⟨a, b, d⟩
    · rw [b, d, if_neg (by omega : ¬ T % e + 1 = 0)]
      by_cases h0 : T % e = 0
      · rw [if_pos h0]
        by_cases hm : T / e < m
        · rw [if_pos ⟨h0, hm⟩]; omega
        · rw [if_neg (fun hh => hm hh.2)]; omega
      · rw [if_neg h0, if_neg (fun hh => h0 hh.1)]; omega
    · rw [b, d, if_pos rfl, if_neg (by omega : ¬ T % e = 0), if_neg (fun hh => by omega)]; omega
theorem pulses_all {c e m : Nat} (h3 : 3 ≤ c) (he : c ≤ e) {T : Nat} (hT : e * (m - 1) < T) : sumTo (fun t => if pk c e m t = 1 then 1 else 0) T = m := by
  rw [pulses_count h3 he]
  have h1 := Nat.div_add_mod T e
  have h2 := Nat.mod_lt T (by omega : 0 < e)
  have h4 : m - 1 ≤ T / e := by
    apply Classical.byContradiction
    intro hn
    have h5 : e * (T / e + 1) ≤ e * (m - 1) := Nat.mul_le_mul_left e (by omega)
    rw [Nat.mul_add, Nat.mul_one] at h5
    omega
  by_cases h0 : T % e = 0
  · rw [if_pos h0]
    have h6 : T / e ≠ m - 1 := fun h6 => by
      rw [h6] at h1
      omega
    omega
  · rw [if_neg h0]; omega
/-- How many have come to a node that is so far. -/
theorem pulses_far {c e m d : Nat} (hd : 1 ≤ d) : ∀ T, sumTo (fun t => if kd c e m (d : Int) (t + 1) = 1 then 1 else 0) T = sumTo (fun t => if pk c e m t = 1 then 1 else 0) (T + 1 - d)
  | 0 => by rw [show 0 + 1 - d = 0 by omega]; rfl
  | T + 1 => by
    rw [sumTo, pulses_far hd T]
    by_cases h : d ≤ T + 1
    · rw [kd_at h, show T + 1 + 1 - d = (T + 1 - d) + 1 by omega, sumTo]
    · rw [kd_early (by omega), show T + 1 + 1 - d = 0 by omega, show T + 1 - d = 0 by omega]
      rfl
/-- By a step a node fires as a pulse comes, but for the node that is lit. -/
theorem pst_fires {net : List Nat} (ok : Ok net) {c e m node : Nat} (h3 : 3 ≤ c) (he : c ≤ e) (hm : 1 ≤ m) (hn : node < net.length) (t : Nat) {k : Nat} (hk : k < net.length) :
    (step net c (pst net c e m node t)).getD k 0 = 1 ↔ k ≠ node ∧ kd c e m (dist net (2 ^ node) 64 k) (t + 1) = 1 := by
  rw [pst_step ok h3 he hm hn t hk, pst_get _ _ _ _ _ _ hk]
  by_cases h : k = node
  · subst h
    have hz : dist net (2 ^ k) 64 k = 0 := dist_zero.2 ((bit_pow _ _).2 rfl)
    have h1 : kd c e m (dist net (2 ^ k) 64 k) (t + 1) = pk c e m (t + 1) := by
      rw [hz]
      exact kd_at (c := c) (e := e) (m := m) (t := t + 1) (d := 0) (by omega)
    rw [h1]
    by_cases h2 : pk c e m (t + 1) = 1
    · rw [if_pos ⟨rfl, h2⟩]
      constructor
      · intro h5; omega
      · intro h5; exact absurd rfl h5.1
    · rw [if_neg (fun hh => h2 hh.2)]
      constructor
      · intro h5; exact absurd h5 h2
      · intro h5; exact absurd rfl h5.1
  · rw [if_neg (fun hh => h hh.1)]
    exact ⟨fun h1 => ⟨h, h1⟩, fun h1 => h1.2⟩

end Nt
end Go.Proofs.YtnajdbnacdnnlaaGreatDoor

namespace Go.Proofs.YtnajdbnacdnnlaaGreatDoor
namespace Nt

/-- A number in decimal. -/
def digs (n : Nat) : List Nat := if n < 10 then [48 + n] else digs (n / 10) ++ [48 + n % 10]
  termination_by n
  decreasing_by omega

theorem digs_small {n : Nat} (h : n < 10) : digs n = [48 + n] := by rw [digs, if_pos h]
theorem digs_more {n : Nat} (h : ¬ n < 10) : digs n = digs (n / 10) ++ [48 + n % 10] := by rw [digs, if_neg h]
theorem digs_ne (n : Nat) : digs n ≠ [] := by
  by_cases h : n < 10
  · rw [digs_small h]; simp
  · rw [digs_more h]; simp
theorem digs_digit (n : Nat) : ∀ x, x ∈ digs n → 48 ≤ x ∧ x ≤ 57 := by
  induction n using Nat.strongRecOn with
  | ind n ih =>
    intro x hx
    by_cases h : n < 10
    · rw [digs_small h] at hx
      simp at hx
      omega
    · rw [digs_more h, List.mem_append] at hx
      rcases hx with hx | hx
      · exact ih (n / 10) (by omega) x hx
      · simp at hx
        omega
theorem digs_length {n : Nat} : ∀ k, n < 10 ^ (k + 1) → (digs n).length ≤ k + 1 := by
  intro k
  induction k generalizing n with
  | zero => intro h; rw [digs_small (by simpa using h)]; simp
  | succ k ih =>
    intro h
    by_cases h10 : n < 10
    · rw [digs_small h10]; simp
    · rw [digs_more h10, List.length_append]
      have := ih (n := n / 10) (Nat.div_lt_of_lt_mul (by rw [Nat.pow_succ, Nat.mul_comm] at h; exact h))
      simp
      omega
theorem digs_head {n : Nat} (h : 0 < n) : ∀ x rest, digs n = x :: rest → x ≠ 48 := by
  induction n using Nat.strongRecOn with
  | ind n ih =>
    intro x rest e
    by_cases h10 : n < 10
    · rw [digs_small h10] at e
      simp at e
      omega
    · rw [digs_more h10] at e
      cases hd : digs (n / 10) with
      | nil => exact absurd hd (digs_ne _)
      | cons y ys =>
        rw [hd] at e
        simp at e
        exact e.1 ▸ ih (n / 10) (by omega) (by omega) y ys hd

/-- What digits say, from the left. -/
def dstep (n x : Nat) : Nat := 10 * n + (x - 48)
def valFrom (n : Nat) (xs : List Nat) : Nat := xs.foldl dstep n
theorem valFrom_append (xs ys : List Nat) (n : Nat) : valFrom n (xs ++ ys) = valFrom (valFrom n xs) ys := by
  unfold valFrom; rw [List.foldl_append]
theorem valFrom_cons (n x : Nat) (xs : List Nat) : valFrom n (x :: xs) = valFrom (dstep n x) xs := by
  unfold valFrom; rw [List.foldl_cons]
theorem valFrom_nil (n : Nat) : valFrom n [] = n := by unfold valFrom; rw [List.foldl_nil]
theorem valFrom_one (n x : Nat) : valFrom n [x] = 10 * n + (x - 48) := by rw [valFrom_cons, valFrom_nil, dstep]
theorem valFrom_digs (n : Nat) : valFrom 0 (digs n) = n := by
  induction n using Nat.strongRecOn with
  | ind n ih =>
    by_cases h : n < 10
    · rw [digs_small h, valFrom_one]
      omega
    · rw [digs_more h, valFrom_append, ih (n / 10) (by omega), valFrom_one]
      omega

/-- The number of a text of one to six digits, without leading zeros. -/
def isNum (s : List Nat) : Bool := decide (1 ≤ s.length ∧ s.length ≤ 6) && !(decide (1 < s.length) && decide (s.getD 0 0 = 48)) && s.all fun x => decide (48 ≤ x ∧ x ≤ 57)
def dval (s : List Nat) : Int := if isNum s = true then ((valFrom 0 s : Nat) : Int) else -1
theorem isNum_digs {n : Nat} (h : n < 1000000) : isNum (digs n) = true := by
  have hl := digs_length (n := n) 5 (by simpa using h)
  have hn := digs_ne n
  unfold isNum
  rw [Bool.and_eq_true, Bool.and_eq_true]
  refine ⟨⟨decide_eq_true ⟨?_, hl⟩, ?_⟩, ?_⟩
  · cases hd : digs n with
    | nil => exact absurd hd hn
    | cons x xs => simp
  · cases hd : digs n with
    | nil => exact absurd hd hn
    | cons x xs =>
      by_cases h0 : 0 < n
      · have := digs_head h0 x xs hd
        simp [this]
      · have e : n = 0 := by omega
        subst e
        rw [digs_small (by omega)] at hd
        simp at hd
        simp [← hd.2]
  · rw [List.all_eq_true]
    intro x hx
    exact decide_eq_true (digs_digit n x hx)
theorem dval_digs {n : Nat} (h : n < 1000000) : dval (digs n) = (n : Int) := by
  unfold dval; rw [if_pos (isNum_digs h), valFrom_digs]

theorem digs_step {n x : Nat} (h0 : 0 < n) (hx : 48 ≤ x ∧ x ≤ 57) : digs (dstep n x) = digs n ++ [x] := by
  unfold dstep
  have e1 : (10 * n + (x - 48)) / 10 = n := by omega
  have e2 : 48 + (10 * n + (x - 48)) % 10 = x := by omega
  rw [digs_more (by omega), e1, e2]
theorem dstep_pos {n x : Nat} (h0 : 0 < n) : 0 < dstep n x := by unfold dstep; omega
theorem digs_valFrom (xs : List Nat) : ∀ (n : Nat), 0 < n → (∀ x ∈ xs, 48 ≤ x ∧ x ≤ 57) → digs (valFrom n xs) = digs n ++ xs := by
  induction xs with
  | nil =>
    intro n _ _
    rw [valFrom_nil, List.append_nil]
  | cons x xs ih =>
    intro n h0 h
    have hx := h x (List.mem_cons_self)
    rw [valFrom_cons, ih (dstep n x) (dstep_pos h0) (fun y hy => h y (List.mem_cons_of_mem _ hy)), digs_step h0 hx, List.append_assoc, List.singleton_append]
/-- A text that says a number is the number's text. -/
theorem digs_val {s : List Nat} (h : isNum s = true) : digs (valFrom 0 s) = s := by
  unfold isNum at h
  rw [Bool.and_eq_true, Bool.and_eq_true, decide_eq_true_eq, List.all_eq_true] at h
  obtain ⟨⟨⟨h1, _⟩, h2⟩, h3⟩ := h
  cases s with
  | nil => simp at h1
  | cons x xs =>
    have hx := of_decide_eq_true (h3 x (by simp))
    rw [valFrom_cons]
    cases xs with
    | nil =>
      have e : dstep 0 x = x - 48 := by unfold dstep; omega
      rw [valFrom_nil, e, digs_small (by omega)]
      congr 1
      omega
    | cons y ys =>
      have hx0 : x ≠ 48 := by
        intro e
        subst e
        simp at h2
      have e : dstep 0 x = x - 48 := by unfold dstep; omega
      rw [digs_valFrom (y :: ys) _ (by rw [e]; omega) (fun z hz => of_decide_eq_true (h3 z (List.mem_cons_of_mem _ hz))), e, digs_small (by omega), List.singleton_append]
      congr 1
      omega
theorem dval_some {s : List Nat} {n : Nat} (h : dval s = (n : Int)) : digs n = s ∧ isNum s = true := by
  unfold dval at h
  cases e : isNum s
  · rw [e] at h; simp at h
  · rw [e, if_pos rfl] at h
    have : valFrom 0 s = n := by omega
    rw [← this]
    exact ⟨digs_val e, rfl⟩
theorem dval_range (s : List Nat) : dval s = -1 ∨ ∃ n : Nat, dval s = (n : Int) := by
  unfold dval
  split
  · exact .inr ⟨_, rfl⟩
  · exact .inl rfl
theorem digs_inj {m n : Nat} (h : digs m = digs n) : m = n := by
  have h1 := valFrom_digs m
  have h2 := valFrom_digs n
  rw [h, h2] at h1
  exact h1.symm

/-- What stands between the signs of a text: cut with what has been gone over. -/
def cutFrom (sep : Nat) (seen : List Nat) : List Nat → List (List Nat)
  | [] => [seen]
  | x :: rest => if x = sep then seen :: cutFrom sep [] rest else cutFrom sep (seen ++ [x]) rest
def cut (sep : Nat) (s : List Nat) : List (List Nat) := cutFrom sep [] s
/-- Texts with a sign between two. -/
def join (sep : Nat) : List (List Nat) → List Nat
  | [] => []
  | [p] => p
  | p :: q :: rest => p ++ sep :: join sep (q :: rest)

theorem cutFrom_ne (sep : Nat) : ∀ (s seen : List Nat), cutFrom sep seen s ≠ []
  | [], _ => by simp [cutFrom]
  | x :: rest, seen => by
    unfold cutFrom
    split
    · simp
    · exact cutFrom_ne sep rest _
theorem join_cons (sep : Nat) (p : List Nat) {qs : List (List Nat)} (h : qs ≠ []) : join sep (p :: qs) = p ++ sep :: join sep qs := by
  cases qs with
  | nil => exact absurd rfl h
  | cons q rest => rfl
theorem join_cutFrom (sep : Nat) : ∀ (s seen : List Nat), join sep (cutFrom sep seen s) = seen ++ s
  | [], seen => by simp [cutFrom, join]
  | x :: rest, seen => by
    unfold cutFrom
    by_cases h : x = sep
    · rw [if_pos h, join_cons sep seen (cutFrom_ne sep rest []), join_cutFrom sep rest [], h]
      simp
    · rw [if_neg h, join_cutFrom sep rest _]
      simp
theorem join_cut (sep : Nat) (s : List Nat) : join sep (cut sep s) = s := join_cutFrom sep s []
theorem cutFrom_free (sep : Nat) : ∀ (p rest seen : List Nat), sep ∉ p → cutFrom sep seen (p ++ rest) = cutFrom sep (seen ++ p) rest
  | [], rest, seen, _ => by simp
  | x :: p, rest, seen, h => by
    have hx : x ≠ sep := fun e => h (by simp [e])
    show cutFrom sep seen (x :: (p ++ rest)) = _
    rw [cutFrom, if_neg hx, cutFrom_free sep p rest _ (fun e => h (by simp [e]))]
    simp
theorem cut_join (sep : Nat) : ∀ (ps : List (List Nat)), ps ≠ [] → (∀ p ∈ ps, sep ∉ p) → cut sep (join sep ps) = ps
  | [], h, _ => absurd rfl h
  | [p], _, h => by
    show cutFrom sep [] p = [p]
    have := cutFrom_free sep p [] [] (h p (by simp))
    simpa [cutFrom] using this
  | p :: q :: rest, _, h => by
    show cutFrom sep [] (p ++ sep :: join sep (q :: rest)) = _
    rw [cutFrom_free sep p _ [] (h p (by simp))]
    show (if sep = sep then ([] ++ p) :: cutFrom sep [] (join sep (q :: rest)) else _) = _
    rw [if_pos rfl]
    have := cut_join sep (q :: rest) (by simp) (fun r hr => h r (by simp [List.mem_cons] at hr ⊢; exact .inr hr))
    unfold cut at this
    rw [this]
    simp
theorem cutFrom_parts (sep : Nat) : ∀ (s seen : List Nat), sep ∉ seen → ∀ p, p ∈ cutFrom sep seen s → sep ∉ p
  | [], seen, h, p, hp => by
    simp [cutFrom] at hp
    rw [hp]; exact h
  | x :: rest, seen, h, p, hp => by
    unfold cutFrom at hp
    by_cases e : x = sep
    · rw [if_pos e, List.mem_cons] at hp
      rcases hp with hp | hp
      · rw [hp]; exact h
      · exact cutFrom_parts sep rest [] (by simp) p hp
    · rw [if_neg e] at hp
      refine cutFrom_parts sep rest _ ?_ p hp
      simp
      exact ⟨h, fun e2 => e e2.symm⟩
theorem cut_parts (sep : Nat) (s : List Nat) : ∀ p, p ∈ cut sep s → sep ∉ p := cutFrom_parts sep s [] (by simp)
theorem cut_ne (sep : Nat) (s : List Nat) : cut sep s ≠ [] := cutFrom_ne sep s []
/-- A text that ends with the sign has an empty part at its end. -/
theorem cut_snoc (sep : Nat) (s : List Nat) : cut sep (s ++ [sep]) = cut sep s ++ [[]] := by
  have h : ∀ (s seen : List Nat), cutFrom sep seen (s ++ [sep]) = cutFrom sep seen s ++ [[]] := by
    intro s
    induction s with
    | nil => intro seen; simp [cutFrom]
    | cons x rest ih =>
      intro seen
      show cutFrom sep seen (x :: (rest ++ [sep])) = _
      unfold cutFrom
      split
      · rw [ih]; rfl
      · exact ih _
  exact h s []
theorem digs_free {n sep : Nat} (h : sep < 48 ∨ 57 < sep) : sep ∉ digs n := fun hm => by
  have := digs_digit n sep hm
  omega

end Nt
end Go.Proofs.YtnajdbnacdnnlaaGreatDoor

namespace Go.Proofs.YtnajdbnacdnnlaaGreatDoor
namespace Nt

/-- One light is ahead of another one. -/
def ahead (a b : Nat × Nat) : Prop := a.1 < b.1 ∨ a.1 = b.1 ∧ a.2 < b.2
instance (a b : Nat × Nat) : Decidable (ahead a b) := by unfold ahead; infer_instance
theorem ahead_trans {a b c : Nat × Nat} (h : ahead a b) (k : ahead b c) : ahead a c := by unfold ahead at *; omega
/-- A script of so many nodes: lights are pairs of a time and a node. -/
structure SOk (n : Nat) (sc : List (Nat × Nat)) : Prop where
  n1 : 1 ≤ n
  n6 : n ≤ 6
  few : sc.length ≤ 8
  time : ∀ l, l ∈ sc → l.1 < 60
  node : ∀ l, l ∈ sc → l.2 < n
  rise : sc.Pairwise ahead

theorem pair_of_next {sc : List (Nat × Nat)} (h : ∀ i (h1 : i + 1 < sc.length), ahead (sc[i]'(by omega)) sc[i + 1]) : sc.Pairwise ahead := by
  rw [List.pairwise_iff_getElem]
  intro i j hi hj hij
  obtain ⟨d, rfl⟩ : ∃ d, j = i + 1 + d := ⟨j - (i + 1), by omega⟩
  clear hij
  induction d with
  | zero => exact h i hj
  | succ d ih => exact ahead_trans (ih (by omega)) (h (i + 1 + d) hj)
theorem next_of_pair {sc : List (Nat × Nat)} (h : sc.Pairwise ahead) (i : Nat) (h1 : i + 1 < sc.length) : ahead (sc[i]'(by omega)) sc[i + 1] := by
  rw [List.pairwise_iff_getElem] at h
  exact h i (i + 1) (by omega) h1 (by omega)
theorem SOk.none {n : Nat} (h1 : 1 ≤ n) (h6 : n ≤ 6) : SOk n [] := ⟨h1, h6, by simp, by simp, by simp, List.Pairwise.nil⟩
theorem SOk.less {n : Nat} {sc : List (Nat × Nat)} (h : SOk n sc) : SOk n sc.dropLast :=
  ⟨h.n1, h.n6, by rw [List.length_dropLast]; have := h.few; omega, fun l hl => h.time l ((List.dropLast_sublist sc).subset hl), fun l hl => h.node l ((List.dropLast_sublist sc).subset hl), h.rise.sublist (List.dropLast_sublist sc)⟩
theorem SOk.filter {n : Nat} {sc : List (Nat × Nat)} (h : SOk n sc) (p : Nat × Nat → Bool) : SOk n (sc.filter p) :=
  ⟨h.n1, h.n6, Nat.le_trans (List.length_filter_le _ _) h.few, fun l hl => h.time l (List.mem_filter.1 hl).1, fun l hl => h.node l (List.mem_filter.1 hl).1, h.rise.sublist List.filter_sublist⟩

/-- A state with the lights of a time. -/
def litS (ks : List Nat) (sc : List (Nat × Nat)) (t : Nat) : List Nat := (List.range ks.length).map fun k => if ks.getD k 0 = 0 ∧ (t, k) ∈ sc then 1 else ks.getD k 0
theorem litS_length (ks : List Nat) (sc : List (Nat × Nat)) (t : Nat) : (litS ks sc t).length = ks.length := by simp [litS]
theorem litS_get (ks : List Nat) (sc : List (Nat × Nat)) (t : Nat) {k : Nat} (h : k < ks.length) : (litS ks sc t).getD k 0 = if ks.getD k 0 = 0 ∧ (t, k) ∈ sc then 1 else ks.getD k 0 := by
  simp [litS, List.getD_eq_getElem?_getD, h]
theorem ext_getN {l r : List Nat} (hl : l.length = r.length) (h : ∀ k, k < r.length → l.getD k 0 = r.getD k 0) : l = r := by
  apply List.ext_getElem hl
  intro i h1 h2
  have := h i h2
  rwa [List.getD_eq_getElem?_getD, List.getD_eq_getElem?_getD, List.getElem?_eq_getElem h1, List.getElem?_eq_getElem h2] at this
theorem litS_st {c : Nat} {ks : List Nat} (h : St c ks) (sc : List (Nat × Nat)) (t : Nat) : St c (litS ks sc t) :=
  ⟨h.c3, h.c5, by rw [litS_length]; exact h.some, by rw [litS_length]; exact h.few, fun k hk => by
    rw [litS_length] at hk
    rw [litS_get _ _ _ hk]
    have h1 := h.lt k hk
    have h2 := h.c3
    split <;> omega⟩
theorem litS_congr {ks : List Nat} {sc sc' : List (Nat × Nat)} {t : Nat} (h : ∀ k, (t, k) ∈ sc ↔ (t, k) ∈ sc') : litS ks sc t = litS ks sc' t := by
  refine ext_getN (by rw [litS_length, litS_length]) fun k hk => ?_
  rw [litS_length] at hk
  rw [litS_get _ _ _ hk, litS_get _ _ _ hk]
  by_cases h1 : ks.getD k 0 = 0 ∧ (t, k) ∈ sc
  · rw [if_pos h1, if_pos ⟨h1.1, (h k).1 h1.2⟩]
  · rw [if_neg h1, if_neg (fun h2 => h1 ⟨h2.1, (h k).2 h2.2⟩)]
theorem litS_nil (ks : List Nat) (t : Nat) : litS ks [] t = ks := by
  refine ext_getN (litS_length _ _ _) fun k hk => ?_
  rw [litS_get _ _ _ hk, if_neg (by simp)]
/-- Light by light. -/
theorem litS_hit {ks : List Nat} {sc : List (Nat × Nat)} {t i : Nat} (hi : i < sc.length) (ht : (sc[i]).1 = t) (h0 : (litS ks (sc.take i) t).getD (sc[i]).2 0 = 0) :
    (litS ks (sc.take i) t).set (sc[i]).2 1 = litS ks (sc.take (i + 1)) t := by
  refine ext_getN (by rw [List.length_set, litS_length, litS_length]) fun k hk => ?_
  rw [litS_length] at hk
  have hm : ∀ k, (t, k) ∈ sc.take (i + 1) ↔ (t, k) ∈ sc.take i ∨ k = (sc[i]).2 := fun k => by
    rw [List.take_succ_eq_append_getElem hi, List.mem_append, List.mem_singleton]
    constructor
    · rintro (h | h)
      · exact .inl h
      · right; rw [← h]
    · rintro (h | h)
      · exact .inl h
      · right; rw [h, ← ht]
  rw [litS_get _ _ _ hk]
  by_cases e : (sc[i]).2 = k
  · subst e
    rw [litS_get _ _ _ hk] at h0
    have hz : ks.getD (sc[i]).2 0 = 0 := by
      by_cases h1 : ks.getD (sc[i]).2 0 = 0 ∧ (t, (sc[i]).2) ∈ sc.take i
      · exact h1.1
      · rw [if_neg h1] at h0; exact h0
    rw [if_pos ⟨hz, (hm _).2 (.inr rfl)⟩, List.getD_eq_getElem?_getD, List.getElem?_set_self (by rw [litS_length]; exact hk)]
    rfl
  · rw [List.getD_eq_getElem?_getD, List.getElem?_set_ne e, ← List.getD_eq_getElem?_getD, litS_get _ _ _ hk]
    by_cases h1 : ks.getD k 0 = 0 ∧ (t, k) ∈ sc.take i
    · rw [if_pos h1, if_pos ⟨h1.1, (hm k).2 (.inl h1.2)⟩]
    · rw [if_neg h1, if_neg (fun h2 => by
        rcases (hm k).1 h2.2 with h3 | h3
        · exact h1 ⟨h2.1, h3⟩
        · exact e h3.symm)]
theorem litS_miss {ks : List Nat} {sc : List (Nat × Nat)} {t i : Nat} (hi : i < sc.length) (hn : ∀ k, k < ks.length → sc[i] = (t, k) → (litS ks (sc.take i) t).getD k 0 ≠ 0) : litS ks (sc.take i) t = litS ks (sc.take (i + 1)) t := by
  refine ext_getN (by rw [litS_length, litS_length]) fun k hk => ?_
  rw [litS_length] at hk
  have h0 := hn k hk
  rw [litS_get _ _ _ hk] at h0
  rw [litS_get _ _ _ hk, litS_get _ _ _ hk]
  have hm : (t, k) ∈ sc.take (i + 1) ↔ (t, k) ∈ sc.take i ∨ sc[i] = (t, k) := by
    rw [List.take_succ_eq_append_getElem hi, List.mem_append, List.mem_singleton]
    exact ⟨fun h => h.elim .inl (fun h => .inr h.symm), fun h => h.elim .inl (fun h => .inr h.symm)⟩
  by_cases h1 : ks.getD k 0 = 0 ∧ (t, k) ∈ sc.take i
  · rw [if_pos h1, if_pos ⟨h1.1, hm.2 (.inl h1.2)⟩]
  · rw [if_neg h1]
    rw [if_neg h1] at h0
    rw [if_neg (fun h2 => by
      rcases hm.1 h2.2 with h3 | h3
      · exact h1 ⟨h2.1, h3⟩
      · exact h0 h3 h2.1)]

/-- A run by a script. -/
def runS (net : List Nat) (c : Nat) (ks : List Nat) (sc : List (Nat × Nat)) : Nat → List Nat
  | 0 => ks
  | t + 1 => step net c (litS (runS net c ks sc t) sc t)
theorem runS_length (net : List Nat) (c : Nat) (ks : List Nat) (sc : List (Nat × Nat)) : ∀ t, (runS net c ks sc t).length = ks.length
  | 0 => rfl
  | t + 1 => by rw [runS, step_length, litS_length, runS_length net c ks sc t]
theorem runS_st (net : List Nat) {c : Nat} {ks : List Nat} (h : St c ks) (sc : List (Nat × Nat)) : ∀ t, St c (runS net c ks sc t)
  | 0 => h
  | t + 1 => step_st net (litS_st (runS_st net h sc t) sc t)
theorem runS_nil (net : List Nat) (c : Nat) (ks : List Nat) : ∀ t, runS net c ks [] t = run net c ks t
  | 0 => rfl
  | t + 1 => by rw [runS, litS_nil, runS_nil net c ks t]; rfl
theorem runS_soon (net : List Nat) (c : Nat) (ks : List Nat) (sc : List (Nat × Nat)) (T : Nat) : ∀ t, t ≤ T → runS net c ks (sc.filter fun l => decide (l.1 < T)) t = runS net c ks sc t
  | 0, _ => rfl
  | t + 1, h => by
    rw [runS, runS, runS_soon net c ks sc T t (by omega)]
    congr 1
    refine litS_congr fun k => ?_
    rw [List.mem_filter]
    simp
    intro _
    omega

/-- How often a node fires by a script: by lights, and by steps. -/
def firedS (net : List Nat) (c : Nat) (ks : List Nat) (sc : List (Nat × Nat)) (k : Nat) : Nat → Nat
  | 0 => 0
  | t + 1 => firedS net c ks sc k t + (if (runS net c ks sc t).getD k 0 = 0 ∧ (litS (runS net c ks sc t) sc t).getD k 0 = 1 then 1 else 0) + if (runS net c ks sc (t + 1)).getD k 0 = 1 then 1 else 0
theorem firedS_nil (net : List Nat) (c : Nat) (ks : List Nat) (k : Nat) : ∀ t, firedS net c ks [] k t = fired net c ks k t
  | 0 => rfl
  | t + 1 => by
    rw [firedS, firedS_nil net c ks k t, fired, runS_nil, runS_nil, litS_nil, if_neg (by omega), Nat.add_zero]
theorem firedS_more (net : List Nat) (c : Nat) (ks : List Nat) (sc : List (Nat × Nat)) (k t : Nat) : firedS net c ks sc k t ≤ firedS net c ks sc k (t + 1) := by
  rw [firedS]; omega
theorem firedS_le (net : List Nat) (c : Nat) (ks : List Nat) (sc : List (Nat × Nat)) (k : Nat) : ∀ t, firedS net c ks sc k t ≤ 2 * t
  | 0 => Nat.le_refl _
  | t + 1 => by
    have := firedS_le net c ks sc k t
    rw [firedS]
    split <;> split <;> omega

/-- The script that lights the nodes of a set at first. -/
def firstS (s : Nat) : Nat → List (Nat × Nat)
  | 0 => []
  | k + 1 => if s.testBit k = true then firstS s k ++ [(0, k)] else firstS s k
theorem mem_firstS (s : Nat) (t j : Nat) : ∀ n, (t, j) ∈ firstS s n ↔ t = 0 ∧ j < n ∧ s.testBit j = true
  | 0 => by simp [firstS]
  | n + 1 => by
    have ih := mem_firstS s t j n
    unfold firstS
    by_cases h : s.testBit n = true
    · rw [if_pos h, List.mem_append, ih, List.mem_singleton, Prod.mk.injEq]
      constructor
      · rintro (⟨h1, h2, h3⟩ | ⟨rfl, rfl⟩)
        · exact ⟨h1, by omega, h3⟩
        · exact ⟨rfl, by omega, h⟩
      · rintro ⟨h1, h2, h3⟩
        by_cases e : j = n
        · exact .inr ⟨h1, e⟩
        · exact .inl ⟨h1, by omega, h3⟩
    · rw [if_neg h, ih]
      constructor
      · rintro ⟨h1, h2, h3⟩; exact ⟨h1, by omega, h3⟩
      · rintro ⟨h1, h2, h3⟩
        have : j ≠ n := fun e => h (e ▸ h3)
        exact ⟨h1, by omega, h3⟩
theorem firstS_length (s : Nat) : ∀ n, (firstS s n).length ≤ n
  | 0 => Nat.le_refl _
  | n + 1 => by
    have := firstS_length s n
    unfold firstS
    split
    · rw [List.length_append]; simp; omega
    · omega
theorem firstS_rise (s : Nat) : ∀ n, (firstS s n).Pairwise ahead
  | 0 => List.Pairwise.nil
  | n + 1 => by
    unfold firstS
    split
    · rw [List.pairwise_append]
      refine ⟨firstS_rise s n, List.pairwise_singleton _ _, fun a ha b hb => ?_⟩
      rw [List.mem_singleton] at hb
      subst hb
      obtain ⟨h1, h2, _⟩ := (mem_firstS s a.1 a.2 n).1 ha
      exact .inr ⟨h1, h2⟩
    · exact firstS_rise s n
theorem firstS_ok {s n : Nat} (h1 : 1 ≤ n) (h6 : n ≤ 6) : SOk n (firstS s n) :=
  ⟨h1, h6, by have := firstS_length s n; omega, fun l hl => by have := (mem_firstS s l.1 l.2 n).1 hl; omega, fun l hl => ((mem_firstS s l.1 l.2 n).1 hl).2.1, firstS_rise s n⟩
theorem first_lit (s n : Nat) : litS (rest n) (firstS s n) 0 = lit n s := by
  refine ext_getN (by rw [litS_length, rest_length, lit_length]) fun k hk => ?_
  rw [lit_length] at hk
  rw [litS_get _ _ _ (by rw [rest_length]; exact hk), rest_get, lit_get _ _ _ hk]
  by_cases h : s.testBit k = true
  · rw [if_pos h, if_pos ⟨rfl, (mem_firstS s 0 k n).2 ⟨rfl, hk, h⟩⟩]
  · rw [if_neg h, if_neg (fun h2 => h ((mem_firstS s 0 k n).1 h2.2).2.2)]
theorem first_run (net : List Nat) (c s : Nat) : ∀ t, runS net c (rest net.length) (firstS s net.length) (t + 1) = run net c (lit net.length s) (t + 1)
  | 0 => by
    show step net c (litS (rest net.length) (firstS s net.length) 0) = _
    rw [first_lit]; rfl
  | t + 1 => by
    rw [runS, first_run net c s t]
    have e : litS (run net c (lit net.length s) (t + 1)) (firstS s net.length) (t + 1) = run net c (lit net.length s) (t + 1) := by
      rw [← litS_nil (run net c (lit net.length s) (t + 1)) (t + 1)]
      rw [litS_nil]
      rw [litS_congr (sc' := []) (fun k => by
        rw [mem_firstS]
        simp)]
      exact litS_nil _ _
    rw [e]; rfl
/-- Lights at first are a wave: each node that is come to fires once. -/
theorem first_fired {net : List Nat} (ok : Ok net) {c s : Nat} (h3 : 3 ≤ c) (hs : s < 2 ^ net.length) {k : Nat} (hk : k < net.length) : ∀ t,
    firedS net c (rest net.length) (firstS s net.length) k (t + 1) = if 0 ≤ dist net s 64 k ∧ dist net s 64 k ≤ ((t + 1 : Nat) : Int) then 1 else 0
  | 0 => by
    have hd := dist_zero (net := net) (set := s) (k := k)
    have hr := run_lit ok h3 hs 1 k hk
    have h1 := waveK_one h3 (dist net s 64 k) 1
    have hx := first_run net c s 0
    have h0 : (litS (rest net.length) (firstS s net.length) 0).getD k 0 = if s.testBit k = true then 1 else 0 := by rw [first_lit, lit_get _ _ _ hk]
    show 0 + (if (rest net.length).getD k 0 = 0 ∧ (litS (rest net.length) (firstS s net.length) 0).getD k 0 = 1 then 1 else 0) + (if (runS net c (rest net.length) (firstS s net.length) (0 + 1)).getD k 0 = 1 then 1 else 0) = _
    rw [hx, hr, rest_get, h0]
    by_cases e : s.testBit k = true
    · have e0 := hd.2 e
      rw [if_pos e, if_pos ⟨rfl, rfl⟩, if_neg (fun h => by have := h1.1 h; omega), if_pos (by omega)]
    · have e0 : dist net s 64 k ≠ 0 := fun h => e (hd.1 h)
      rw [if_neg e, if_neg (by omega)]
      by_cases e1 : dist net s 64 k = 1
      · rw [if_pos (h1.2 (by omega)), if_pos (by omega)]
      · rw [if_neg (fun h => by have := h1.1 h; omega), if_neg (by omega)]
  | t + 1 => by
    have ih := first_fired ok h3 hs hk t
    have hr := run_lit ok h3 hs (t + 2) k hk
    have h1 := waveK_one h3 (dist net s 64 k) (t + 2)
    have hx := first_run net c s (t + 1)
    have hl : litS (runS net c (rest net.length) (firstS s net.length) (t + 1)) (firstS s net.length) (t + 1) = runS net c (rest net.length) (firstS s net.length) (t + 1) := by
      rw [litS_congr (sc' := []) (fun k => by
        rw [mem_firstS]
        simp)]
      exact litS_nil _ _
    rw [firedS, ih, hl, if_neg (by omega : ¬ ((runS net c (rest net.length) (firstS s net.length) (t + 1)).getD k 0 = 0 ∧ (runS net c (rest net.length) (firstS s net.length) (t + 1)).getD k 0 = 1)), Nat.add_zero, hx, hr]
    by_cases e : dist net s 64 k = ((t + 2 : Nat) : Int)
    · rw [if_pos (h1.2 e), if_neg (by omega), if_pos (by omega)]
    · rw [if_neg (fun h => e (h1.1 h))]
      by_cases e2 : 0 ≤ dist net s 64 k ∧ dist net s 64 k ≤ ((t + 1 : Nat) : Int)
      · rw [if_pos e2, if_pos (by omega)]
      · rw [if_neg e2, if_neg (by omega)]

/-- The script of pulses. -/
def pulseS (node e : Nat) : Nat → List (Nat × Nat)
  | 0 => []
  | i + 1 => pulseS node e i ++ [(e * i, node)]
theorem pulseS_length (node e : Nat) : ∀ m, (pulseS node e m).length = m
  | 0 => rfl
  | m + 1 => by rw [pulseS, List.length_append, pulseS_length node e m]; rfl
theorem mem_pulseS (node e t j : Nat) : ∀ m, (t, j) ∈ pulseS node e m ↔ j = node ∧ ∃ i, i < m ∧ t = e * i
  | 0 => by simp [pulseS]
  | m + 1 => by
    rw [pulseS, List.mem_append, mem_pulseS node e t j m, List.mem_singleton, Prod.mk.injEq]
    constructor
    · rintro (⟨h1, i, h2, h3⟩ | ⟨h1, h2⟩)
      · exact ⟨h1, i, by omega, h3⟩
      · exact ⟨h2, m, by omega, h1⟩
    · rintro ⟨h1, i, h2, h3⟩
      by_cases e2 : i = m
      · subst e2; exact .inr ⟨h3, h1⟩
      · exact .inl ⟨h1, i, by omega, h3⟩
theorem pulseS_rise {node e : Nat} (he : 1 ≤ e) : ∀ m, (pulseS node e m).Pairwise ahead
  | 0 => List.Pairwise.nil
  | m + 1 => by
    rw [pulseS, List.pairwise_append]
    refine ⟨pulseS_rise he m, List.pairwise_singleton _ _, fun a ha b hb => ?_⟩
    rw [List.mem_singleton] at hb
    subst hb
    obtain ⟨_, i, h2, h3⟩ := (mem_pulseS node e a.1 a.2 m).1 ha
    left
    show a.1 < e * m
    rw [h3]
    exact Nat.mul_lt_mul_of_pos_left h2 (by omega)
theorem pulseS_ok {node e m n : Nat} (he : 1 ≤ e) (h1 : 1 ≤ n) (h6 : n ≤ 6) (hn : node < n) (hm : m ≤ 8) (ht : ∀ i, i < m → e * i < 60) : SOk n (pulseS node e m) :=
  ⟨h1, h6, by rw [pulseS_length]; exact hm, fun l hl => by
    obtain ⟨_, i, h2, h3⟩ := (mem_pulseS node e l.1 l.2 m).1 hl
    rw [h3]; exact ht i h2, fun l hl => by
    have := ((mem_pulseS node e l.1 l.2 m).1 hl).1
    omega, pulseS_rise he m⟩
theorem pulse_at {c node e m t : Nat} (h3 : 3 ≤ c) (he : 1 ≤ e) : (t, node) ∈ pulseS node e m ↔ pk c e m t = 1 := by
  rw [mem_pulseS, pk_one h3]
  constructor
  · rintro ⟨_, i, h1, h2⟩
    rw [h2, Nat.mul_mod_right, Nat.mul_div_cancel_left _ (by omega)]
    exact ⟨rfl, h1⟩
  · rintro ⟨h1, h2⟩
    refine ⟨rfl, t / e, h2, ?_⟩
    have := Nat.div_add_mod t e
    omega
/-- By slow pulses the states are known. -/
theorem pulse_lit {net : List Nat} (ok : Ok net) {c e m node : Nat} (h3 : 3 ≤ c) (he : c ≤ e) (hm : 1 ≤ m) (hn : node < net.length) : ∀ t,
    litS (runS net c (rest net.length) (pulseS node e m) t) (pulseS node e m) t = pst net c e m node t ∧ (pk c e m t = 1 → (runS net c (rest net.length) (pulseS node e m) t).getD node 0 = 0)
  | 0 => by
    refine ⟨?_, fun _ => rest_get _ _⟩
    refine ext_getN (by rw [litS_length, pst_length]; exact rest_length _) fun k hk => ?_
    rw [pst_length] at hk
    show (litS (rest net.length) (pulseS node e m) 0).getD k 0 = _
    rw [litS_get _ _ _ (by rw [rest_length]; exact hk), rest_get, pst_get _ _ _ _ _ _ hk]
    have hz : dist net (2 ^ node) 64 k = 0 ↔ k = node := by
      rw [dist_zero, bit_pow]
      exact ⟨fun h => h.symm, fun h => h.symm⟩
    by_cases h : k = node
    · subst h
      have hp : pk c e m 0 = 1 := (pk_one h3).2 ⟨Nat.zero_mod _, by rw [Nat.zero_div]; omega⟩
      rw [if_pos ⟨rfl, (pulse_at h3 (by omega)).2 hp⟩, hz.2 rfl]
      have := kd_at (c := c) (e := e) (m := m) (t := 0) (d := 0) (Nat.le_refl _)
      show 1 = kd c e m ((0 : Nat) : Int) 0
      rw [this, hp]
    · rw [if_neg (fun h2 => h ((mem_pulseS node e 0 k m).1 h2.2).1)]
      have hd := dist_range (net := net) (2 ^ node) k
      by_cases h0 : dist net (2 ^ node) 64 k = 0
      · exact absurd (hz.1 h0) h
      · rw [kd_early (by omega)]
  | t + 1 => by
    obtain ⟨ih, _⟩ := pulse_lit ok h3 he hm hn t
    have hs : ∀ k, k < net.length → (runS net c (rest net.length) (pulseS node e m) (t + 1)).getD k 0 = if k = node ∧ pk c e m (t + 1) = 1 then 0 else (pst net c e m node (t + 1)).getD k 0 := fun k hk => by
      rw [runS, ih]
      exact pst_step ok h3 he hm hn t hk
    refine ⟨?_, fun h1 => by rw [hs node hn, if_pos ⟨rfl, h1⟩]⟩
    refine ext_getN (by rw [litS_length, pst_length, runS_length, rest_length]) fun k hk => ?_
    rw [pst_length] at hk
    rw [litS_get _ _ _ (by rw [runS_length, rest_length]; exact hk), hs k hk]
    by_cases h : k = node ∧ pk c e m (t + 1) = 1
    · obtain ⟨rfl, hp⟩ := h
      have e1 : (if k = k ∧ pk c e m (t + 1) = 1 then 0 else (pst net c e m k (t + 1)).getD k 0) = 0 := if_pos ⟨rfl, hp⟩
      rw [e1, if_pos ⟨rfl, (pulse_at h3 (by omega)).2 hp⟩, pst_get _ _ _ _ _ _ hk]
      have hz : dist net (2 ^ k) 64 k = 0 := dist_zero.2 ((bit_pow _ _).2 rfl)
      rw [hz]
      have := kd_at (c := c) (e := e) (m := m) (t := t + 1) (d := 0) (Nat.zero_le _)
      show 1 = kd c e m ((0 : Nat) : Int) (t + 1)
      rw [this, Nat.sub_zero, hp]
    · rw [if_neg h]
      rw [if_neg]
      rintro ⟨_, h2⟩
      have h4 := ((mem_pulseS node e (t + 1) k m).1 h2).1
      subst h4
      exact h ⟨rfl, (pulse_at h3 (by omega)).1 h2⟩
theorem pulse_fired {net : List Nat} (ok : Ok net) {c e m node : Nat} (h3 : 3 ≤ c) (he : c ≤ e) (hm : 1 ≤ m) (hn : node < net.length) {k : Nat} (hk : k < net.length) : ∀ T,
    firedS net c (rest net.length) (pulseS node e m) k T = if k = node then sumTo (fun t => if pk c e m t = 1 then 1 else 0) T else sumTo (fun t => if kd c e m (dist net (2 ^ node) 64 k) (t + 1) = 1 then 1 else 0) T
  | 0 => by split <;> rfl
  | T + 1 => by
    obtain ⟨hl, hz⟩ := pulse_lit ok h3 he hm hn T
    have hf := pst_fires ok h3 he hm hn T hk
    rw [firedS, pulse_fired ok h3 he hm hn hk T]
    have hr : runS net c (rest net.length) (pulseS node e m) (T + 1) = step net c (pst net c e m node T) := by rw [runS, hl]
    rw [hr]
    have hg := litS_get (runS net c (rest net.length) (pulseS node e m) T) (pulseS node e m) T (k := k) (by rw [runS_length, rest_length]; exact hk)
    by_cases h : k = node
    · subst h
      rw [if_pos rfl, if_pos rfl, if_neg (fun h2 => (hf.1 h2).1 rfl), Nat.add_zero, sumTo]
      congr 1
      by_cases hp : pk c e m T = 1
      · rw [if_pos hp, if_pos ⟨hz hp, by rw [hg, if_pos ⟨hz hp, (pulse_at h3 (by omega)).2 hp⟩]⟩]
      · rw [if_neg hp, if_neg]
        rintro ⟨h1, h2⟩
        rw [hg, if_neg (fun h4 => hp ((pulse_at h3 (by omega)).1 h4.2))] at h2
        omega
    · rw [if_neg h, if_neg h, sumTo]
      have hno : ¬ ((runS net c (rest net.length) (pulseS node e m) T).getD k 0 = 0 ∧ (litS (runS net c (rest net.length) (pulseS node e m) T) (pulseS node e m) T).getD k 0 = 1) := by
        rintro ⟨h1, h2⟩
        rw [hg, if_neg (fun h4 => h ((mem_pulseS node e T k m).1 h4.2).1)] at h2
        omega
      rw [if_neg hno, Nat.add_zero]
      congr 1
      by_cases hp : kd c e m (dist net (2 ^ node) 64 k) (T + 1) = 1
      · rw [if_pos hp, if_pos (hf.2 ⟨h, hp⟩)]
      · rw [if_neg hp, if_neg (fun h2 => hp (hf.1 h2).2)]
/-- Slow pulses all go out. -/
theorem pulse_all {net : List Nat} (ok : Ok net) {c e m node T : Nat} (h3 : 3 ≤ c) (he : c ≤ e) (hm : 1 ≤ m) (hn : node < net.length) (hT : e * (m - 1) + net.length ≤ T) {k : Nat} (hk : k < net.length) :
    firedS net c (rest net.length) (pulseS node e m) k T = if 0 ≤ dist net (2 ^ node) 64 k then m else 0 := by
  rw [pulse_fired ok h3 he hm hn hk]
  have hs : 2 ^ node < 2 ^ net.length := Nat.pow_lt_pow_right (by omega) hn
  have hz : dist net (2 ^ node) 64 k = 0 ↔ k = node := by
    rw [dist_zero, bit_pow]
    exact ⟨fun h => h.symm, fun h => h.symm⟩
  have hr := dist_range (net := net) (2 ^ node) k
  have hf := dist_few ok hs k
  have hpos := ok.some
  by_cases h : k = node
  · rw [if_pos h, if_pos (by rw [hz.2 h]; exact Int.le_refl _), pulses_all h3 he (by omega)]
  · rw [if_neg h]
    by_cases h0 : 0 ≤ dist net (2 ^ node) 64 k
    · obtain ⟨d, hd⟩ := Int.eq_ofNat_of_zero_le h0
      rw [if_pos h0, hd]
      have hd1 : 1 ≤ d := by
        apply Classical.byContradiction
        intro h1
        exact h (hz.1 (by omega))
      rw [pulses_far hd1, pulses_all h3 he (by omega)]
    · rw [if_neg h0]
      have e : (fun t => if kd c e m (dist net (2 ^ node) 64 k) (t + 1) = 1 then 1 else 0) = fun _ => 0 := by
        funext t
        rw [kd_early (fun h1 => h0 h1.1)]
        rfl
      rw [e]
      exact sum_zero T

/-- The text of a script. -/
def lightT (l : Nat × Nat) : List Nat := digs l.1 ++ 58 :: digs l.2
def textS (sc : List (Nat × Nat)) : List Nat := if sc = [] then [46] else join 44 (sc.map lightT)
theorem lightT_free (l : Nat × Nat) : 44 ∉ lightT l := by
  unfold lightT
  rw [List.mem_append, List.mem_cons]
  rintro (h | h | h)
  · exact digs_free (.inl (by omega)) h
  · omega
  · exact digs_free (.inl (by omega)) h
theorem cut_lightT (l : Nat × Nat) : cut 58 (lightT l) = [digs l.1, digs l.2] := by
  have e : lightT l = join 58 [digs l.1, digs l.2] := rfl
  rw [e]
  refine cut_join 58 _ (by simp) fun p hp => ?_
  simp at hp
  rcases hp with rfl | rfl <;> exact digs_free (.inr (by omega))
theorem cut_textS {sc : List (Nat × Nat)} (h : sc ≠ []) : cut 44 (textS sc) = sc.map lightT := by
  unfold textS
  rw [if_neg h]
  refine cut_join 44 _ (by simpa using h) fun p hp => ?_
  obtain ⟨l, _, rfl⟩ := List.mem_map.1 hp
  exact lightT_free l
theorem lightT_inj {a b : Nat × Nat} (h : lightT a = lightT b) : a = b := by
  have h1 := congrArg (cut 58) h
  rw [cut_lightT, cut_lightT] at h1
  simp at h1
  exact Prod.ext (digs_inj h1.1) (digs_inj h1.2)
theorem textS_dot {sc : List (Nat × Nat)} (h : textS sc = [46]) : sc = [] := by
  apply Classical.byContradiction
  intro hne
  have h1 := cut_textS hne
  rw [h] at h1
  have h2 : cut 44 [46] = [[46]] := by decide
  rw [h2] at h1
  cases sc with
  | nil => exact hne rfl
  | cons l rest =>
    rw [List.map_cons, List.cons.injEq] at h1
    have h3 := congrArg (cut 58) h1.1
    rw [cut_lightT] at h3
    have h4 : cut 58 [46] = [[46]] := by decide
    rw [h4] at h3
    simp at h3
theorem textS_inj {a b : List (Nat × Nat)} (h : textS a = textS b) : a = b := by
  by_cases ha : a = []
  · subst ha
    exact (textS_dot (h.symm.trans (by unfold textS; rw [if_pos rfl]))).symm
  · by_cases hb : b = []
    · subst hb
      exact absurd (textS_dot (h.trans (by unfold textS; rw [if_pos rfl]))) ha
    · have h1 := congrArg (cut 44) h
      rw [cut_textS ha, cut_textS hb] at h1
      have : ∀ (x y : List (Nat × Nat)), x.map lightT = y.map lightT → x = y := by
        intro x
        induction x with
        | nil => intro y e; cases y <;> simp_all
        | cons l x ih =>
          intro y e
          cases y with
          | nil => simp at e
          | cons m y =>
            rw [List.map_cons, List.map_cons, List.cons.injEq] at e
            rw [lightT_inj e.1, ih y e.2]
      exact this a b h1
theorem digs_last (n : Nat) : ∀ x, (digs n).getLast? = some x → x ≠ 44 := fun x h e => by
  subst e
  exact digs_free (n := n) (.inl (by omega)) (List.mem_of_getLast? h)
/-- A text of a script with a comma behind it is none. -/
theorem textS_comma (a b : List (Nat × Nat)) : textS a ++ [44] ≠ textS b := by
  intro h
  have hb : b ≠ [] := fun e => by
    subst e
    have h1 : textS [] = [46] := by unfold textS; rw [if_pos rfl]
    rw [h1] at h
    have h2 := congrArg List.getLast? h
    simp at h2
  have h1 := congrArg (cut 44) h
  rw [cut_textS hb, cut_snoc] at h1
  have h2 : ([] : List Nat) ∈ b.map lightT := by rw [← h1]; simp
  obtain ⟨l, _, e⟩ := List.mem_map.1 h2
  unfold lightT at e
  simp at e

end Nt
end Go.Proofs.YtnajdbnacdnnlaaGreatDoor

namespace Go.Proofs.YtnajdbnacdnnlaaGreatDoor
namespace Nt

/-- Lights as pairs of numbers. -/
def prs (sc : List (Nat × Nat)) : List (Int × Int) := sc.map fun l => ((l.1 : Int), (l.2 : Int))
theorem prs_length (sc : List (Nat × Nat)) : (prs sc).length = sc.length := by simp [prs]
theorem prs_append (a b : List (Nat × Nat)) : prs (a ++ b) = prs a ++ prs b := by simp [prs]
/-- The light at a place, (0, 0) beyond. -/
def at2 (xs : List (Int × Int)) (k : Nat) : Int × Int := xs.getD k (0, 0)
theorem at2_get {xs : List (Int × Int)} {k : Nat} (h : k < xs.length) : at2 xs k = xs[k] := by
  simp [at2, List.getD_eq_getElem?_getD, h]
theorem at2_prs (sc : List (Nat × Nat)) {k : Nat} (h : k < sc.length) : at2 (prs sc) k = (((sc[k]).1 : Int), ((sc[k]).2 : Int)) := by
  simp [at2, prs, List.getD_eq_getElem?_getD, h]
/-- One light is as it should be, behind the one before. -/
def lOk (n : Int) (xs : List (Int × Int)) (k : Nat) : Prop :=
  (0 ≤ (at2 xs k).1 ∧ (at2 xs k).1 ≤ 59 ∧ 0 ≤ (at2 xs k).2 ∧ (at2 xs k).2 < n) ∧ (0 < k → (at2 xs (k - 1)).1 < (at2 xs k).1 ∨ (at2 xs (k - 1)).1 = (at2 xs k).1 ∧ (at2 xs (k - 1)).2 < (at2 xs k).2)
instance (n : Int) (xs : List (Int × Int)) (k : Nat) : Decidable (lOk n xs k) := by unfold lOk; infer_instance
def lTo (n : Int) (xs : List (Int × Int)) (k : Nat) : Prop := ∀ i, i < k → lOk n xs i
theorem lTo_succ {n : Int} {xs : List (Int × Int)} {k : Nat} (h : lTo n xs k) (h1 : lOk n xs k) : lTo n xs (k + 1) := fun i hi => by
  by_cases e : i = k
  · subst e; exact h1
  · exact h i (by omega)
def scB (n : Int) (xs : List (Int × Int)) : Bool := decide (1 ≤ n ∧ n ≤ 6) && (decide (xs.length ≤ 8) && (List.range xs.length).all fun k => decide (lOk n xs k))
theorem scB_iff {n : Int} {xs : List (Int × Int)} : scB n xs = true ↔ (1 ≤ n ∧ n ≤ 6) ∧ xs.length ≤ 8 ∧ lTo n xs xs.length := by
  unfold scB lTo
  rw [Bool.and_eq_true, Bool.and_eq_true, decide_eq_true_eq, decide_eq_true_eq, List.all_eq_true]
  constructor
  · rintro ⟨h1, h2, h3⟩
    exact ⟨h1, h2, fun k hk => by simpa using h3 k (List.mem_range.2 hk)⟩
  · rintro ⟨h1, h2, h3⟩
    exact ⟨h1, h2, fun k hk => by simpa using h3 k (List.mem_range.1 hk)⟩
theorem scB_no {n : Int} {xs : List (Int × Int)} (h : ¬ ((1 ≤ n ∧ n ≤ 6) ∧ xs.length ≤ 8 ∧ lTo n xs xs.length)) : scB n xs = false := by
  cases e : scB n xs
  · rfl
  · exact absurd (scB_iff.1 e) h
theorem scB_no1 {n : Int} {xs : List (Int × Int)} {k : Nat} (hk : k < xs.length) (h : ¬ lOk n xs k) : scB n xs = false := scB_no fun a => h (a.2.2 k hk)
theorem scB_end {n : Int} {xs : List (Int × Int)} (h : lTo n xs xs.length) : scB n xs = (decide (1 ≤ n ∧ n ≤ 6) && decide (xs.length ≤ 8)) := by
  unfold scB
  rw [List.all_eq_true.2 (fun k hk => by simpa using h k (List.mem_range.1 hk)), Bool.and_true]
theorem scB_ok {n : Int} {xs : List (Int × Int)} (h : scB n xs = true) : ∃ (m : Nat) (sc : List (Nat × Nat)), n = (m : Int) ∧ xs = prs sc ∧ SOk m sc := by
  obtain ⟨h1, h2, h3⟩ := scB_iff.1 h
  have hc : ∀ i (hi : i < xs.length), 0 ≤ (xs[i]).1 ∧ (xs[i]).1 ≤ 59 ∧ 0 ≤ (xs[i]).2 ∧ (xs[i]).2 < n := fun i hi => by
    have h4 := (h3 i hi).1
    rw [at2_get hi] at h4
    exact h4
  have hx : prs (xs.map fun l => (l.1.toNat, l.2.toNat)) = xs := by
    unfold prs
    rw [List.map_map]
    refine List.ext_getElem (by simp) fun i hi hj => ?_
    have h4 := hc i hj
    simp only [List.getElem_map, Function.comp]
    exact Prod.ext (by simp only; omega) (by simp only; omega)
  refine ⟨n.toNat, xs.map fun l => (l.1.toNat, l.2.toNat), by omega, hx.symm, by omega, by omega, by rw [List.length_map]; exact h2, ?_, ?_, ?_⟩
  · intro l hl
    rw [List.mem_map] at hl
    obtain ⟨l0, hl0, rfl⟩ := hl
    obtain ⟨i, hi, rfl⟩ := List.mem_iff_getElem.1 hl0
    have h4 := hc i hi
    simp only; omega
  · intro l hl
    rw [List.mem_map] at hl
    obtain ⟨l0, hl0, rfl⟩ := hl
    obtain ⟨i, hi, rfl⟩ := List.mem_iff_getElem.1 hl0
    have h4 := hc i hi
    simp only; omega
  · refine pair_of_next fun i hi => ?_
    rw [List.length_map] at hi
    have h6 := (h3 (i + 1) hi).2 (by omega)
    have h4 := hc (i + 1) hi
    have h7 := hc i (by omega)
    rw [Nat.add_sub_cancel, at2_get hi, at2_get (by omega : i < xs.length)] at h6
    unfold ahead
    simp only [List.getElem_map]
    omega
theorem scB_yes {m : Nat} {sc : List (Nat × Nat)} (h : SOk m sc) : scB (m : Int) (prs sc) = true := by
  have h1 := h.n1
  have h2 := h.n6
  refine scB_iff.2 ⟨by omega, by rw [prs_length]; exact h.few, fun k hk => ?_⟩
  rw [prs_length] at hk
  have ht := h.time _ (List.getElem_mem hk)
  have hn := h.node _ (List.getElem_mem hk)
  unfold lOk
  rw [at2_prs sc hk]
  refine ⟨by simp only; omega, fun h0 => ?_⟩
  have hr := next_of_pair h.rise (k - 1) (by omega)
  rw [at2_prs sc (by omega : k - 1 < sc.length)]
  unfold ahead at hr
  have e : k - 1 + 1 = k := by omega
  simp only [e] at hr
  simp only; omega
/-- What ScriptRun answers. -/
def playB (xs : List Int) (kinds : Int) (ys : List Int) (ls : List (Int × Int)) (steps : Int) : Bool := fireB xs kinds ys && (scB (xs.length : Int) ls && stepsB steps)
def scs (ls : List (Int × Int)) : List (Nat × Nat) := ls.map fun l => (l.1.toNat, l.2.toNat)
theorem scs_prs (sc : List (Nat × Nat)) : scs (prs sc) = sc := by
  unfold scs prs
  rw [List.map_map]
  exact (List.map_congr_left (fun l _ => by simp)).trans (List.map_id sc)
theorem playB_no1 {xs ys : List Int} {kinds steps : Int} {ls : List (Int × Int)} (h : fireB xs kinds ys = false) : playB xs kinds ys ls steps = false := by unfold playB; rw [h]; rfl
theorem playB_no2 {xs ys : List Int} {kinds steps : Int} {ls : List (Int × Int)} (h : scB (xs.length : Int) ls = false) : playB xs kinds ys ls steps = false := by unfold playB; rw [h]; simp
theorem playB_no3 {xs ys : List Int} {kinds steps : Int} {ls : List (Int × Int)} (h : stepsB steps = false) : playB xs kinds ys ls steps = false := by unfold playB; rw [h]; simp
theorem playB_all {xs ys : List Int} {kinds steps : Int} {ls : List (Int × Int)} (h1 : fireB xs kinds ys = true) (h2 : scB (xs.length : Int) ls = true) (h3 : stepsB steps = true) : playB xs kinds ys ls steps = true := by unfold playB; rw [h1, h2, h3]; rfl
theorem playB_ok {xs ys : List Int} {kinds steps : Int} {ls : List (Int × Int)} (h : playB xs kinds ys ls steps = true) :
    ∃ (ns : List Nat) (c : Nat) (ks : List Nat) (sc : List (Nat × Nat)) (t : Nat), xs = nats ns ∧ kinds = (c : Int) ∧ ys = nats ks ∧ ls = prs sc ∧ steps = (t : Int) ∧ Ok ns ∧ St c ks ∧ ks.length = ns.length ∧ SOk ns.length sc ∧ t ≤ 60 := by
  unfold playB at h
  rw [Bool.and_eq_true, Bool.and_eq_true] at h
  obtain ⟨h1, h2, h3⟩ := h
  obtain ⟨ns, c, ks, rfl, rfl, rfl, ok, st, hl⟩ := fireB_ok h1
  obtain ⟨m, sc, e, rfl, so⟩ := scB_ok h2
  obtain ⟨t, rfl, ht⟩ := stepsB_ok h3
  rw [nats_length] at e
  have e2 : ns.length = m := by omega
  subst e2
  exact ⟨ns, c, ks, sc, t, rfl, rfl, rfl, rfl, rfl, ok, st, hl, so, ht⟩
theorem playB_yes {ns ks : List Nat} {c t : Nat} {sc : List (Nat × Nat)} (ok : Ok ns) (st : St c ks) (hl : ks.length = ns.length) (so : SOk ns.length sc) (ht : t ≤ 60) : playB (nats ns) (c : Int) (nats ks) (prs sc) (t : Int) = true :=
  playB_all (fireB_yes ok st hl) (by rw [nats_length]; exact scB_yes so) (stepsB_yes ht)
def srunOf (xs : List Int) (kinds : Int) (ys : List Int) (ls : List (Int × Int)) (steps : Int) : List Int :=
  if playB xs kinds ys ls steps = true then nats (runS (xs.map Int.toNat) kinds.toNat (ys.map Int.toNat) (scs ls) steps.toNat) else []
theorem srunOf_ok {ns ks : List Nat} {c t : Nat} {sc : List (Nat × Nat)} (ok : Ok ns) (st : St c ks) (hl : ks.length = ns.length) (so : SOk ns.length sc) (ht : t ≤ 60) : srunOf (nats ns) (c : Int) (nats ks) (prs sc) (t : Int) = nats (runS ns c ks sc t) := by
  unfold srunOf
  rw [if_pos (playB_yes ok st hl so ht), nats_toNat, nats_toNat, scs_prs, Int.toNat_natCast, Int.toNat_natCast]
theorem srunOf_no {xs ys : List Int} {kinds steps : Int} {ls : List (Int × Int)} (h : playB xs kinds ys ls steps = false) : srunOf xs kinds ys ls steps = [] := by unfold srunOf; rw [if_neg (by simp [h])]
/-- What ScriptFired answers. -/
def firedSL (net : List Nat) (c : Nat) (ks : List Nat) (sc : List (Nat × Nat)) (t : Nat) : List Nat := (List.range net.length).map fun k => firedS net c ks sc k t
theorem firedSL_length (net : List Nat) (c : Nat) (ks : List Nat) (sc : List (Nat × Nat)) (t : Nat) : (firedSL net c ks sc t).length = net.length := by simp [firedSL]
theorem firedSL_get (net : List Nat) (c : Nat) (ks : List Nat) (sc : List (Nat × Nat)) (t : Nat) {k : Nat} (h : k < net.length) : (firedSL net c ks sc t).getD k 0 = firedS net c ks sc k t := by
  simp [firedSL, List.getD_eq_getElem?_getD, h]
def sfiredOf (xs : List Int) (kinds : Int) (ys : List Int) (ls : List (Int × Int)) (steps : Int) : List Int :=
  if playB xs kinds ys ls steps = true then nats (firedSL (xs.map Int.toNat) kinds.toNat (ys.map Int.toNat) (scs ls) steps.toNat) else []
theorem sfiredOf_ok {ns ks : List Nat} {c t : Nat} {sc : List (Nat × Nat)} (ok : Ok ns) (st : St c ks) (hl : ks.length = ns.length) (so : SOk ns.length sc) (ht : t ≤ 60) : sfiredOf (nats ns) (c : Int) (nats ks) (prs sc) (t : Int) = nats (firedSL ns c ks sc t) := by
  unfold sfiredOf
  rw [if_pos (playB_yes ok st hl so ht), nats_toNat, nats_toNat, scs_prs, Int.toNat_natCast, Int.toNat_natCast]
theorem sfiredOf_no {xs ys : List Int} {kinds steps : Int} {ls : List (Int × Int)} (h : playB xs kinds ys ls steps = false) : sfiredOf xs kinds ys ls steps = [] := by unfold sfiredOf; rw [if_neg (by simp [h])]
/-- What PulseScript answers. -/
def pulB (node every many : Int) : Bool := decide (0 ≤ node ∧ node ≤ 5) && (decide (1 ≤ every ∧ every ≤ 60) && (decide (0 ≤ many ∧ many ≤ 8) && !(decide (0 < many) && decide (60 ≤ every * (many - 1)))))
def pulOf (node every many : Int) : List (Int × Int) := if pulB node every many = true then prs (pulseS node.toNat every.toNat many.toNat) else []
theorem pulB_ok {node every many : Int} (h : pulB node every many = true) : ∃ (a e m : Nat), node = (a : Int) ∧ every = (e : Int) ∧ many = (m : Int) ∧ a ≤ 5 ∧ 1 ≤ e ∧ e ≤ 60 ∧ m ≤ 8 ∧ (∀ i, i < m → e * i < 60) := by
  unfold pulB at h
  rw [Bool.and_eq_true, Bool.and_eq_true, Bool.and_eq_true, decide_eq_true_eq, decide_eq_true_eq, decide_eq_true_eq, Bool.not_eq_true', Bool.and_eq_false_iff, decide_eq_false_iff_not, decide_eq_false_iff_not] at h
  obtain ⟨h1, h2, h3, h4⟩ := h
  refine ⟨node.toNat, every.toNat, many.toNat, by omega, by omega, by omega, by omega, by omega, by omega, by omega, fun i hi => ?_⟩
  have h5 : ¬ 60 ≤ every * (many - 1) := by
    rcases h4 with h4 | h4
    · omega
    · exact h4
  obtain ⟨e, rfl⟩ := Int.eq_ofNat_of_zero_le (show 0 ≤ every by omega)
  obtain ⟨m, rfl⟩ := Int.eq_ofNat_of_zero_le (show 0 ≤ many by omega)
  rw [Int.toNat_natCast] at *
  have h6 : e * i ≤ e * (m - 1) := Nat.mul_le_mul_left e (by omega)
  have h7 : ((e * (m - 1) : Nat) : Int) = (e : Int) * ((m : Int) - 1) := by
    rw [Int.natCast_mul]
    congr 1
    omega
  omega
theorem pulOf_no {node every many : Int} (h : pulB node every many = false) : pulOf node every many = [] := by unfold pulOf; rw [if_neg (by simp [h])]
theorem pulOf_ok {a e m : Nat} (h : pulB (a : Int) (e : Int) (m : Int) = true) : pulOf (a : Int) (e : Int) (m : Int) = prs (pulseS a e m) := by
  unfold pulOf; rw [if_pos h, Int.toNat_natCast, Int.toNat_natCast, Int.toNat_natCast]
end Nt
end Go.Proofs.YtnajdbnacdnnlaaGreatDoor

namespace Go.Proofs.YtnajdbnacdnnlaaGreatDoor
namespace Nt

/-- How often each node has fired, with the lights of a time. -/
def litF (F ks : List Nat) (sc : List (Nat × Nat)) (t : Nat) : List Nat := (List.range ks.length).map fun k => F.getD k 0 + if ks.getD k 0 = 0 ∧ (litS ks sc t).getD k 0 = 1 then 1 else 0
theorem litF_length (F ks : List Nat) (sc : List (Nat × Nat)) (t : Nat) : (litF F ks sc t).length = ks.length := by simp [litF]
theorem litF_get (F ks : List Nat) (sc : List (Nat × Nat)) (t : Nat) {k : Nat} (h : k < ks.length) : (litF F ks sc t).getD k 0 = F.getD k 0 + if ks.getD k 0 = 0 ∧ (litS ks sc t).getD k 0 = 1 then 1 else 0 := by
  simp [litF, List.getD_eq_getElem?_getD, h]
theorem litF_same {F ks : List Nat} {sc sc' : List (Nat × Nat)} {t : Nat} (h : litS ks sc t = litS ks sc' t) : litF F ks sc t = litF F ks sc' t := by
  unfold litF; rw [h]
theorem litF_nil {F ks : List Nat} {sc : List (Nat × Nat)} {t : Nat} (hF : F.length = ks.length) (h : litS ks sc t = ks) : litF F ks sc t = F := by
  refine ext_getN (by rw [litF_length, hF]) fun k hk => ?_
  rw [litF_get _ _ _ _ (by omega), h, if_neg (by omega), Nat.add_zero]
theorem litF_hit {F ks : List Nat} {sc : List (Nat × Nat)} {t i : Nat} (hi : i < sc.length) (ht : (sc[i]).1 = t) (hn : (sc[i]).2 < ks.length) (h0 : (litS ks (sc.take i) t).getD (sc[i]).2 0 = 0) :
    litF F ks (sc.take (i + 1)) t = (litF F ks (sc.take i) t).set (sc[i]).2 ((litF F ks (sc.take i) t).getD (sc[i]).2 0 + 1) := by
  have hs := litS_hit hi ht h0
  refine ext_getN (by rw [List.length_set, litF_length, litF_length]) fun k hk => ?_
  rw [List.length_set, litF_length] at hk
  rw [litF_get _ _ _ _ hk, ← hs]
  have hk0 : ks.getD (sc[i]).2 0 = 0 := by
    rw [litS_get _ _ _ hn] at h0
    split at h0 <;> omega
  by_cases e : (sc[i]).2 = k
  · subst e
    have e1 : ((litS ks (sc.take i) t).set (sc[i]).2 1).getD (sc[i]).2 0 = 1 := by
      simp [List.getD_eq_getElem?_getD, litS_length, hn]
    have e2 : ∀ x, ((litF F ks (sc.take i) t).set (sc[i]).2 x).getD (sc[i]).2 0 = x := fun x => by
      simp [List.getD_eq_getElem?_getD, litF_length, hn]
    rw [e1, e2, litF_get _ _ _ _ hn, h0, if_pos ⟨hk0, rfl⟩, if_neg (by omega)]
  · have e1 : ∀ (l : List Nat) x, (l.set (sc[i]).2 x).getD k 0 = l.getD k 0 := fun l x => by
      simp [List.getD_eq_getElem?_getD, List.getElem?_set_ne e]
    rw [e1, e1, litF_get _ _ _ _ hk]

/-- The lights ahead of a place have been taken: those before a time. -/
def dueAt (sc : List (Nat × Nat)) (t j : Nat) : Prop := j ≤ sc.length ∧ (∀ i (h : i < sc.length), i < j → (sc[i]).1 < t) ∧ ∀ i (h : i < sc.length), j ≤ i → t ≤ (sc[i]).1
/-- .. and perhaps some of that time. -/
def dueIn (sc : List (Nat × Nat)) (t j : Nat) : Prop := j ≤ sc.length ∧ (∀ i (h : i < sc.length), i < j → (sc[i]).1 ≤ t) ∧ ∀ i (h : i < sc.length), j ≤ i → t ≤ (sc[i]).1
theorem dueAt_zero (sc : List (Nat × Nat)) : dueAt sc 0 0 := ⟨Nat.zero_le _, fun _ _ h => absurd h (by omega), fun _ _ _ => Nat.zero_le _⟩
theorem dueIn_of {sc : List (Nat × Nat)} {t j : Nat} (h : dueAt sc t j) : dueIn sc t j := ⟨h.1, fun i hi hj => Nat.le_of_lt (h.2.1 i hi hj), h.2.2⟩
theorem dueIn_succ {sc : List (Nat × Nat)} {t j : Nat} (h : dueIn sc t j) (hj : j < sc.length) (e : (sc[j]).1 = t) : dueIn sc t (j + 1) :=
  ⟨by omega, fun i hi hij => by
    by_cases e2 : i = j
    · subst e2; omega
    · exact h.2.1 i hi (by omega), fun i hi hij => h.2.2 i hi (by omega)⟩
theorem later_of {n : Nat} {sc : List (Nat × Nat)} (so : SOk n sc) {i j : Nat} (hi : i < sc.length) (hj : j ≤ i) : (sc[j]'(by omega)).1 ≤ (sc[i]).1 := by
  by_cases e : j = i
  · subst e; exact Nat.le_refl _
  · have h := List.pairwise_iff_getElem.1 so.rise j i (by omega) hi (by omega)
    unfold ahead at h
    omega
theorem dueIn_stop {n : Nat} {sc : List (Nat × Nat)} (so : SOk n sc) {t j : Nat} (h : dueIn sc t j) (hs : ∀ (hj : j < sc.length), (sc[j]).1 ≠ t) : dueAt sc (t + 1) j :=
  ⟨h.1, fun i hi hij => by have := h.2.1 i hi hij; omega, fun i hi hij => by
    have hj : j < sc.length := by omega
    have h1 := later_of so hi hij
    have h2 := h.2.2 j hj (Nat.le_refl _)
    have h3 := hs hj
    omega⟩
theorem litS_start {ks : List Nat} {sc : List (Nat × Nat)} {t j : Nat} (h : dueAt sc t j) : litS ks (sc.take j) t = ks := by
  rw [litS_congr (sc' := []) fun k => ?_, litS_nil]
  constructor
  · intro hm
    obtain ⟨i, hi, e⟩ := List.mem_iff_getElem.1 hm
    rw [List.length_take] at hi
    rw [List.getElem_take] at e
    have := h.2.1 i (by omega) (by omega)
    rw [e] at this
    exact absurd this (by simp)
  · intro hm; simp at hm
theorem litS_stop {n : Nat} {ks : List Nat} {sc : List (Nat × Nat)} (so : SOk n sc) {t j : Nat} (h : dueIn sc t j) (hs : ∀ (hj : j < sc.length), (sc[j]).1 ≠ t) : litS ks (sc.take j) t = litS ks sc t := by
  have hd := dueIn_stop so h hs
  refine litS_congr fun k => ⟨fun hm => List.mem_of_mem_take hm, fun hm => ?_⟩
  obtain ⟨i, hi, e⟩ := List.mem_iff_getElem.1 hm
  by_cases hij : i < j
  · rw [List.mem_iff_getElem]
    exact ⟨i, by rw [List.length_take]; omega, by rw [List.getElem_take]; exact e⟩
  · have := hd.2.2 i hi (by omega)
    rw [e] at this
    simp at this
    omega
theorem firedSL_zero (net : List Nat) (c : Nat) (ks : List Nat) (sc : List (Nat × Nat)) : firedSL net c ks sc 0 = List.replicate net.length 0 := by
  refine ext_getN (by simp [firedSL_length]) fun k hk => ?_
  rw [List.length_replicate] at hk
  rw [firedSL_get _ _ _ _ _ hk]
  simp [firedS, List.getD_eq_getElem?_getD, hk]
theorem firedSL_succ {net : List Nat} (c : Nat) {ks : List Nat} (hl : ks.length = net.length) (sc : List (Nat × Nat)) (t : Nat) :
    firedSL net c ks sc (t + 1) = counted (litF (firedSL net c ks sc t) (runS net c ks sc t) sc t) (runS net c ks sc (t + 1)) := by
  have h1 := runS_length net c ks sc t
  refine ext_getN (by simp [firedSL_length, counted, litF_length, h1, hl]) fun k hk => ?_
  have hk' : k < net.length := by simpa [counted, litF_length, h1, hl] using hk
  rw [firedSL_get _ _ _ _ _ hk', firedS]
  have e : (counted (litF (firedSL net c ks sc t) (runS net c ks sc t) sc t) (runS net c ks sc (t + 1))).getD k 0 = (litF (firedSL net c ks sc t) (runS net c ks sc t) sc t).getD k 0 + if (runS net c ks sc (t + 1)).getD k 0 = 1 then 1 else 0 := by
    simp [counted, List.getD_eq_getElem?_getD, litF_length, h1, hl, hk']
  rw [e, litF_get _ _ _ _ (by omega), firedSL_get _ _ _ _ _ hk']
theorem firedS_le2 (net : List Nat) (c : Nat) (ks : List Nat) (sc : List (Nat × Nat)) (t : Nat) {k : Nat} (hk : k < net.length) : (firedSL net c ks sc t).getD k 0 ≤ 2 * t := by
  rw [firedSL_get _ _ _ _ _ hk]
  exact firedS_le net c ks sc k t
end Nt
end Go.Proofs.YtnajdbnacdnnlaaGreatDoor

namespace Go.Proofs.YtnajdbnacdnnlaaGreatDoor
namespace Nt

theorem textS_ne (sc : List (Nat × Nat)) : textS sc ≠ [] := by
  by_cases h : sc = []
  · subst h
    unfold textS
    rw [if_pos rfl]
    simp
  · intro e
    have h1 := cut_textS h
    rw [e] at h1
    have h2 : cut 44 [] = [[]] := by decide
    rw [h2] at h1
    cases sc with
    | nil => exact h rfl
    | cons l r =>
      rw [List.map_cons, List.cons.injEq] at h1
      unfold lightT at h1
      simp at h1
/-- What ScriptText answers. -/
def textOf (n : Int) (xs : List (Int × Int)) : List Nat := if scB n xs = true then textS (scs xs) else []
theorem textOf_ok {m : Nat} {sc : List (Nat × Nat)} (h : SOk m sc) : textOf (m : Int) (prs sc) = textS sc := by
  unfold textOf
  rw [if_pos (scB_yes h), scs_prs]
theorem textOf_no {n : Int} {xs : List (Int × Int)} (h : scB n xs = false) : textOf n xs = [] := by unfold textOf; rw [if_neg (by simp [h])]
theorem textOf_ne {n : Int} {xs : List (Int × Int)} (h : scB n xs = true) : textOf n xs ≠ [] := by
  unfold textOf
  rw [if_pos h]
  exact textS_ne _
theorem textOf_some {n : Int} {xs : List (Int × Int)} (h : textOf n xs ≠ []) : scB n xs = true := by
  cases e : scB n xs
  · exact absurd (textOf_no e) h
  · rfl
theorem digs60 {n : Nat} (h : n < 100) : (digs n).length ≤ 2 := digs_length 1 (by omega)
theorem join_length (sep : Nat) : ∀ (ps : List (List Nat)) (b : Nat), (∀ p ∈ ps, p.length ≤ b) → (join sep ps).length ≤ (b + 1) * ps.length
  | [], _, _ => by simp [join]
  | [p], b, h => by
    have := h p (by simp)
    show p.length ≤ (b + 1) * 1
    omega
  | p :: q :: r, b, h => by
    have h1 := h p (by simp)
    have h2 := join_length sep (q :: r) b (fun x hx => h x (by simp at hx ⊢; exact .inr hx))
    show (p ++ sep :: join sep (q :: r)).length ≤ (b + 1) * (q :: r).length.succ
    rw [List.length_append, List.length_cons, Nat.mul_succ]
    omega
theorem lightT_length {m : Nat} {sc : List (Nat × Nat)} (h : SOk m sc) {l : Nat × Nat} (hl : l ∈ sc) : (lightT l).length ≤ 5 := by
  have h1 := digs60 (n := l.1) (by have := h.time l hl; omega)
  have h2 := digs60 (n := l.2) (by have := h.node l hl; have := h.n6; omega)
  unfold lightT
  rw [List.length_append, List.length_cons]
  omega
theorem textS_length {m : Nat} {sc : List (Nat × Nat)} (h : SOk m sc) : (textS sc).length ≤ 60 := by
  unfold textS
  split
  · simp
  · have h1 := join_length 44 (sc.map lightT) 5 (fun p hp => by
      obtain ⟨l, hl, rfl⟩ := List.mem_map.1 hp
      exact lightT_length h hl)
    rw [List.length_map] at h1
    have := h.few
    omega
theorem textOf_length (n : Int) (xs : List (Int × Int)) : (textOf n xs).length ≤ 60 := by
  cases e : scB n xs
  · rw [textOf_no e]; simp
  · obtain ⟨m, sc, rfl, rfl, so⟩ := scB_ok e
    rw [textOf_ok so]
    exact textS_length so

/-- A light that a part of a text says. -/
def light2 (p : List Nat) : Int × Int := (dval ((cut 58 p).getD 0 []), dval ((cut 58 p).getD 1 []))
def lightsOf (t : List Nat) : List (Int × Int) := if t = [46] then [] else (cut 44 t).map light2
theorem light2_lightT {m : Nat} {sc : List (Nat × Nat)} (h : SOk m sc) {l : Nat × Nat} (hl : l ∈ sc) : light2 (lightT l) = ((l.1 : Int), (l.2 : Int)) := by
  unfold light2
  rw [cut_lightT]
  show (dval (digs l.1), dval (digs l.2)) = _
  rw [dval_digs (by have := h.time l hl; omega), dval_digs (by have := h.node l hl; have := h.n6; omega)]
theorem lightsOf_textS {m : Nat} {sc : List (Nat × Nat)} (h : SOk m sc) : lightsOf (textS sc) = prs sc := by
  unfold lightsOf
  by_cases e : sc = []
  · subst e
    rw [if_pos (by unfold textS; rw [if_pos rfl])]; rfl
  · rw [if_neg (fun e2 => e (textS_dot e2)), cut_textS e, List.map_map]
    unfold prs
    exact List.map_congr_left fun l hl => light2_lightT h hl
/-- What ReadScript answers. -/
def readB (n : Int) (t : List Nat) : Bool := decide (t ≠ []) && decide (textOf n (lightsOf t) = t)
def readOf (n : Int) (t : List Nat) : List (Int × Int) := if readB n t = true then lightsOf t else []
theorem readB_yes {m : Nat} {sc : List (Nat × Nat)} (h : SOk m sc) : readB (m : Int) (textS sc) = true ∧ readOf (m : Int) (textS sc) = prs sc := by
  have h1 : readB (m : Int) (textS sc) = true := by
    unfold readB
    rw [lightsOf_textS h, textOf_ok h, decide_eq_true (textS_ne sc), decide_eq_true rfl]; rfl
  refine ⟨h1, ?_⟩
  unfold readOf
  rw [if_pos h1, lightsOf_textS h]
theorem readB_ok {n : Int} {t : List Nat} (h : readB n t = true) : ∃ (m : Nat) (sc : List (Nat × Nat)), n = (m : Int) ∧ SOk m sc ∧ t = textS sc ∧ lightsOf t = prs sc ∧ readOf n t = prs sc := by
  have h0 := h
  unfold readB at h
  rw [Bool.and_eq_true, decide_eq_true_eq, decide_eq_true_eq] at h
  obtain ⟨h1, h2⟩ := h
  have hb : scB n (lightsOf t) = true := textOf_some (by rw [h2]; exact h1)
  obtain ⟨m, sc, rfl, e, so⟩ := scB_ok hb
  have ht : t = textS sc := by rw [← h2, e, textOf_ok so]
  exact ⟨m, sc, rfl, so, ht, e, by rw [ht]; exact (readB_yes so).2⟩
/-- Lights whose text a text is are what is read. -/
theorem read_of {n : Int} {xs : List (Int × Int)} {t : List Nat} (h : textOf n xs = t) (hne : t ≠ []) : readB n t = true ∧ readOf n t = xs ∧ scB n xs = true := by
  have hb : scB n xs = true := textOf_some (by rw [h]; exact hne)
  obtain ⟨m, sc, rfl, rfl, so⟩ := scB_ok hb
  rw [textOf_ok so] at h
  subst h
  exact ⟨(readB_yes so).1, (readB_yes so).2, hb⟩
theorem readOf_no {n : Int} {t : List Nat} (h : readB n t = false) : readOf n t = [] := by unfold readOf; rw [if_neg (by simp [h])]
/-- Where a text is read, its parts have a sign within. -/
theorem readB_parts {n : Int} {t : List Nat} (h : readB n t = true) (hd : t ≠ [46]) : ∀ p ∈ cut 44 t, ∃ a b : Nat, a < 60 ∧ b < 6 ∧ p = digs a ++ 58 :: digs b ∧ light2 p = ((a : Int), (b : Int)) := by
  obtain ⟨m, sc, rfl, so, rfl, _, _⟩ := readB_ok h
  have hsc : sc ≠ [] := fun e => by
    subst e
    exact hd (by unfold textS; rw [if_pos rfl])
  intro p hp
  rw [cut_textS hsc] at hp
  obtain ⟨l, hl, rfl⟩ := List.mem_map.1 hp
  exact ⟨l.1, l.2, by have := so.time l hl; omega, by have := so.node l hl; have := so.n6; omega, rfl, light2_lightT so hl⟩
theorem readB_part2 {n : Int} {t p : List Nat} (hp : p ∈ cut 44 t) (hd : t ≠ [46]) (h2 : (cut 58 p).length ≠ 2) : readB n t = false := by
  cases e : readB n t
  · rfl
  · obtain ⟨a, b, _, _, rfl, _⟩ := readB_parts e hd p hp
    exact absurd (by rw [show digs a ++ 58 :: digs b = lightT (a, b) from rfl, cut_lightT]; rfl) h2
theorem readB_not {n : Int} {t p : List Nat} (hp : p ∈ cut 44 t) (hd : t ≠ [46]) (h2 : ∀ a b : Nat, a < 60 → b < 6 → p ≠ digs a ++ 58 :: digs b) : readB n t = false := by
  cases e : readB n t
  · rfl
  · obtain ⟨a, b, ha, hb, hp2, _⟩ := readB_parts e hd p hp
    exact absurd hp2 (h2 a b ha hb)
theorem readB_nil (n : Int) : readB n [] = false := by unfold readB; simp
theorem readB_iff {n : Int} {t : List Nat} (h : t ≠ []) : readB n t = decide (textOf n (lightsOf t) = t) := by
  unfold readB
  rw [decide_eq_true h, Bool.true_and]
/-- Read with a comma behind it: none. -/
theorem readB_comma {n : Int} {t : List Nat} (h : readB n t = true) (n' : Int) : readB n' (t ++ [44]) = false := by
  cases e : readB n' (t ++ [44])
  · rfl
  · obtain ⟨_, sc, _, _, rfl, _, _⟩ := readB_ok h
    obtain ⟨_, sc', _, _, h2, _, _⟩ := readB_ok e
    exact absurd h2 (textS_comma sc sc')
theorem cut_length (sep : Nat) (s : List Nat) : (cut sep s).length ≤ s.length + 1 := by
  have h : ∀ (s seen : List Nat), (cutFrom sep seen s).length ≤ s.length + 1 := by
    intro s
    induction s with
    | nil => intro seen; simp [cutFrom]
    | cons x r ih =>
      intro seen
      unfold cutFrom
      split
      · rw [List.length_cons, List.length_cons]; have := ih []; omega
      · rw [List.length_cons]; have := ih (seen ++ [x]); omega
  exact h s []
end Nt
end Go.Proofs.YtnajdbnacdnnlaaGreatDoor
