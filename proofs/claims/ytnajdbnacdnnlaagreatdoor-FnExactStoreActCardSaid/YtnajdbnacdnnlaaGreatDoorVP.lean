/-
  Plain mathematics of waves: from lit nodes each node fires once, as late as it is far.
  Plain mathematics: what the functions of waves answer, whatever comes in.
  Plain mathematics: rows overwritten place by place, arrivals up to a step.
  Plain mathematics: two waves arrive with the first one; one step out it is one step sooner.
-/
import Derived.Test.YtnajdbnacdnnlaaGreatDoorPA
namespace Go.Proofs.YtnajdbnacdnnlaaGreatDoor
namespace Nt

/-- The kind, at a step, of a node that is so far. -/
def waveK (c : Nat) (d : Int) (t : Nat) : Nat := if 0 ≤ d ∧ d ≤ (t : Int) ∧ (t : Int) - d + 1 < c then ((t : Int) - d + 1).toNat else 0

theorem waveK_one {c : Nat} (h : 3 ≤ c) (d : Int) (t : Nat) : waveK c d t = 1 ↔ d = (t : Int) := by
  unfold waveK
  split <;> omega

theorem run_lit {net : List Nat} (ok : Ok net) {c set : Nat} (h3 : 3 ≤ c) (hs : set < 2 ^ net.length) : ∀ t k, k < net.length →
    (run net c (lit net.length set) t).getD k 0 = waveK c (dist net set 64 k) t
  | 0, k, hk => by
    show (lit net.length set).getD k 0 = _
    rw [lit_get _ _ _ hk]
    have hz := dist_zero (net := net) (set := set) (k := k)
    unfold waveK
    by_cases hb : set.testBit k = true
    · rw [if_pos hb, hz.2 hb, if_pos (by omega)]; rfl
    · rw [if_neg hb, if_neg]
      intro h0
      exact hb (hz.1 (by omega))
  | t + 1, k, hk => by
    have ih := run_lit ok h3 hs t
    have hrl : (run net c (lit net.length set) t).length = net.length := by rw [run_length, lit_length]
    rw [run, step_get _ _ _ (by rw [hrl]; exact hk), ih k hk]
    have hlb : litB net (run net c (lit net.length set) t) k = true ↔ ∃ j, j < net.length ∧ (net.getD k 0).testBit j = true ∧ dist net set 64 j = (t : Int) := by
      rw [litB_iff, hrl]
      constructor
      · rintro ⟨j, hj, hb, hf⟩
        rw [ih j hj, waveK_one h3] at hf
        exact ⟨j, hj, hb, hf⟩
      · rintro ⟨j, hj, hb, hf⟩
        exact ⟨j, hj, hb, by rw [ih j hj, waveK_one h3]; exact hf⟩
    have hnear : ∀ j, j < net.length → (net.getD k 0).testBit j = true → dist net set 64 j = (t : Int) → 0 ≤ dist net set 64 k ∧ dist net set 64 k ≤ (t : Int) + 1 := fun j hj hb hd =>
      dist_near ok hs hj (by rw [ok.both j k hj hk]; exact hb) hd
    have hback : ∀ j, j < net.length → (net.getD k 0).testBit j = true → dist net set 64 j = (t : Int) → ∀ e : Nat, dist net set 64 k = (e : Int) → (t : Int) ≤ (e : Int) + 1 := fun j hj hb hd e he => by
      have := (dist_near ok hs hk hb he).2
      omega
    generalize litB net (run net c (lit net.length set) t) k = b at *
    by_cases hx : 0 ≤ dist net set 64 k ∧ dist net set 64 k ≤ (t : Int) ∧ (t : Int) - dist net set 64 k + 1 < c
    · -- it has fired lately
      unfold waveK
      rw [if_pos hx]
      generalize dist net set 64 k = d at *
      unfold fireK
      rw [if_pos (by omega), succ_mod_cases (by omega)]
      by_cases e : ((t : Int) - d + 1).toNat + 1 = c
      · rw [if_pos e, if_neg (by omega)]
      · rw [if_neg e, if_pos (by omega)]; omega
    · have hw0 : waveK c (dist net set 64 k) t = 0 := by unfold waveK; rw [if_neg hx]
      rw [hw0]
      unfold fireK
      rw [if_neg (by omega)]
      by_cases hd1 : dist net set 64 k = ((t + 1 : Nat) : Int)
      · obtain ⟨j, hj, hb, hd⟩ := dist_back ok hk hd1
        have hbt : b = true := hlb.2 ⟨j, hj, hb, hd⟩
        rw [hbt, (waveK_one h3 _ _).2 hd1]; rfl
      · have hbf : b = false := by
          cases eb : b
          · rfl
          · obtain ⟨j, hj, hb, hd⟩ := hlb.1 eb
            obtain ⟨h0, h1⟩ := hnear j hj hb hd
            obtain ⟨e, he⟩ := Int.eq_ofNat_of_zero_le h0
            have h2 := hback j hj hb hd e he
            exfalso
            apply hx
            omega
        have hw1 : waveK c (dist net set 64 k) (t + 1) = 0 := by
          unfold waveK
          rw [if_neg]
          intro h0
          apply hx
          omega
        rw [hbf, hw1]
        rfl

theorem fired_lit {net : List Nat} (ok : Ok net) {c set : Nat} (h3 : 3 ≤ c) (hs : set < 2 ^ net.length) {k : Nat} (hk : k < net.length) : ∀ t,
    fired net c (lit net.length set) k t = if 0 < dist net set 64 k ∧ dist net set 64 k ≤ (t : Int) then 1 else 0
  | 0 => by
    rw [fired, if_neg]
    omega
  | t + 1 => by
    rw [fired, fired_lit ok h3 hs hk t, run_lit ok h3 hs (t + 1) k hk]
    have h1 := waveK_one h3 (dist net set 64 k) (t + 1)
    generalize dist net set 64 k = d at *
    by_cases e : waveK c d (t + 1) = 1
    · have e2 := h1.1 e
      rw [if_pos e, if_neg (by omega), if_pos (by omega)]
    · have e2 : ¬ d = ((t + 1 : Nat) : Int) := fun h => e (h1.2 h)
      rw [if_neg e, Nat.add_zero]
      by_cases e3 : 0 < d ∧ d ≤ (t : Int)
      · rw [if_pos e3, if_pos (by omega)]
      · rw [if_neg e3, if_neg (by omega)]

/-- The greatest distance from a set. -/
def most (net : List Nat) (set : Nat) : Int := maxTo (far net set) net.length
theorem most_ge {net : List Nat} {set j : Nat} (hj : j < net.length) : dist net set 64 j ≤ most net set := by
  have := maxTo_ge (far net set) net.length j hj
  rwa [far_get _ _ hj] at this

/-- All are at rest just behind the last wave. -/
theorem lit_rest {net : List Nat} (ok : Ok net) {c set : Nat} (h3 : 3 ≤ c) (hs : set < 2 ^ net.length) {t : Nat} (ht : most net set + c - 1 ≤ (t : Int)) : run net c (lit net.length set) t = rest net.length := by
  have hl : (run net c (lit net.length set) t).length = net.length := by rw [run_length, lit_length]
  have e := eq_rest (ks := run net c (lit net.length set) t) (fun k hk => by
    rw [hl] at hk
    rw [run_lit ok h3 hs t k hk]
    have := most_ge (net := net) (set := set) hk
    unfold waveK
    rw [if_neg (by omega)])
  rwa [hl] at e
theorem lit_not_rest {net : List Nat} (ok : Ok net) {c set : Nat} (h3 : 3 ≤ c) (hs : set < 2 ^ net.length) (h0 : set ≠ 0) {t : Nat} (e : run net c (lit net.length set) t = rest net.length) : most net set + c - 1 ≤ (t : Int) := by
  have hp := ok.some
  -- a node that is farthest
  have hex : ∃ k, k < net.length ∧ dist net set 64 k = most net set ∧ 0 ≤ most net set := by
    rcases maxTo_is (far net set) net.length with h | ⟨i, hi, h⟩
    · obtain ⟨a, ha⟩ := Nat.exists_testBit_of_ne_zero h0
      have hal : a < net.length := by
        apply Classical.byContradiction
        intro hge
        rw [bit_high hs (by omega)] at ha
        cases ha
      refine ⟨a, hal, ?_, ?_⟩
      · rw [dist_zero.2 ha]; exact h.symm
      · exact Int.le_of_eq h.symm
    · refine ⟨i, hi, ?_, maxTo_nonneg _ _⟩
      rw [← far_get _ _ hi]; exact h.symm
  obtain ⟨k, hk, hd, hm⟩ := hex
  have hr : ∀ t, (run net c (lit net.length set) t).getD k 0 = waveK c (most net set) t := fun t => by rw [run_lit ok h3 hs t k hk, hd]
  apply Classical.byContradiction
  intro hlt
  by_cases h1 : most net set ≤ (t : Int)
  · have h2 := hr t
    rw [e, rest_get] at h2
    unfold waveK at h2
    rw [if_pos (by omega)] at h2
    omega
  · -- at rest already: then for ever; but the farthest node fires later
    obtain ⟨m, hm2⟩ := Int.eq_ofNat_of_zero_le hm
    have h2 : run net c (lit net.length set) m = rest net.length := by
      have h3 := run_add net c (lit net.length set) t (m - t)
      rw [e, run_rest, show t + (m - t) = m by omega] at h3
      exact h3
    have h4 := hr m
    rw [h2, rest_get, hm2, (waveK_one h3 _ _).2 rfl] at h4
    omega

/-- The lights reach all nodes. -/
def covers (net : List Nat) (set steps : Nat) : Bool := (List.range net.length).all fun k => decide (0 ≤ dist net set 64 k ∧ dist net set 64 k ≤ (steps : Int))
theorem covers_iff {net : List Nat} {set steps : Nat} : covers net set steps = true ↔ ∀ k, k < net.length → 0 ≤ dist net set 64 k ∧ dist net set 64 k ≤ (steps : Int) := by
  unfold covers
  rw [List.all_eq_true]
  constructor
  · intro h k hk
    simpa using h k (by simpa using hk)
  · intro h k hk
    simpa using h k (by simpa using hk)

/-- The least number of lights that reach all nodes. -/
structure Fewest (net : List Nat) (steps n : Nat) : Prop where
  some : ∃ set, set < 2 ^ net.length ∧ covers net set steps = true ∧ popTo set net.length = n
  least : ∀ set, set < 2 ^ net.length → covers net set steps = true → n ≤ popTo set net.length

theorem popTo_all : ∀ n, popTo (2 ^ n - 1) n = n := by
  intro n
  have h : ∀ m, m ≤ n → popTo (2 ^ n - 1) m = m := by
    intro m
    induction m with
    | zero => intro _; rfl
    | succ m ih =>
      intro hm
      rw [popTo, ih (by omega), Nat.testBit_two_pow_sub_one]
      simp; omega
  exact h n (Nat.le_refl _)
theorem all_cover {net : List Nat} (steps : Nat) : covers net (2 ^ net.length - 1) steps = true := by
  refine covers_iff.2 fun k hk => ?_
  have : dist net (2 ^ net.length - 1) 64 k = 0 := dist_zero.2 (by rw [Nat.testBit_two_pow_sub_one]; simpa using hk)
  omega
theorem all_lt (net : List Nat) : 2 ^ net.length - 1 < 2 ^ net.length := by have := Nat.two_pow_pos net.length; omega

theorem Fewest.same {net : List Nat} {steps n m : Nat} (h : Fewest net steps n) (k : Fewest net steps m) : n = m := by
  obtain ⟨s, h1, h2, h3⟩ := h.some
  obtain ⟨r, k1, k2, k3⟩ := k.some
  have e1 := h.least r k1 k2
  have e2 := k.least s h1 h2
  omega
theorem Fewest.le_all {net : List Nat} {steps n : Nat} (h : Fewest net steps n) : n ≤ net.length := by
  have := h.least _ (all_lt net) (all_cover steps)
  rwa [popTo_all] at this
theorem Fewest.more {net : List Nat} {steps n m : Nat} (h : Fewest net steps n) (k : Fewest net (steps + 1) m) : m ≤ n := by
  obtain ⟨s, h1, h2, h3⟩ := h.some
  have := k.least s h1 (covers_iff.2 fun j hj => by have := covers_iff.1 h2 j hj; omega)
  omega
theorem fewest_none {net : List Nat} {n : Nat} (h : Fewest net 0 n) : n = net.length := by
  obtain ⟨s, h1, h2, h3⟩ := h.some
  have h4 : ∀ m, m ≤ net.length → popTo s m = m := by
    intro m
    induction m with
    | zero => intro _; rfl
    | succ m ih =>
      intro hm
      have h5 := covers_iff.1 h2 m (by omega)
      have h6 : s.testBit m = true := (dist_zero (net := net)).1 (by omega)
      rw [popTo, ih (by omega), if_pos h6]
  rw [h4 _ (Nat.le_refl _)] at h3
  omega

/-- One light for each part, at least. -/
theorem covers_parts {net : List Nat} (ok : Ok net) {set steps : Nat} (h : covers net set steps = true) : reps (parts net) ≤ popTo set net.length := by
  have hlen := parts_length ok
  unfold reps
  rw [hlen, popTo_sum]
  have h1 : sumTo (fun r => if (parts net).getD r 0 = r then 1 else 0) net.length ≤ sumTo (fun r => sumTo (fun a => if r = (parts net).getD a 0 then (fun _ => if set.testBit a then 1 else 0) r else 0) net.length) net.length := by
    refine sumTo_mono _ fun r hr => ?_
    by_cases e : (parts net).getD r 0 = r
    · rw [if_pos e]
      obtain ⟨h2, _⟩ := covers_iff.1 h r hr
      obtain ⟨t, ht⟩ := Int.eq_ofNat_of_zero_le h2
      obtain ⟨a, ha, hw⟩ := walk_of_dist ok t r hr ht
      have hpa := parts_walk ok hw
      have h3 : (if r = (parts net).getD a 0 then (if set.testBit a then 1 else 0) else 0) = 1 := by
        rw [if_pos (by rw [hpa, e]), if_pos ha]
      have h4 : ∀ n, a < n → 1 ≤ sumTo (fun a => if r = (parts net).getD a 0 then (fun _ => if set.testBit a then 1 else 0) r else 0) n := by
        intro n
        induction n with
        | zero => intro h; omega
        | succ n ih =>
          intro hn
          rw [sumTo]
          by_cases e2 : a = n
          · subst e2
            show 1 ≤ sumTo _ a + (if r = (parts net).getD a 0 then (if set.testBit a then 1 else 0) else 0)
            rw [h3]
            omega
          · have := ih (by omega); omega
      exact h4 _ hw.lt1
    · rw [if_neg e]; exact Nat.zero_le _
  rw [sum_swap] at h1
  have h2 : sumTo (fun a => sumTo (fun r => if r = (parts net).getD a 0 then (fun _ => if set.testBit a then 1 else 0) r else 0) net.length) net.length = sumTo (fun a => if set.testBit a then 1 else 0) net.length :=
    sumTo_congr _ fun a ha => by rw [sum_pick, if_pos (by have := parts_le ok ha; omega)]
  rw [h2] at h1
  exact h1

/-- The nodes that bear their own label, as a set. -/
def repsTo (net : List Nat) : Nat → Nat
  | 0 => 0
  | k + 1 => if (parts net).getD k 0 = k then repsTo net k ||| 2 ^ k else repsTo net k
theorem testBit_repsTo (net : List Nat) (j : Nat) : ∀ n, (repsTo net n).testBit j = true ↔ j < n ∧ (parts net).getD j 0 = j
  | 0 => by simp [repsTo]
  | n + 1 => by
    have ih := testBit_repsTo net j n
    unfold repsTo
    by_cases h : (parts net).getD n 0 = n
    · rw [if_pos h, Nat.testBit_or, Bool.or_eq_true, ih, pow_bit]
      constructor
      · rintro (⟨h1, h2⟩ | rfl)
        · exact ⟨by omega, h2⟩
        · exact ⟨by omega, h⟩
      · rintro ⟨h1, h2⟩
        by_cases e : n = j
        · exact .inr e
        · exact .inl ⟨by omega, h2⟩
    · rw [if_neg h, ih]
      constructor
      · rintro ⟨h1, h2⟩; exact ⟨by omega, h2⟩
      · rintro ⟨h1, h2⟩
        have : j ≠ n := fun e => h (e ▸ h2)
        exact ⟨by omega, h2⟩
theorem repsTo_lt (net : List Nat) : ∀ n, repsTo net n < 2 ^ n
  | 0 => by simp [repsTo]
  | n + 1 => by
    have ih := repsTo_lt net n
    have h1 : 2 ^ n < 2 ^ (n + 1) := two_pow_lt (by omega)
    unfold repsTo
    split
    · exact Nat.or_lt_two_pow (by omega) h1
    · omega
theorem reps_pop {net : List Nat} (ok : Ok net) : popTo (repsTo net net.length) net.length = reps (parts net) := by
  unfold reps
  rw [parts_length ok, popTo_sum]
  refine sumTo_congr _ fun j hj => ?_
  by_cases h : (parts net).getD j 0 = j
  · rw [if_pos h, if_pos ((testBit_repsTo net j _).2 ⟨hj, h⟩)]
  · rw [if_neg h, if_neg (fun e => h ((testBit_repsTo net j _).1 e).2)]
theorem reps_cover {net : List Nat} (ok : Ok net) {steps : Nat} (h : net.length ≤ steps + 1) : covers net (repsTo net net.length) steps = true := by
  refine covers_iff.2 fun k hk => ?_
  have hlt := repsTo_lt net net.length
  have lab := lab_out ok _ (Nat.le_refl _)
  obtain ⟨t, hw⟩ := lab.conn k hk
  have hle := lab.le k hk
  have hid := lab.idem k hk
  have hb : (repsTo net net.length).testBit ((labOut net net.length).getD k 0) = true := (testBit_repsTo net _ _).2 ⟨by omega, hid⟩
  have h1 := (dist_of_walk ok hlt (hw.back ok) hb).1
  have h2 := dist_few ok hlt k
  omega
/-- In the end one light of each part. -/
theorem fewest_parts {net : List Nat} (ok : Ok net) {steps n : Nat} (hs : net.length ≤ steps + 1) (h : Fewest net steps n) : n = reps (parts net) := by
  obtain ⟨s, h1, h2, h3⟩ := h.some
  have e1 := h.least _ (repsTo_lt net net.length) (reps_cover ok hs)
  rw [reps_pop ok] at e1
  have e2 := covers_parts ok h2
  omega
theorem fewest_ge {net : List Nat} (ok : Ok net) {steps n : Nat} (h : Fewest net steps n) : reps (parts net) ≤ n := by
  obtain ⟨s, h1, h2, h3⟩ := h.some
  have e2 := covers_parts ok h2
  omega

end Nt
end Go.Proofs.YtnajdbnacdnnlaaGreatDoor

namespace Go.Proofs.YtnajdbnacdnnlaaGreatDoor
namespace Nt

/-- Whether kinds and a set are those of a net. -/
def waveB (xs : List Int) (kinds set : Int) : Bool := okB xs && decide (3 ≤ kinds ∧ kinds ≤ 5) && decide (0 ≤ set ∧ set < 2 ^ xs.length)
theorem waveB_ok {xs : List Int} {kinds set : Int} (h : waveB xs kinds set = true) :
    ∃ (ns : List Nat) (c s : Nat), xs = nats ns ∧ kinds = (c : Int) ∧ set = (s : Int) ∧ Ok ns ∧ 3 ≤ c ∧ c ≤ 5 ∧ s < 2 ^ ns.length := by
  unfold waveB at h
  rw [Bool.and_eq_true, Bool.and_eq_true, decide_eq_true_eq, decide_eq_true_eq] at h
  obtain ⟨⟨h1, h2⟩, h3⟩ := h
  obtain ⟨ns, rfl, hok⟩ := okB_ok h1
  rw [nats_length] at h3
  refine ⟨ns, kinds.toNat, set.toNat, rfl, by omega, by omega, hok, by omega, by omega, ?_⟩
  have h4 := h3.2
  have h5 : ((set.toNat : Nat) : Int) < ((2 ^ ns.length : Nat) : Int) := by
    rw [Int.natCast_pow]
    have : ((set.toNat : Nat) : Int) = set := by omega
    rw [this]
    exact h4
  omega
theorem waveB_yes {ns : List Nat} {c s : Nat} (ok : Ok ns) (h3 : 3 ≤ c) (h5 : c ≤ 5) (hs : s < 2 ^ ns.length) : waveB (nats ns) (c : Int) (s : Int) = true := by
  unfold waveB
  have h : (0 : Int) ≤ (s : Int) ∧ (s : Int) < 2 ^ (nats ns).length := by
    rw [nats_length]
    refine ⟨by omega, ?_⟩
    have : ((s : Nat) : Int) < ((2 ^ ns.length : Nat) : Int) := by omega
    rwa [Int.natCast_pow] at this
  rw [ok_okB ok, decide_eq_true (show (3 : Int) ≤ (c : Int) ∧ (c : Int) ≤ 5 by omega), decide_eq_true h]
  rfl
theorem waveB_no1 {xs : List Int} {kinds set : Int} (h : okB xs = false) : waveB xs kinds set = false := by unfold waveB; rw [h]; rfl
theorem waveB_no2 {xs : List Int} {kinds set : Int} (h : ¬ (3 ≤ kinds ∧ kinds ≤ 5)) : waveB xs kinds set = false := by unfold waveB; rw [decide_eq_false h]; simp
theorem waveB_no3 {xs : List Int} {kinds set : Int} (h : ¬ (0 ≤ set ∧ set < 2 ^ xs.length)) : waveB xs kinds set = false := by unfold waveB; rw [decide_eq_false h]; simp
theorem waveB_all {xs : List Int} {kinds set : Int} (h1 : okB xs = true) (h2 : 3 ≤ kinds ∧ kinds ≤ 5) (h3 : 0 ≤ set ∧ set < 2 ^ xs.length) : waveB xs kinds set = true := by
  unfold waveB; rw [h1, decide_eq_true h2, decide_eq_true h3]; rfl

def arrOf (xs : List Int) (kinds set : Int) : List Int := if waveB xs kinds set = true then far (xs.map Int.toNat) set.toNat else []
theorem arrOf_ok {ns : List Nat} {c s : Nat} (ok : Ok ns) (h3 : 3 ≤ c) (h5 : c ≤ 5) (hs : s < 2 ^ ns.length) : arrOf (nats ns) (c : Int) (s : Int) = far ns s := by
  unfold arrOf; rw [if_pos (waveB_yes ok h3 h5 hs), nats_toNat, Int.toNat_natCast]
theorem arrOf_no {xs : List Int} {kinds set : Int} (h : waveB xs kinds set = false) : arrOf xs kinds set = [] := by unfold arrOf; rw [if_neg (by simp [h])]
theorem arrOf_small (xs : List Int) (kinds set : Int) : (arrOf xs kinds set).length ≤ 2000000 := by
  cases h : waveB xs kinds set
  · rw [arrOf_no h]; simp
  · obtain ⟨ns, c, s, rfl, rfl, rfl, ok, h3, h5, hs⟩ := waveB_ok h
    rw [arrOf_ok ok h3 h5 hs, far_length]; exact st_small ok.few

/-- Arrivals up to a step: where it is known by then. -/
def arrAt (net : List Nat) (set t : Nat) (k : Nat) : Int := if 0 ≤ dist net set 64 k ∧ dist net set 64 k ≤ (t : Int) then dist net set 64 k else -1
def arrRow (net : List Nat) (set t : Nat) : List Int := (List.range net.length).map (arrAt net set t)
theorem arrRow_length (net : List Nat) (set t : Nat) : (arrRow net set t).length = net.length := by simp [arrRow]
theorem arrRow_get (net : List Nat) (set t : Nat) {k : Nat} (hk : k < net.length) : (arrRow net set t).getD k 0 = arrAt net set t k := by
  simp [arrRow, List.getD_eq_getElem?_getD, hk]
theorem arrRow_end {net : List Nat} (ok : Ok net) {set : Nat} (hs : set < 2 ^ net.length) {t : Nat} (ht : net.length ≤ t + 1) : arrRow net set t = far net set := by
  apply List.ext_getElem (by rw [arrRow_length, far_length])
  intro i h1 h2
  rw [arrRow_length] at h1
  have e1 := arrRow_get net set t h1
  have e2 := far_get (ns := net) set i h1
  rw [List.getD_eq_getElem?_getD, List.getElem?_eq_getElem (by rw [arrRow_length]; exact h1), Option.getD_some] at e1
  rw [List.getD_eq_getElem?_getD, List.getElem?_eq_getElem (by rw [far_length]; exact h1), Option.getD_some] at e2
  rw [e1, e2]
  unfold arrAt
  have h3 := dist_few ok hs i
  have h4 := dist_range (net := net) set i
  split
  · rfl
  · omega
theorem arr_lit {net : List Nat} (ok : Ok net) {c set : Nat} (h3 : 3 ≤ c) (hs : set < 2 ^ net.length) (t : Nat) {k : Nat} (hk : k < net.length) :
    (run net c (lit net.length set) t).getD k 0 = 1 ↔ dist net set 64 k = (t : Int) := by
  rw [run_lit ok h3 hs t k hk]; exact waveK_one h3 _ _
theorem arrAt_next (net : List Nat) (set t k : Nat) : arrAt net set (t + 1) k = if dist net set 64 k = ((t + 1 : Nat) : Int) then ((t + 1 : Nat) : Int) else arrAt net set t k := by
  unfold arrAt
  split
  · split
    · omega
    · rw [if_pos (by omega)]
  · split
    · omega
    · rw [if_neg (by omega)]
theorem arrAt_new {net : List Nat} {set t k : Nat} (h : dist net set 64 k = ((t + 1 : Nat) : Int)) : arrAt net set t k = -1 := by
  unfold arrAt; rw [if_neg (by omega)]

def waveEndOf (xs : List Int) (kinds set : Int) : Int := if waveB xs kinds set = true then (if set = 0 then 0 else most (xs.map Int.toNat) set.toNat + kinds - 1) else -1
theorem waveEndOf_ok {ns : List Nat} {c s : Nat} (ok : Ok ns) (h3 : 3 ≤ c) (h5 : c ≤ 5) (hs : s < 2 ^ ns.length) (h0 : s ≠ 0) : waveEndOf (nats ns) (c : Int) (s : Int) = most ns s + c - 1 := by
  unfold waveEndOf; rw [if_pos (waveB_yes ok h3 h5 hs), if_neg (by omega), nats_toNat, Int.toNat_natCast]
theorem waveEndOf_zero {ns : List Nat} {c : Nat} (ok : Ok ns) (h3 : 3 ≤ c) (h5 : c ≤ 5) : waveEndOf (nats ns) (c : Int) 0 = 0 := by
  
  have h : waveB (nats ns) (c : Int) 0 = true := waveB_yes (s := 0) ok h3 h5 (Nat.two_pow_pos _)
  unfold waveEndOf; rw [if_pos h, if_pos rfl]
theorem waveEndOf_no {xs : List Int} {kinds set : Int} (h : waveB xs kinds set = false) : waveEndOf xs kinds set = -1 := by unfold waveEndOf; rw [if_neg (by simp [h])]
theorem most_nonneg (net : List Nat) (set : Nat) : 0 ≤ most net set := maxTo_nonneg _ _
theorem lit_zero (n : Nat) : lit n 0 = rest n := by
  have h := eq_rest (ks := lit n 0) (fun k hk => by
    rw [lit_length] at hk
    rw [lit_get _ _ _ hk]
    simp)
  rwa [lit_length] at h
/-- The loop of a wave: of one state, when it has ended. -/
theorem wave_loop {net : List Nat} (ok : Ok net) {c set : Nat} (h3 : 3 ≤ c) (hs : set < 2 ^ net.length) {m l : Nat} (hl : IsLoop (run net c (lit net.length set)) m l) :
    l = 1 ∧ (m : Int) = if set = 0 then 0 else most net set + c - 1 := by
  by_cases h0 : set = 0
  · subst h0
    have e : run net c (lit net.length 0) 0 = rest (lit net.length 0).length := by rw [lit_length]; exact lit_zero _
    have h1 := rest_loop hl e
    refine ⟨h1.1, ?_⟩
    rw [if_pos rfl]; omega
  · have hm := most_nonneg net set
    obtain ⟨t, ht⟩ := Int.eq_ofNat_of_zero_le (show 0 ≤ most net set + c - 1 by omega)
    have e : run net c (lit net.length set) t = rest (lit net.length set).length := by
      rw [lit_length]
      exact lit_rest ok h3 hs (by omega)
    have h1 := rest_loop hl e
    refine ⟨h1.1, ?_⟩
    rw [if_neg h0, ht]
    have hl1 := hl
    rw [h1.1] at hl1
    have h2 : run net c (lit net.length set) m = rest net.length := by
      have h5 := hl1.back
      have h6 : step net c (run net c (lit net.length set) m) = run net c (lit net.length set) m := h5
      have st : ∀ k, k < (run net c (lit net.length set) m).length → (run net c (lit net.length set) m).getD k 0 < c := fun k hk => by
        rw [run_length, lit_length] at hk
        rw [run_lit ok h3 hs m k hk]
        unfold waveK
        split <;> omega
      have h7 : run net c (lit net.length set) m = rest (run net c (lit net.length set) m).length := eq_rest fun k hk => by
        have h8 := step_get net c (run net c (lit net.length set) m) hk
        rw [h6] at h8
        have h9 := st k hk
        generalize (run net c (lit net.length set) m).getD k 0 = x at *
        unfold fireK at h8
        by_cases hx : 0 < x
        · rw [if_pos hx, succ_mod_cases h9] at h8
          split at h8 <;> omega
        · omega
      rw [run_length, lit_length] at h7
      exact h7
    have h10 := lit_not_rest ok h3 hs h0 h2
    omega

/-- The lights for so many steps: the least set of the fewest nodes. -/
structure Lights (net : List Nat) (steps s n : Nat) : Prop where
  few : Fewest net steps n
  lt : s < 2 ^ net.length
  cov : covers net s steps = true
  pop : popTo s net.length = n
  least : ∀ r, r < s → ¬ (covers net r steps = true ∧ popTo r net.length = n)
theorem lights_ex (net : List Nat) (steps : Nat) : ∃ s n, Lights net steps s n := by
  obtain ⟨n, _, ⟨s0, h1, h2, h3⟩, hmin⟩ := least_of (P := fun n => ∃ s, s < 2 ^ net.length ∧ covers net s steps = true ∧ popTo s net.length = n) net.length ⟨2 ^ net.length - 1, all_lt net, all_cover steps, popTo_all _⟩
  have few : Fewest net steps n := ⟨⟨s0, h1, h2, h3⟩, fun s hs hc => by
    apply Classical.byContradiction
    intro hlt
    exact hmin _ (by omega) ⟨s, hs, hc, rfl⟩⟩
  obtain ⟨s, hs, ⟨hp1, hp2⟩, hl⟩ := least_of (P := fun s => covers net s steps = true ∧ popTo s net.length = n) s0 ⟨h2, h3⟩
  exact ⟨s, n, few, by omega, hp1, hp2, hl⟩
theorem Lights.same {net : List Nat} {steps s n r m : Nat} (h : Lights net steps s n) (k : Lights net steps r m) : s = r ∧ n = m := by
  have e := h.few.same k.few
  subst e
  refine ⟨?_, rfl⟩
  apply Classical.byContradiction
  intro hne
  rcases Nat.lt_or_gt_of_ne hne with h1 | h1
  · exact k.least s h1 ⟨h.cov, h.pop⟩
  · exact h.least r h1 ⟨k.cov, k.pop⟩
theorem covers_zero {net : List Nat} (h : 1 ≤ net.length) (steps : Nat) : ¬ covers net 0 steps = true := by
  intro hc
  have h1 := (covers_iff.1 hc 0 (by omega)).1
  rcases dist_told (net := net) (set := 0) (k := 0) with h2 | ⟨t, _, h2, h3⟩
  · omega
  · have hf : ∀ t, front net 0 t = 0 := fun t => front_end (t := 0) rfl t (Nat.zero_le _)
    rw [hf t] at h3
    simp at h3
theorem Lights.pos {net : List Nat} (h1 : 1 ≤ net.length) {steps s n : Nat} (h : Lights net steps s n) : 1 ≤ s := by
  apply Classical.byContradiction
  intro h0
  have e : s = 0 := by omega
  exact covers_zero h1 steps (e ▸ h.cov)

/-- What LightsFor and FewestLights answer, whatever comes in. -/
def LightsIs (xs : List Int) (steps s n : Int) : Prop :=
  (∃ (ns : List Nat) (t a b : Nat), xs = nats ns ∧ steps = (t : Int) ∧ Ok ns ∧ Lights ns t a b ∧ s = (a : Int) ∧ n = (b : Int)) ∨ (¬ (okB xs = true ∧ 0 ≤ steps) ∧ s = -1 ∧ n = -1)
theorem lightsIs_ex (xs : List Int) (steps : Int) : ∃ s n, LightsIs xs steps s n := by
  by_cases h : okB xs = true ∧ 0 ≤ steps
  · obtain ⟨ns, rfl, ok⟩ := okB_ok h.1
    obtain ⟨a, b, hl⟩ := lights_ex ns steps.toNat
    exact ⟨a, b, .inl ⟨ns, steps.toNat, a, b, rfl, by omega, ok, hl, rfl, rfl⟩⟩
  · exact ⟨-1, -1, .inr ⟨h, rfl, rfl⟩⟩

/-- The least number of lights among the sets below s. -/
def bestTo (net : List Nat) (steps : Nat) : Nat → Nat
  | 0 => net.length
  | s + 1 => if covers net s steps = true then min (bestTo net steps s) (popTo s net.length) else bestTo net steps s
theorem bestTo_spec (net : List Nat) (steps : Nat) : ∀ s, (bestTo net steps s = net.length ∨ ∃ r, r < s ∧ covers net r steps = true ∧ popTo r net.length = bestTo net steps s) ∧
    (∀ r, r < s → covers net r steps = true → bestTo net steps s ≤ popTo r net.length) ∧ bestTo net steps s ≤ net.length
  | 0 => ⟨.inl rfl, fun r hr => absurd hr (by omega), Nat.le_refl _⟩
  | s + 1 => by
    obtain ⟨h1, h2, h3⟩ := bestTo_spec net steps s
    unfold bestTo
    by_cases hc : covers net s steps = true
    · rw [if_pos hc]
      refine ⟨?_, fun r hr hcr => ?_, by omega⟩
      · by_cases hm : bestTo net steps s ≤ popTo s net.length
        · rw [Nat.min_eq_left hm]
          rcases h1 with h1 | ⟨r, hr, hcr, hpr⟩
          · exact .inl h1
          · exact .inr ⟨r, by omega, hcr, hpr⟩
        · rw [Nat.min_eq_right (by omega)]
          exact .inr ⟨s, by omega, hc, rfl⟩
      · by_cases e : r = s
        · subst e; exact Nat.min_le_right _ _
        · exact Nat.le_trans (Nat.min_le_left _ _) (h2 r (by omega) hcr)
    · rw [if_neg hc]
      refine ⟨?_, fun r hr hcr => ?_, h3⟩
      · rcases h1 with h1 | ⟨r, hr, hcr, hpr⟩
        · exact .inl h1
        · exact .inr ⟨r, by omega, hcr, hpr⟩
      · by_cases e : r = s
        · subst e; exact absurd hcr hc
        · exact h2 r (by omega) hcr
theorem bestTo_fewest (net : List Nat) (steps : Nat) : Fewest net steps (bestTo net steps (2 ^ net.length)) := by
  obtain ⟨h1, h2, _⟩ := bestTo_spec net steps (2 ^ net.length)
  refine ⟨?_, h2⟩
  rcases h1 with h1 | ⟨r, hr, hcr, hpr⟩
  · exact ⟨2 ^ net.length - 1, all_lt net, all_cover steps, by rw [popTo_all, h1]⟩
  · exact ⟨r, hr, hcr, hpr⟩
theorem bestTo_one {net : List Nat} (h1 : 1 ≤ net.length) (steps : Nat) : bestTo net steps 1 = net.length := by
  show (if covers net 0 steps = true then _ else _) = _
  rw [if_neg (covers_zero h1 steps)]
  rfl

end Nt
end Go.Proofs.YtnajdbnacdnnlaaGreatDoor

namespace Go.Proofs.YtnajdbnacdnnlaaGreatDoor

/-- A row of numbers overwritten by another one up to k. -/
def mixI (new old : List Int) (k : Nat) : List Int := new.take k ++ old.drop k
theorem mixI_zero (new old : List Int) : mixI new old 0 = old := by simp [mixI]
theorem mixI_end {new old : List Int} (h : new.length = old.length) : mixI new old old.length = new := by
  unfold mixI
  rw [List.drop_length, List.append_nil, ← h, List.take_length]
theorem mixI_length {new old : List Int} (h : new.length = old.length) (k : Nat) : (mixI new old k).length = old.length := by
  unfold mixI
  rw [List.length_append, List.length_take, List.length_drop]; omega
theorem mixI_get {new old : List Int} (h : new.length = old.length) {k : Nat} (hk : k < old.length) : (mixI new old k).getD k 0 = old.getD k 0 := by
  unfold mixI
  rw [List.getD_eq_getElem?_getD, List.getD_eq_getElem?_getD, List.getElem?_append_right (by rw [List.length_take]; omega), List.length_take, List.getElem?_drop]
  congr 2
  omega
theorem mixI_set {new old : List Int} (h : new.length = old.length) {k : Nat} (hk : k < old.length) : (mixI new old k).set k (new.getD k 0) = mixI new old (k + 1) := by
  unfold mixI
  have hl : (new.take k).length = k := by rw [List.length_take]; omega
  rw [List.set_append_right _ _ (by omega), hl, Nat.sub_self, List.drop_eq_getElem_cons hk, List.set_cons_zero, List.take_succ_eq_append_getElem (by omega), List.append_assoc]
  congr 1
  simp [List.getD_eq_getElem?_getD, List.getElem?_eq_getElem (show k < new.length by omega)]
theorem mixI_keep {new old : List Int} (h : new.length = old.length) {k : Nat} (hk : k < old.length) (e : new.getD k 0 = old.getD k 0) : mixI new old k = mixI new old (k + 1) := by
  rw [← mixI_set h hk, e, ← mixI_get h hk]
  apply List.ext_getElem (by simp)
  intro i h1 h2
  rw [List.getElem_set]
  split
  · rename_i e2
    subst e2
    rw [List.getD_eq_getElem?_getD, List.getElem?_eq_getElem h1]
    rfl
  · rfl
theorem takeI_succ (xs : List Int) (k : Nat) (h : k < xs.length) : xs.take (k + 1) = xs.take k ++ [xs.getD k 0] := by
  rw [List.take_succ_eq_append_getElem h]
  simp [List.getD_eq_getElem?_getD, List.getElem?_eq_getElem h]
theorem lit_stc {c n s : Nat} (h3 : 3 ≤ c) (h5 : c ≤ 5) (h1 : 1 ≤ n) (h6 : n ≤ 6) : Nt.St c (Nt.lit n s) :=
  ⟨h3, h5, by rw [Nt.lit_length]; exact h1, by rw [Nt.lit_length]; exact h6, fun k hk => by
    rw [Nt.lit_length] at hk
    rw [Nt.lit_get _ _ _ hk]
    split <;> omega⟩
theorem arr_first (ns : List Nat) (s : Nat) (k : Nat) (hk : k < ns.length) : (Nt.arrRow ns s 0).getD k 0 = ((((Nt.lit ns.length s).getD k 0 : Nat) : Int) - 1) := by
  rw [Nt.arrRow_get _ _ _ hk, Nt.lit_get _ _ _ hk]
  unfold Nt.arrAt
  have h := Nt.dist_zero (net := ns) (set := s) (k := k)
  by_cases e : s.testBit k = true
  · rw [if_pos e, h.2 e]; rfl
  · rw [if_neg e, if_neg (fun h2 => e (h.1 (by omega)))]; rfl

/-- Arrivals before a step: where it is known by then. -/
def Nt.arrBef (net : List Nat) (set t : Nat) : List Int := (List.range net.length).map fun k => if 0 ≤ Nt.dist net set 64 k ∧ Nt.dist net set 64 k < (t : Int) then Nt.dist net set 64 k else -1
theorem Nt.arrBef_length (net : List Nat) (set t : Nat) : (Nt.arrBef net set t).length = net.length := by simp [Nt.arrBef]
theorem Nt.arrBef_get (net : List Nat) (set t : Nat) {k : Nat} (hk : k < net.length) : (Nt.arrBef net set t).getD k 0 = if 0 ≤ Nt.dist net set 64 k ∧ Nt.dist net set 64 k < (t : Int) then Nt.dist net set 64 k else -1 := by
  simp [Nt.arrBef, List.getD_eq_getElem?_getD, hk]
theorem Nt.arrBef_zero (net : List Nat) (set : Nat) : Nt.arrBef net set 0 = List.replicate net.length (-1) := by
  apply List.ext_getElem (by simp [Nt.arrBef])
  intro i h1 h2
  simp [Nt.arrBef]
  omega
theorem Nt.arrBef_end {net : List Nat} (ok : Nt.Ok net) {set : Nat} (hs : set < 2 ^ net.length) : Nt.arrBef net set net.length = Nt.far net set := by
  apply List.ext_getElem (by rw [Nt.arrBef_length, Nt.far_length])
  intro i h1 h2
  rw [Nt.arrBef_length] at h1
  have e1 := Nt.arrBef_get net set net.length h1
  have e2 := Nt.far_get (ns := net) set i h1
  rw [List.getD_eq_getElem?_getD, List.getElem?_eq_getElem (by rw [Nt.arrBef_length]; exact h1), Option.getD_some] at e1
  rw [List.getD_eq_getElem?_getD, List.getElem?_eq_getElem (by rw [Nt.far_length]; exact h1), Option.getD_some] at e2
  rw [e1, e2]
  have h3 := Nt.dist_few ok hs i
  have h4 := Nt.dist_range (net := net) set i
  split
  · rfl
  · omega
theorem Nt.arrBef_next {net : List Nat} (ok : Nt.Ok net) {c set : Nat} (h3 : 3 ≤ c) (hs : set < 2 ^ net.length) (t : Nat) {k : Nat} (hk : k < net.length) :
    (Nt.arrBef net set (t + 1)).getD k 0 = if (Nt.arrBef net set t).getD k 0 < 0 ∧ (Nt.fires (Nt.run net c (Nt.lit net.length set) t)).testBit k = true then (t : Int) else (Nt.arrBef net set t).getD k 0 := by
  rw [Nt.arrBef_get _ _ _ hk, Nt.arrBef_get _ _ _ hk]
  have h1 := Nt.arr_lit ok h3 hs t hk
  have h2 : (Nt.fires (Nt.run net c (Nt.lit net.length set) t)).testBit k = true ↔ Nt.dist net set 64 k = (t : Int) := by
    unfold Nt.fires
    rw [Nt.testBit_firesTo, Nt.run_length, Nt.lit_length, h1]
    exact ⟨fun h => h.2, fun h => ⟨hk, h⟩⟩
  have h4 := Nt.dist_range (net := net) set k
  by_cases e : Nt.dist net set 64 k = (t : Int)
  · have e3 : ¬ (0 ≤ Nt.dist net set 64 k ∧ Nt.dist net set 64 k < (t : Int)) := by omega
    rw [if_neg e3, if_pos (by omega : 0 ≤ Nt.dist net set 64 k ∧ Nt.dist net set 64 k < ((t + 1 : Nat) : Int)), if_pos ⟨by omega, h2.2 e⟩, e]
  · by_cases e2 : 0 ≤ Nt.dist net set 64 k ∧ Nt.dist net set 64 k < (t : Int)
    · rw [if_pos e2, if_pos (by omega : 0 ≤ Nt.dist net set 64 k ∧ Nt.dist net set 64 k < ((t + 1 : Nat) : Int)), if_neg (fun h => e (h2.1 h.2))]
    · rw [if_neg e2, if_neg (by omega : ¬ (0 ≤ Nt.dist net set 64 k ∧ Nt.dist net set 64 k < ((t + 1 : Nat) : Int))), if_neg (fun h => e (h2.1 h.2))]

/-- The least one of a row of numbers. -/
def Nt.lowTo (xs : List Int) : Nat → Int
  | 0 => xs.getD 0 0
  | k + 1 => min (Nt.lowTo xs k) (xs.getD (k + 1) 0)
theorem Nt.lowTo_le (xs : List Int) : ∀ n j, j ≤ n → Nt.lowTo xs n ≤ xs.getD j 0
  | 0, j, h => by obtain rfl : j = 0 := by omega
                  exact Int.le_refl _
  | n + 1, j, h => by
    rw [Nt.lowTo]
    by_cases e : j = n + 1
    · subst e; exact Int.min_le_right _ _
    · have := Nt.lowTo_le xs n j (by omega)
      have := Int.min_le_left (Nt.lowTo xs n) (xs.getD (n + 1) 0)
      omega
theorem Nt.lowTo_some (xs : List Int) : ∀ n, ∃ j, j ≤ n ∧ Nt.lowTo xs n = xs.getD j 0
  | 0 => ⟨0, Nat.le_refl _, rfl⟩
  | n + 1 => by
    obtain ⟨j, h1, h2⟩ := Nt.lowTo_some xs n
    rw [Nt.lowTo]
    rcases Int.le_total (Nt.lowTo xs n) (xs.getD (n + 1) 0) with h | h
    · exact ⟨j, by omega, by rw [Int.min_eq_left h, h2]⟩
    · exact ⟨n + 1, Nat.le_refl _, Int.min_eq_right h⟩
theorem Nt.topTo_geM (xs : List Int) : ∀ n j, j ≤ n → xs.getD j 0 ≤ Nt.topTo xs n
  | 0, j, h => by obtain rfl : j = 0 := by omega
                  exact Int.le_refl _
  | n + 1, j, h => by
    rw [Nt.topTo]
    by_cases e : j = n + 1
    · subst e; exact Int.le_max_right _ _
    · have := Nt.topTo_geM xs n j (by omega)
      have := Int.le_max_left (Nt.topTo xs n) (xs.getD (n + 1) 0)
      omega
theorem Nt.topTo_some (xs : List Int) : ∀ n, ∃ j, j ≤ n ∧ Nt.topTo xs n = xs.getD j 0
  | 0 => ⟨0, Nat.le_refl _, rfl⟩
  | n + 1 => by
    obtain ⟨j, h1, h2⟩ := Nt.topTo_some xs n
    rw [Nt.topTo]
    rcases Int.le_total (Nt.topTo xs n) (xs.getD (n + 1) 0) with h | h
    · exact ⟨n + 1, Nat.le_refl _, Int.max_eq_right h⟩
    · exact ⟨j, by omega, by rw [Int.max_eq_left h, h2]⟩
/-- All fire within so many steps: the least and the greatest arrival tell. -/
theorem Nt.covers_low {net : List Nat} {set : Nat} (steps : Nat) {n : Nat} (hn : net.length = n + 1) :
    Nt.covers net set steps = (decide (0 ≤ Nt.lowTo (Nt.far net set) n) && decide (Nt.topTo (Nt.far net set) n ≤ (steps : Int))) := by
  rw [Bool.eq_iff_iff, Bool.and_eq_true, decide_eq_true_eq, decide_eq_true_eq, Nt.covers_iff]
  constructor
  · intro h
    obtain ⟨j, h1, h2⟩ := Nt.lowTo_some (Nt.far net set) n
    obtain ⟨i, h3, h4⟩ := Nt.topTo_some (Nt.far net set) n
    rw [Nt.far_get _ _ (by omega)] at h2 h4
    have := h j (by omega)
    have := h i (by omega)
    omega
  · intro h k hk
    have h1 := Nt.lowTo_le (Nt.far net set) n k (by omega)
    have h2 := Nt.topTo_geM (Nt.far net set) n k (by omega)
    rw [Nt.far_get _ _ (by omega)] at h1 h2
    omega
end Go.Proofs.YtnajdbnacdnnlaaGreatDoor

namespace Go.Proofs.YtnajdbnacdnnlaaGreatDoor
namespace Nt

theorem dist_or {net : List Nat} (ok : Ok net) {a b : Nat} (ha : a < 2 ^ net.length) (hb : b < 2 ^ net.length) {k : Nat} (hk : k < net.length) :
    dist net (a ||| b) 64 k = if min (dist net a 64 k) (dist net b 64 k) < 0 then max (dist net a 64 k) (dist net b 64 k) else min (dist net a 64 k) (dist net b 64 k) := by
  have hab : a ||| b < 2 ^ net.length := Nat.or_lt_two_pow ha hb
  have r1 := dist_range (net := net) a k
  have r2 := dist_range (net := net) b k
  have r3 := dist_range (net := net) (a ||| b) k
  have f1 : 0 ≤ dist net (a ||| b) 64 k → (0 ≤ dist net a 64 k ∧ dist net a 64 k ≤ dist net (a ||| b) 64 k) ∨ (0 ≤ dist net b 64 k ∧ dist net b 64 k ≤ dist net (a ||| b) 64 k) := by
    intro h
    obtain ⟨t, ht⟩ := Int.eq_ofNat_of_zero_le h
    obtain ⟨x, hx, hw⟩ := walk_of_dist ok t k hk ht
    rw [Nat.testBit_or, Bool.or_eq_true] at hx
    rcases hx with hx | hx
    · have := dist_of_walk ok ha hw hx
      omega
    · have := dist_of_walk ok hb hw hx
      omega
  have f2 : ∀ c, c < 2 ^ net.length → (∀ x, c.testBit x = true → (a ||| b).testBit x = true) → 0 ≤ dist net c 64 k → 0 ≤ dist net (a ||| b) 64 k ∧ dist net (a ||| b) 64 k ≤ dist net c 64 k := by
    intro c _ hsub h
    obtain ⟨t, ht⟩ := Int.eq_ofNat_of_zero_le h
    obtain ⟨x, hx, hw⟩ := walk_of_dist ok t k hk ht
    have := dist_of_walk ok hab hw (hsub x hx)
    omega
  have g1 := f2 a ha (fun x hx => by rw [Nat.testBit_or, hx]; rfl)
  have g2 := f2 b hb (fun x hx => by rw [Nat.testBit_or, hx]; simp)
  generalize dist net (a ||| b) 64 k = d at *
  generalize dist net a 64 k = x at *
  generalize dist net b 64 k = y at *
  split <;> omega

theorem grow_sooner {net : List Nat} (ok : Ok net) {s t : Nat} (hs : s < 2 ^ net.length) (hc : covers net s (t + 1) = true) {k : Nat} (hk : k < net.length) :
    0 ≤ dist net (s ||| near net s) 64 k ∧ dist net (s ||| near net s) 64 k ≤ (t : Int) := by
  have hn := near_lt ok s
  have hab : s ||| near net s < 2 ^ net.length := Nat.or_lt_two_pow hs hn
  obtain ⟨h0, h1⟩ := covers_iff.1 hc k hk
  obtain ⟨d, hd⟩ := Int.eq_ofNat_of_zero_le h0
  obtain ⟨x, hx, hw⟩ := walk_of_dist ok d k hk hd
  cases d with
  | zero =>
    have := dist_of_walk ok hab hw (by rw [Nat.testBit_or, hx]; rfl)
    omega
  | succ e =>
    obtain ⟨hxl, y, hy, hyx⟩ := hw.back ok
    have hyl := hy.lt2
    have hyn : (near net s).testBit y = true := testBit_near.2 ⟨x, hxl, hx, by rw [ok.both x y hxl hyl]; exact hyx⟩
    have := dist_of_walk ok hab (hy.back ok) (by rw [Nat.testBit_or, hyn]; simp)
    omega

end Nt
end Go.Proofs.YtnajdbnacdnnlaaGreatDoor
