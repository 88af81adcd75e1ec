/-
  Plain mathematics of fronts on rings: fronts tell a state, turning is a game of fronts, fronts that go.
  Plain mathematics of rings that wind: once round a ring one climbs what its fronts are together.
  Plain mathematics of rings: how many states have a winding.
  Plain mathematics: what the functions of fronts answer.
-/
import Derived.Test.YtlcbpnbehbgbeaaXA
import Derived.Test.YtlcbpnbehbgbeaaPureXV
namespace Go.Proofs.Ytlcbpnbehbgbeaa
namespace Nt

/-- The first so many numbers, added. -/
def sumI (fs : List Int) : Nat → Int
  | 0 => 0
  | k + 1 => sumI fs k + fs.getD k 0
/-- The fronts of a state of a ring. -/
def frow (ks : List Nat) : List Int := (List.range ks.length).map fun k => rise (ks.getD k 0) (ks.getD ((k + 1) % ks.length) 0)
theorem frow_length (ks : List Nat) : (frow ks).length = ks.length := by simp [frow]
theorem frow_get (ks : List Nat) {k : Nat} (h : k < ks.length) : (frow ks).getD k 0 = rise (ks.getD k 0) (ks.getD ((k + 1) % ks.length) 0) := by
  simp [frow, List.getD_eq_getElem?_getD, h]
/-- Rows of fronts. -/
structure Fr (fs : List Int) : Prop where
  lo : 3 ≤ fs.length
  hi : fs.length ≤ 6
  sign : ∀ k, k < fs.length → -1 ≤ fs.getD k 0 ∧ fs.getD k 0 ≤ 1
  sum : sumI fs fs.length % 3 = 0
theorem frow_sum {ks : List Nat} (h : St 3 ks) : ∀ k, k ≤ ks.length → sumI (frow ks) k % 3 = ((ks.getD (k % ks.length) 0 : Int) - (ks.getD 0 0 : Int)) % 3
  | 0, _ => by
    rw [Nat.zero_mod]
    show (0 : Int) % 3 = _
    omega
  | k + 1, hk => by
    have ih := frow_sum h k (by omega)
    rw [Nat.mod_eq_of_lt (by omega : k < ks.length)] at ih
    rw [sumI, frow_get _ (by omega)]
    unfold rise
    omega
theorem frow_fr {ks : List Nat} (h : St 3 ks) (h3 : 3 ≤ ks.length) : Fr (frow ks) := by
  refine ⟨by rw [frow_length]; exact h3, by rw [frow_length]; exact h.few, fun k hk => ?_, ?_⟩
  · rw [frow_length] at hk
    rw [frow_get _ hk]
    exact ⟨rise_lo, rise_hi⟩
  · rw [frow_length, frow_sum h _ (Nat.le_refl _), Nat.mod_self]; omega
/-- The state with a first kind and fronts. -/
def stOf (a : Nat) (fs : List Int) : List Nat := (List.range fs.length).map fun k => (((a : Int) + sumI fs k) % 3).toNat
theorem stOf_length (a : Nat) (fs : List Int) : (stOf a fs).length = fs.length := by simp [stOf]
theorem stOf_get (a : Nat) (fs : List Int) {k : Nat} (h : k < fs.length) : (stOf a fs).getD k 0 = (((a : Int) + sumI fs k) % 3).toNat := by
  simp [stOf, List.getD_eq_getElem?_getD, h]
theorem stOf_st (a : Nat) {fs : List Int} (h : Fr fs) : St 3 (stOf a fs) := by
  have := h.lo
  refine ⟨by omega, by omega, by rw [stOf_length]; omega, by rw [stOf_length]; exact h.hi, fun k hk => ?_⟩
  rw [stOf_length] at hk
  rw [stOf_get _ _ hk]; omega
theorem stOf_zero {a : Nat} (ha : a < 3) {fs : List Int} (h : Fr fs) : (stOf a fs).getD 0 0 = a := by
  rw [stOf_get _ _ (by have := h.lo; omega)]
  show (((a : Int) + 0) % 3).toNat = a
  omega
theorem ext_getI {l r : List Int} (hl : l.length = r.length) (h : ∀ k, k < l.length → l.getD k 0 = r.getD k 0) : l = r := by
  apply List.ext_getElem hl
  intro i h1 h2
  have := h i h1
  simpa [List.getD_eq_getElem?_getD, List.getElem?_eq_getElem h1, List.getElem?_eq_getElem h2] using this
theorem frow_stOf (a : Nat) {fs : List Int} (h : Fr fs) : frow (stOf a fs) = fs := by
  refine ext_getI (by rw [frow_length, stOf_length]) fun k hk => ?_
  rw [frow_length, stOf_length] at hk
  rw [frow_get _ (by rw [stOf_length]; exact hk), stOf_length, stOf_get _ _ hk]
  have hs := h.sign k hk
  have h0 := h.sum
  by_cases e : k + 1 = fs.length
  · rw [e, Nat.mod_self, stOf_get _ _ (by omega)]
    rw [← e, sumI] at h0
    show rise _ (((a : Int) + 0) % 3).toNat = _
    unfold rise
    omega
  · rw [Nat.mod_eq_of_lt (by omega : k + 1 < fs.length), stOf_get _ _ (by omega), sumI]
    unfold rise
    omega
theorem stOf_frow {ks : List Nat} (h : St 3 ks) : stOf (ks.getD 0 0) (frow ks) = ks := by
  refine ext_getD (by rw [stOf_length, frow_length]) fun k hk => ?_
  rw [stOf_length, frow_length] at hk
  have h1 := frow_sum h k (by omega)
  have h2 := h.lt k hk
  rw [Nat.mod_eq_of_lt hk] at h1
  rw [stOf_get _ _ (by rw [frow_length]; exact hk)]
  omega

/-- Whether the node before a front goes on. -/
def goes (fs : List Int) (k : Nat) : Int := if fs.getD k 0 = 1 ∨ fs.getD ((k + fs.length - 1) % fs.length) 0 = -1 then 1 else 0
def fstep (fs : List Int) : List Int := (List.range fs.length).map fun k => fs.getD k 0 + goes fs ((k + 1) % fs.length) - goes fs k
theorem fstep_length (fs : List Int) : (fstep fs).length = fs.length := by simp [fstep]
theorem fstep_get (fs : List Int) {k : Nat} (h : k < fs.length) : (fstep fs).getD k 0 = fs.getD k 0 + goes fs ((k + 1) % fs.length) - goes fs k := by
  simp [fstep, List.getD_eq_getElem?_getD, h]
theorem ring_bits : ∀ n, n < 7 → 3 ≤ n → ∀ k, k < n → ∀ j, j < n → ((ringN n).getD k 0).testBit j = decide (j = (k + 1) % n ∨ j = (k + n - 1) % n) := by decide +kernel
theorem ring_turns : ∀ n, n < 7 → 3 ≤ n → ∀ k, k < n → (k + 1) % n < n ∧ (k + n - 1) % n < n ∧ ((k + n - 1) % n + 1) % n = k ∧ ((k + 1) % n + n - 1) % n = k := by decide +kernel
theorem ring_good : ∀ n, n < 7 → 3 ≤ n → okB (nats (ringN n)) = true := by decide
theorem ring_ok {n : Nat} (h3 : 3 ≤ n) (h6 : n ≤ 6) : Ok (ringN n) := by
  obtain ⟨ns, he, hk⟩ := okB_ok (ring_good n (by omega) h3)
  have e : ringN n = ns := by
    rw [← nats_toNat (ringN n), he, nats_toNat]
  rw [e]; exact hk
theorem pull_goes {ks : List Nat} (h : St 3 ks) (h3 : 3 ≤ ks.length) {k : Nat} (hk : k < ks.length) : goes (frow ks) k = if pullB (ringN ks.length) ks k = true then 1 else 0 := by
  obtain ⟨t1, t2, t3, t4⟩ := ring_turns ks.length (by have := h.few; omega) h3 k hk
  have b := ring_bits ks.length (by have := h.few; omega) h3 k hk
  have hx := h.lt k hk
  have e : (fun p : Prop => p) ((frow ks).getD k 0 = 1 ∨ (frow ks).getD ((k + (frow ks).length - 1) % (frow ks).length) 0 = -1) ↔ pullB (ringN ks.length) ks k = true := by
    show ((frow ks).getD k 0 = 1 ∨ (frow ks).getD ((k + (frow ks).length - 1) % (frow ks).length) 0 = -1) ↔ _
    rw [frow_length, frow_get _ hk, frow_get _ t2, t3, rise_one (h.lt _ t1), rise_down (h.lt _ t2), pullB_iff]
    constructor
    · rintro (h1 | h1)
      · exact ⟨_, t1, by rw [b _ t1]; simp, h1⟩
      · exact ⟨_, t2, by rw [b _ t2]; simp, h1⟩
    · rintro ⟨j, hj, hb, he⟩
      rw [b j hj, decide_eq_true_eq] at hb
      rcases hb with rfl | rfl
      · exact Or.inl he
      · exact Or.inr he
  unfold goes
  by_cases c : pullB (ringN ks.length) ks k = true
  · rw [if_pos (e.2 c), if_pos c]
  · rw [if_neg (fun hh => c (e.1 hh)), if_neg c]
/-- Turning is a game of fronts. -/
theorem frow_turn {ks : List Nat} (h : St 3 ks) (h3 : 3 ≤ ks.length) : frow (turn (ringN ks.length) ks) = fstep (frow ks) := by
  have h6 := h.few
  have ok := ring_ok h3 h6
  refine ext_getI (by rw [frow_length, turn_length, fstep_length, frow_length]) fun k hk => ?_
  rw [frow_length, turn_length] at hk
  obtain ⟨t1, t2, t3, t4⟩ := ring_turns ks.length (by omega) h3 k hk
  have hb : ((ringN ks.length).getD k 0).testBit ((k + 1) % ks.length) = true := by
    rw [ring_bits ks.length (by omega) h3 k hk _ t1]; simp
  have h1 := rise_turned ok h (by rw [ringN_length]) hk t1 hb 1
  rw [frow_get _ (by rw [turn_length]; exact hk), turn_length, fstep_get _ (by rw [frow_length]; exact hk), frow_length, frow_get _ hk, pull_goes h h3 hk, pull_goes h h3 t1]
  show rise ((turns (ringN ks.length) ks 1).getD k 0) ((turns (ringN ks.length) ks 1).getD ((k + 1) % ks.length) 0) = _
  rw [h1]
  have t : ∀ i, (turned (ringN ks.length) ks i 1 : Int) = if pullB (ringN ks.length) ks i = true then 1 else 0 := fun i => by
    show ((0 + (if pullB (ringN ks.length) ks i = true then 1 else 0) : Nat) : Int) = _
    split <;> rfl
  rw [t, t]
theorem fstep_fr {fs : List Int} (h : Fr fs) : Fr (fstep fs) := by
  have h1 := frow_turn (stOf_st 0 h) (by rw [stOf_length]; exact h.lo)
  rw [frow_stOf 0 h] at h1
  rw [← h1]
  exact frow_fr (turn_st _ (stOf_st 0 h)) (by rw [turn_length, stOf_length]; exact h.lo)

/-- How many fronts have a sign; how many there are. -/
def cntI (fs : List Int) (s : Int) : Nat := (fs.filter fun x => decide (x = s)).length
def moves (fs : List Int) : Nat → List Int
  | 0 => fs
  | t + 1 => fstep (moves fs t)
/-- All rows of so many numbers, each -1, 0 or 1. -/
def rows : Nat → List (List Int)
  | 0 => [[]]
  | n + 1 => (rows n).flatMap fun r => [-1 :: r, 0 :: r, 1 :: r]
theorem mem_rows : ∀ (fs : List Int), (∀ k, k < fs.length → -1 ≤ fs.getD k 0 ∧ fs.getD k 0 ≤ 1) → fs ∈ rows fs.length
  | [], _ => by simp [rows]
  | x :: r, h => by
    have h1 : -1 ≤ x ∧ x ≤ 1 := h 0 (by simp)
    have h2 := mem_rows r fun k hk => by simpa using h (k + 1) (by simpa using hk)
    rw [List.length_cons, rows, List.mem_flatMap]
    refine ⟨r, h2, ?_⟩
    have : x = -1 ∨ x = 0 ∨ x = 1 := by omega
    rcases this with rfl | rfl | rfl <;> simp
def chkStep (fs : List Int) : Bool :=
  let g := fstep fs
  decide ((cntI fs 1 : Int) - cntI fs (-1) = (cntI g 1 : Int) - cntI g (-1)) && decide (cntI g 1 ≤ cntI fs 1) && decide (cntI g (-1) ≤ cntI fs (-1))
def turnedRow (fs : List Int) : List Int := fs.drop 1 ++ fs.take 1
def chkEnd (fs : List Int) : Bool :=
  let g := moves fs fs.length
  decide (min (cntI g 1) (cntI g (-1)) = 0) && (decide (cntI fs 1 ≤ cntI fs (-1)) || decide (fstep g = turnedRow g))
/-- Whatever holds of all rows holds of fronts; rows of six by their first two. -/
theorem rows_all {p : List Int → Bool} (h5 : ∀ n, n < 6 → 3 ≤ n → (rows n).all p = true) (h6 : ∀ a b : Int, -1 ≤ a → a ≤ 1 → -1 ≤ b → b ≤ 1 → ((rows 4).all fun r => p (a :: b :: r)) = true) {fs : List Int} (h : Fr fs) : p fs = true := by
  by_cases e : fs.length < 6
  · exact List.all_eq_true.1 (h5 _ e h.lo) fs (mem_rows fs h.sign)
  · have hl : fs.length = 6 := by have := h.hi; omega
    have hs := h.sign
    match fs, hl, hs with
    | a :: b :: r, hl, hs =>
      have ha := hs 0 (by omega)
      have hb := hs 1 (by omega)
      have hr : r ∈ rows r.length := mem_rows r fun k hk => by
        have := hs (k + 2) (by simp only [List.length_cons]; omega)
        simpa using this
      rw [show r.length = 4 by simp at hl; omega] at hr
      exact List.all_eq_true.1 (h6 a b ha.1 ha.2 hb.1 hb.2) r hr

end Nt
end Go.Proofs.Ytlcbpnbehbgbeaa

namespace Go.Proofs.Ytlcbpnbehbgbeaa
namespace Nt

/-- The tour once round a ring. -/
def tourR (n : Nat) : List Nat := (List.range (n + 1)).map fun k => k % n
theorem tourR_length (n : Nat) : (tourR n).length = n + 1 := by simp [tourR]
theorem tourR_get {n k : Nat} (h : k < n + 1) : (tourR n).getD k 0 = k % n := by
  simp [tourR, List.getD_eq_getElem?_getD, h]
theorem tourR_tour {n : Nat} (h3 : 3 ≤ n) (h6 : n ≤ 6) : Tour (ringN n) (tourR n) := by
  refine ⟨by rw [tourR_length]; omega, by rw [tourR_length]; omega, fun k hk => ?_, fun k hk => ?_⟩
  · rw [tourR_length] at hk
    rw [tourR_get hk, ringN_length]
    exact Nat.mod_lt _ (by omega)
  · rw [tourR_length] at hk
    rw [tourR_get (by omega), tourR_get hk, Nat.mod_eq_of_lt (by omega : k < n), ring_bits n (by omega) h3 k (by omega) _ (Nat.mod_lt _ (by omega))]
    simp
theorem tourR_round {n : Nat} : Round (tourR n) := by
  unfold Round
  rw [tourR_length, Nat.add_sub_cancel, tourR_get (by omega), tourR_get (by omega), Nat.mod_self, Nat.zero_mod]
theorem climbTo_ring {ks : List Nat} : ∀ i, i ≤ ks.length → climbTo ks (tourR ks.length) i = sumI (frow ks) i
  | 0, _ => rfl
  | i + 1, hi => by
    rw [climbTo, climbTo_ring i (by omega), sumI, frow_get _ (by omega), tourR_get (by omega), tourR_get (by omega), Nat.mod_eq_of_lt (by omega : i < ks.length)]
theorem climb_ring (ks : List Nat) : climb ks (tourR ks.length) = sumI (frow ks) ks.length := by
  unfold climb
  rw [tourR_length, Nat.add_sub_cancel, climbTo_ring _ (Nat.le_refl _)]
theorem frow_hts {ks : List Nat} {H : Nat → Int} (h3 : 3 ≤ ks.length) (h6 : ks.length ≤ 6) (hh : Hts (ringN ks.length) ks H) : ∀ i, i ≤ ks.length → sumI (frow ks) i = H (i % ks.length) - H 0
  | 0, _ => by
    rw [Nat.zero_mod]
    show (0 : Int) = _
    omega
  | i + 1, hi => by
    have ih := frow_hts h3 h6 hh i (by omega)
    obtain ⟨t1, -, -, -⟩ := ring_turns ks.length (by omega) h3 i (by omega)
    have h1 := hh i _ (by omega) t1 (by rw [ring_bits ks.length (by omega) h3 i (by omega) _ t1]; simp)
    rw [Nat.mod_eq_of_lt (by omega : i < ks.length)] at ih
    rw [sumI, ih, frow_get _ (by omega)]; omega
/-- A ring is flat exactly if it does not wind. -/
theorem ring_flat {ks : List Nat} (h : St 3 ks) (h3 : 3 ≤ ks.length) : Flat (ringN ks.length) ks ↔ sumI (frow ks) ks.length = 0 := by
  have h6 := h.few
  constructor
  · rintro ⟨H, hh⟩
    rw [frow_hts h3 h6 hh _ (Nat.le_refl _), Nat.mod_self]; omega
  · intro h0
    have up : ∀ k, k < ks.length → sumI (frow ks) ((k + 1) % ks.length) - sumI (frow ks) k = rise (ks.getD k 0) (ks.getD ((k + 1) % ks.length) 0) := fun k hk => by
      rw [← frow_get _ hk]
      by_cases e : k + 1 = ks.length
      · rw [e, Nat.mod_self]
        rw [← e, sumI] at h0
        show (0 : Int) - _ = _
        omega
      · rw [Nat.mod_eq_of_lt (by omega), sumI]; omega
    refine ⟨sumI (frow ks), fun k j hk hj hb => ?_⟩
    obtain ⟨t1, t2, t3, t4⟩ := ring_turns ks.length (by omega) h3 k hk
    rw [ring_bits ks.length (by omega) h3 k hk j hj, decide_eq_true_eq] at hb
    rcases hb with rfl | rfl
    · exact up k hk
    · have h1 := up _ t2
      rw [t3] at h1
      have h2 : rise (ks.getD k 0) (ks.getD ((k + ks.length - 1) % ks.length) 0) = - rise (ks.getD ((k + ks.length - 1) % ks.length) 0) (ks.getD k 0) := rise_back
      rw [h2, ← h1]; omega

end Nt
end Go.Proofs.Ytlcbpnbehbgbeaa

namespace Go.Proofs.Ytlcbpnbehbgbeaa
namespace Nt

/-- How many rows of so many numbers, each -1, 0 or 1, have a sum. -/
def ways : Nat → Int → Nat
  | 0, s => if s = 0 then 1 else 0
  | n + 1, s => ways n (s - 1) + ways n s + ways n (s + 1)
theorem ways_neg : ∀ n s, ways n (-s) = ways n s
  | 0, s => by unfold ways; by_cases h : s = 0
               · rw [if_pos h, if_pos (by omega)]
               · rw [if_neg h, if_neg (by omega)]
  | n + 1, s => by
    rw [ways, ways, show -s - 1 = -(s + 1) by omega, show -s + 1 = -(s - 1) by omega, ways_neg n, ways_neg n, ways_neg n]; omega
/-- What one climbs from a kind through others. -/
def pathS : Nat → List Nat → Int
  | _, [] => 0
  | x, y :: r => rise x y + pathS y r
def lastOf : Nat → List Nat → Nat
  | x, [] => x
  | _, y :: r => lastOf y r
theorem lastOf_lt : ∀ {x : Nat} {l : List Nat}, x < 3 → (∀ y ∈ l, y < 3) → lastOf x l < 3
  | _, [], hx, _ => hx
  | _, y :: r, _, h => lastOf_lt (x := y) (l := r) (h y (by simp)) (fun z hz => h z (by simp [hz]))
theorem pathS_mod : ∀ (x : Nat) (l : List Nat), pathS x l % 3 = ((lastOf x l : Int) - (x : Int)) % 3
  | x, [] => by
    show (0 : Int) % 3 = ((x : Int) - (x : Int)) % 3
    omega
  | x, y :: r => by
    have ih := pathS_mod y r
    rw [pathS, lastOf]
    unfold rise
    omega
theorem pathS_end : ∀ (x : Nat) (l : List Nat) (b : Nat), pathS x (l ++ [b]) = pathS x l + rise (lastOf x l) b
  | x, [], b => by
    show rise x b + 0 = 0 + rise x b
    omega
  | x, y :: r, b => by
    have ih := pathS_end y r b
    show rise x y + pathS y (r ++ [b]) = rise x y + pathS y r + rise (lastOf y r) b
    omega
theorem sum_three (f : Nat → Nat) : ∀ n, sumTo f (3 * n) = sumTo (fun q => f (3 * q) + f (3 * q + 1) + f (3 * q + 2)) n
  | 0 => rfl
  | n + 1 => by
    rw [show 3 * (n + 1) = 3 * n + 1 + 1 + 1 by omega, sumTo, sumTo, sumTo, sum_three f n, sumTo]
    omega
theorem digits_three (q d n : Nat) (h : d < 3) : digits 3 (3 * q + d) (n + 1) = d :: digits 3 q n := by
  rw [digits_cons, show (3 * q + d) % 3 = d by omega, show (3 * q + d) / 3 = q by omega]
theorem digits_mem {c m n : Nat} (hc : 0 < c) : ∀ y ∈ digits c m n, y < c := by
  intro y hy
  unfold digits at hy
  rw [List.mem_map] at hy
  obtain ⟨k, -, rfl⟩ := hy
  exact Nat.mod_lt _ hc
/-- From each kind as many ways climb so much as there are rows. -/
theorem count_path : ∀ (n x : Nat) (s : Int), x < 3 → sumTo (fun m => if pathS x (digits 3 m n) = s then 1 else 0) (3 ^ n) = ways n s
  | 0, x, s, _ => by
    show 0 + (if (0 : Int) = s then 1 else 0) = if s = 0 then 1 else 0
    by_cases h : s = 0
    · rw [if_pos h, if_pos h.symm]
    · rw [if_neg h, if_neg (fun e => h e.symm)]
  | n + 1, x, s, hx => by
    have key : ∀ d, d < 3 → sumTo (fun q => if pathS x (digits 3 (3 * q + d) (n + 1)) = s then 1 else 0) (3 ^ n) = ways n (s - rise x d) := fun d hd => by
      rw [← count_path n d (s - rise x d) hd]
      refine sumTo_congr _ fun q _ => ?_
      rw [digits_three q d n hd, pathS]
      by_cases e : rise x d + pathS d (digits 3 q n) = s
      · rw [if_pos e, if_pos (by omega)]
      · rw [if_neg e, if_neg (by omega)]
    have k0 := key 0 (by omega)
    have k1 := key 1 (by omega)
    have k2 := key 2 (by omega)
    rw [Nat.pow_succ, Nat.mul_comm, sum_three, sumTo_add, sumTo_add]
    simp only [Nat.add_zero] at k0
    rw [k0, k1, k2, ways]
    have hx3 : x = 0 ∨ x = 1 ∨ x = 2 := by omega
    rcases hx3 with rfl | rfl | rfl
    · rw [show rise 0 0 = 0 by decide, show rise 0 1 = 1 by decide, show rise 0 2 = -1 by decide, Int.sub_zero, show s - -1 = s + 1 by omega]; omega
    · rw [show rise 1 0 = -1 by decide, show rise 1 1 = 0 by decide, show rise 1 2 = 1 by decide, Int.sub_zero, show s - -1 = s + 1 by omega]; omega
    · rw [show rise 2 0 = 1 by decide, show rise 2 1 = -1 by decide, show rise 2 2 = 0 by decide, Int.sub_zero, show s - -1 = s + 1 by omega]; omega
/-- Round a ring. -/
theorem count_round (n a : Nat) (w : Int) (ha : a < 3) : sumTo (fun m => if pathS a (digits 3 m n ++ [a]) = 3 * w then 1 else 0) (3 ^ n) = ways (n + 1) (3 * w) := by
  rw [ways, ← count_path n a (3 * w - 1) ha, ← count_path n a (3 * w) ha, ← count_path n a (3 * w + 1) ha, ← sumTo_add, ← sumTo_add]
  refine sumTo_congr _ fun m _ => ?_
  have h1 := pathS_mod a (digits 3 m n)
  have h2 := lastOf_lt (l := digits 3 m n) ha (digits_mem (by omega))
  rw [pathS_end]
  generalize pathS a (digits 3 m n) = p at *
  generalize lastOf a (digits 3 m n) = l at *
  unfold rise
  have h4 : ((a : Int) - (l : Int) + 4) % 3 - 1 = 0 ∨ ((a : Int) - (l : Int) + 4) % 3 - 1 = 1 ∨ ((a : Int) - (l : Int) + 4) % 3 - 1 = -1 := by omega
  by_cases e : p + (((a : Int) - (l : Int) + 4) % 3 - 1) = 3 * w
  · rw [if_pos e]
    rcases h4 with h4 | h4 | h4
    · rw [if_neg (by omega), if_pos (by omega), if_neg (by omega)]
    · rw [if_pos (by omega), if_neg (by omega), if_neg (by omega)]
    · rw [if_neg (by omega), if_neg (by omega), if_pos (by omega)]
  · rw [if_neg e, if_neg (by omega), if_neg (by omega), if_neg (by omega)]
theorem sumI_path : ∀ (l : List Nat) (x : Nat) (g : List Int), (∀ i, i < l.length → g.getD i 0 = rise ((x :: l).getD i 0) (l.getD i 0)) → sumI g l.length = pathS x l
  | [], _, _, _ => rfl
  | y :: r, x, g, h => by
    have e : ∀ n, sumI g (n + 1) = g.getD 0 0 + sumI (g.drop 1) n := by
      intro n
      induction n with
      | zero => show 0 + g.getD 0 0 = g.getD 0 0 + 0; omega
      | succ n ih =>
        rw [sumI, ih, sumI]
        have : (g.drop 1).getD n 0 = g.getD (n + 1) 0 := by
          rw [List.getD_eq_getElem?_getD, List.getElem?_drop, ← List.getD_eq_getElem?_getD, Nat.add_comm]
        rw [this]; omega
    rw [List.length_cons, e, h 0 (by simp), sumI_path r y (g.drop 1) fun i hi => ?_]
    · rfl
    · have h1 := h (i + 1) (by simp; omega)
      rw [List.getD_eq_getElem?_getD, List.getElem?_drop, ← List.getD_eq_getElem?_getD, Nat.add_comm, h1]
      simp
theorem frow_path (x : Nat) (l : List Nat) : sumI (frow (x :: l)) (x :: l).length = pathS x (l ++ [x]) := by
  have hlen : (x :: l).length = (l ++ [x]).length := by simp
  rw [hlen]
  refine sumI_path (l ++ [x]) x _ fun i hi => ?_
  rw [← hlen] at hi
  rw [frow_get _ hi]
  have hi2 : i < l.length + 1 := by simpa using hi
  congr 1
  · rw [List.getD_eq_getElem?_getD, List.getD_eq_getElem?_getD, ← List.cons_append, List.getElem?_append_left hi]
  · by_cases e : i = l.length
    · subst e
      rw [List.length_cons, Nat.mod_self, List.getD_eq_getElem?_getD, List.getD_eq_getElem?_getD, List.getElem?_append_right (Nat.le_refl _)]
      simp
    · rw [List.length_cons, Nat.mod_eq_of_lt (by omega), List.getD_eq_getElem?_getD, List.getD_eq_getElem?_getD, List.getElem?_append_left (by omega)]
      simp
/-- All states wind somehow: so many of them so often. -/
theorem count_ring (n : Nat) (w : Int) : sumTo (fun m => if sumI (frow (digits 3 m (n + 1))) (n + 1) = 3 * w then 1 else 0) (3 ^ (n + 1)) = 3 * ways (n + 1) (3 * w) := by
  have key : ∀ d, d < 3 → sumTo (fun q => if sumI (frow (digits 3 (3 * q + d) (n + 1))) (n + 1) = 3 * w then 1 else 0) (3 ^ n) = ways (n + 1) (3 * w) := fun d hd => by
    rw [← count_round n d w hd]
    refine sumTo_congr _ fun q _ => ?_
    have h1 := frow_path d (digits 3 q n)
    rw [List.length_cons, digits_length] at h1
    rw [digits_three q d n hd, h1]
  have k0 := key 0 (by omega)
  have k1 := key 1 (by omega)
  have k2 := key 2 (by omega)
  simp only [Nat.add_zero] at k0
  rw [Nat.pow_succ, Nat.mul_comm (3 ^ n), sum_three, sumTo_add, sumTo_add, k0, k1, k2]; omega

end Nt
end Go.Proofs.Ytlcbpnbehbgbeaa

namespace Go.Proofs.Ytlcbpnbehbgbeaa
namespace Nt

theorem sumI_bounds {fs : List Int} : ∀ k, (∀ i, i < k → -1 ≤ fs.getD i 0 ∧ fs.getD i 0 ≤ 1) → -(k : Int) ≤ sumI fs k ∧ sumI fs k ≤ (k : Int)
  | 0, _ => by show -((0 : Nat) : Int) ≤ 0 ∧ (0 : Int) ≤ ((0 : Nat) : Int); omega
  | k + 1, h => by
    have ih := sumI_bounds (fs := fs) k (fun i hi => h i (by omega))
    have h1 := h k (by omega)
    rw [sumI]
    omega
/-- What FrontsOk answers. -/
def signsTo (fs : List Int) (k : Nat) : Prop := ∀ i, i < k → -1 ≤ fs.getD i 0 ∧ fs.getD i 0 ≤ 1
theorem signsTo_succ {fs : List Int} {k : Nat} (h : signsTo fs k) (h1 : -1 ≤ fs.getD k 0 ∧ fs.getD k 0 ≤ 1) : signsTo fs (k + 1) := fun i hi => by
  by_cases e : i = k
  · subst e; exact h1
  · exact h i (by omega)
def frB (fs : List Int) : Bool := decide (3 ≤ fs.length ∧ fs.length ≤ 6) && ((List.range fs.length).all fun k => decide (-1 ≤ fs.getD k 0 ∧ fs.getD k 0 ≤ 1)) && decide (sumI fs fs.length % 3 = 0)
theorem frB_iff (fs : List Int) : frB fs = true ↔ Fr fs := by
  unfold frB
  rw [Bool.and_eq_true, Bool.and_eq_true, decide_eq_true_iff, decide_eq_true_iff, List.all_eq_true]
  constructor
  · rintro ⟨⟨⟨h1, h2⟩, h3⟩, h4⟩
    exact ⟨h1, h2, fun k hk => by simpa using h3 k (List.mem_range.2 hk), h4⟩
  · intro h
    exact ⟨⟨⟨h.lo, h.hi⟩, fun k hk => by simpa using h.sign k (List.mem_range.1 hk)⟩, h.sum⟩
theorem frB_yes {fs : List Int} (h : Fr fs) : frB fs = true := (frB_iff fs).2 h
theorem frB_no {fs : List Int} (h : ¬ Fr fs) : frB fs = false := by
  cases e : frB fs
  · rfl
  · exact absurd ((frB_iff fs).1 e) h
theorem frB_no1 {fs : List Int} {k : Nat} (hk : k < fs.length) (h : ¬ (-1 ≤ fs.getD k 0 ∧ fs.getD k 0 ≤ 1)) : frB fs = false := frB_no fun f => h (f.sign k hk)
theorem frB_no2 {fs : List Int} (h : ¬ (3 ≤ fs.length ∧ fs.length ≤ 6)) : frB fs = false := frB_no fun f => h ⟨f.lo, f.hi⟩
theorem frB_end {fs : List Int} (h : signsTo fs fs.length) : frB fs = (decide (3 ≤ fs.length ∧ fs.length ≤ 6) && decide (sumI fs fs.length % 3 = 0)) := by
  unfold frB
  rw [List.all_eq_true.2 (fun k hk => by simpa using h k (List.mem_range.1 hk)), Bool.and_true]
/-- What FrontRow answers. -/
def rowB (ys : List Int) : Bool := stB 3 ys && decide (3 ≤ ys.length)
theorem rowB_ok {ys : List Int} (h : rowB ys = true) : ∃ ks, ys = nats ks ∧ St 3 ks ∧ 3 ≤ ks.length := by
  unfold rowB at h
  rw [Bool.and_eq_true, decide_eq_true_iff] at h
  obtain ⟨ks, rfl, st⟩ := stB3_st h.1
  exact ⟨ks, rfl, st, by have := h.2; rw [nats_length] at this; exact this⟩
theorem rowB_yes {ks : List Nat} (st : St 3 ks) (h3 : 3 ≤ ks.length) : rowB (nats ks) = true := by
  unfold rowB
  rw [st_stB3 st, Bool.true_and, decide_eq_true_iff, nats_length]
  exact h3
def frontsOf (ys : List Int) : List Int := if rowB ys = true then frow (ys.map Int.toNat) else []
theorem frontsOf_ok {ks : List Nat} (st : St 3 ks) (h3 : 3 ≤ ks.length) : frontsOf (nats ks) = frow ks := by
  unfold frontsOf; rw [if_pos (rowB_yes st h3), nats_toNat]
theorem frontsOf_no {ys : List Int} (h : rowB ys = false) : frontsOf ys = [] := by unfold frontsOf; rw [if_neg (by simp [h])]
theorem frontsOf_small (ys : List Int) : (frontsOf ys).length ≤ 6 := by
  cases h : rowB ys
  · rw [frontsOf_no h]; simp
  · obtain ⟨ks, rfl, st, h3⟩ := rowB_ok h
    rw [frontsOf_ok st h3, frow_length]
    exact st.few
theorem frontsOf_sign (ys : List Int) (k : Nat) : -1 ≤ (frontsOf ys).getD k 0 ∧ (frontsOf ys).getD k 0 ≤ 1 := by
  cases h : rowB ys
  · rw [frontsOf_no h]; simp
  · obtain ⟨ks, rfl, st, h3⟩ := rowB_ok h
    rw [frontsOf_ok st h3]
    by_cases hk : k < (frow ks).length
    · exact (frow_fr st h3).sign k hk
    · rw [List.getD_eq_getElem?_getD, List.getElem?_eq_none (by omega)]
      simp
/-- What FrontStep answers. -/
def fstepOf (fs : List Int) : List Int := if frB fs = true then fstep fs else []
theorem fstepOf_ok {fs : List Int} (h : Fr fs) : fstepOf fs = fstep fs := by unfold fstepOf; rw [if_pos (frB_yes h)]
theorem fstepOf_no {fs : List Int} (h : frB fs = false) : fstepOf fs = [] := by unfold fstepOf; rw [if_neg (by simp [h])]
theorem fstepOf_small (fs : List Int) : (fstepOf fs).length ≤ 6 := by
  cases h : frB fs
  · rw [fstepOf_no h]; simp
  · have hf := (frB_iff fs).1 h
    rw [fstepOf_ok hf, fstep_length]
    exact hf.hi
/-- What StateOfFronts answers. -/
def sfB (a : Int) (fs : List Int) : Bool := frB fs && inB 3 a
def stFrOf (a : Int) (fs : List Int) : List Int := if sfB a fs = true then nats (stOf a.toNat fs) else []
theorem stFrOf_ok {a : Nat} {fs : List Int} (h : Fr fs) (ha : a < 3) : stFrOf (a : Int) fs = nats (stOf a fs) := by
  unfold stFrOf sfB
  rw [frB_yes h, inB_yes ha, Bool.true_and, if_pos rfl, Int.toNat_natCast]
theorem stFrOf_no {a : Int} {fs : List Int} (h : sfB a fs = false) : stFrOf a fs = [] := by unfold stFrOf; rw [if_neg (by simp [h])]
theorem stFrOf_no1 {a : Int} {fs : List Int} (h : frB fs = false) : stFrOf a fs = [] := stFrOf_no (by unfold sfB; rw [h, Bool.false_and])
theorem stFrOf_no2 {a : Int} {fs : List Int} (h : inB 3 a = false) : stFrOf a fs = [] := stFrOf_no (by unfold sfB; rw [h, Bool.and_false])
theorem sfB_ok {a : Int} {fs : List Int} (h : sfB a fs = true) : ∃ x : Nat, a = (x : Int) ∧ x < 3 ∧ Fr fs := by
  unfold sfB at h
  rw [Bool.and_eq_true] at h
  obtain ⟨x, hx, hx3⟩ := inB_ok h.2
  exact ⟨x, hx, hx3, (frB_iff fs).1 h.1⟩
theorem stFrOf_small (a : Int) (fs : List Int) : (stFrOf a fs).length ≤ 6 := by
  cases h : sfB a fs
  · rw [stFrOf_no h]; simp
  · obtain ⟨x, rfl, hx, hf⟩ := sfB_ok h
    rw [stFrOf_ok hf hx, nats_length, stOf_length]
    exact hf.hi
/-- What RingWinding answers. -/
def rwindOf (ys : List Int) : Int := sumI (frontsOf ys) (frontsOf ys).length / 3
theorem rwindOf_ok {ks : List Nat} (st : St 3 ks) (h3 : 3 ≤ ks.length) : rwindOf (nats ks) = sumI (frow ks) ks.length / 3 := by
  unfold rwindOf; rw [frontsOf_ok st h3, frow_length]
theorem rwindOf_no {ys : List Int} (h : rowB ys = false) : rwindOf ys = 0 := by unfold rwindOf; rw [frontsOf_no h]; rfl
theorem rwind_three {ks : List Nat} (st : St 3 ks) (h3 : 3 ≤ ks.length) : sumI (frow ks) ks.length = 3 * (sumI (frow ks) ks.length / 3) := by
  have h := (frow_fr st h3).sum
  rw [frow_length] at h
  omega
theorem rwind_small {ks : List Nat} (st : St 3 ks) (h3 : 3 ≤ ks.length) : -2 ≤ sumI (frow ks) ks.length / 3 ∧ sumI (frow ks) ks.length / 3 ≤ 2 := by
  have h := sumI_bounds (fs := frow ks) ks.length (fun i hi => (frow_fr st h3).sign i (by rw [frow_length]; exact hi))
  have := st.few
  omega
theorem rwind_is {ks : List Nat} (st : St 3 ks) (h3 : 3 ≤ ks.length) : windOf (nats (ringN ks.length)) (nats ks) (nats (tourR ks.length)) = rwindOf (nats ks) ∧ windB (nats (ringN ks.length)) (nats ks) (nats (tourR ks.length)) = true := by
  have h6 := st.few
  have ok := ring_ok h3 h6
  have hl : ks.length = (ringN ks.length).length := by rw [ringN_length]
  rw [windOf_ok ok st hl (tourR_tour h3 h6) tourR_round, rwindOf_ok st h3, climb_ring]
  exact ⟨rfl, windB_yes ok st hl (tourR_tour h3 h6) tourR_round⟩
theorem rwind_flat {ks : List Nat} (st : St 3 ks) (h3 : 3 ≤ ks.length) : decide (rwindOf (nats ks) = 0) = flatOf (nats (ringN ks.length)) (nats ks) := by
  have ok := ring_ok h3 st.few
  have hl : ks.length = (ringN ks.length).length := by rw [ringN_length]
  have h1 := rwind_three st h3
  have h2 := ring_flat st h3
  rw [rwindOf_ok st h3]
  by_cases hf : Flat (ringN ks.length) ks
  · rw [flatOf_yes ok st hl hf]
    have := h2.1 hf
    exact decide_eq_true (by omega)
  · rw [flatOf_no ok st hl hf]
    have : ¬ sumI (frow ks) ks.length = 0 := fun e => hf (h2.2 e)
    exact decide_eq_false (by omega)
/-- What RingStates answers. -/
def rstB (n w : Int) : Bool := decide (3 ≤ n ∧ n ≤ 6) && decide (-6 ≤ w ∧ w ≤ 6)
def rstOf (n w : Int) : Int := if rstB n w = true then ((3 * ways n.toNat (3 * w) : Nat) : Int) else -1
theorem rstOf_ok {n : Nat} {w : Int} (h1 : 3 ≤ n) (h2 : n ≤ 6) (h3 : -6 ≤ w) (h4 : w ≤ 6) : rstOf (n : Int) w = ((3 * ways n (3 * w) : Nat) : Int) := by
  unfold rstOf rstB
  rw [decide_eq_true (by omega : 3 ≤ (n : Int) ∧ (n : Int) ≤ 6), decide_eq_true (⟨h3, h4⟩ : -6 ≤ w ∧ w ≤ 6), Bool.true_and, if_pos rfl, Int.toNat_natCast]
theorem rstOf_no {n w : Int} (h : rstB n w = false) : rstOf n w = -1 := by unfold rstOf; rw [if_neg (by simp [h])]
theorem rstB_ok {n w : Int} (h : rstB n w = true) : ∃ m : Nat, n = (m : Int) ∧ 3 ≤ m ∧ m ≤ 6 ∧ -6 ≤ w ∧ w ≤ 6 := by
  unfold rstB at h
  rw [Bool.and_eq_true, decide_eq_true_iff, decide_eq_true_iff] at h
  exact ⟨n.toNat, by omega, by omega, by omega, h.2.1, h.2.2⟩
theorem ways_le : ∀ n s, ways n s ≤ 3 ^ n
  | 0, s => by unfold ways; split <;> simp
  | n + 1, s => by
    have h1 := ways_le n (s - 1)
    have h2 := ways_le n s
    have h3 := ways_le n (s + 1)
    rw [ways, Nat.pow_succ]
    omega
theorem rstOf_neg (n w : Int) : rstOf n (-w) = rstOf n w := by
  cases h : rstB n w
  · rw [rstOf_no h]
    refine rstOf_no ?_
    unfold rstB at *
    rw [← h]
    congr 1
    rw [Bool.eq_iff_iff, decide_eq_true_iff, decide_eq_true_iff]
    omega
  · obtain ⟨m, rfl, h1, h2, h3, h4⟩ := rstB_ok h
    rw [rstOf_ok h1 h2 h3 h4, rstOf_ok h1 h2 (by omega) (by omega), show 3 * -w = -(3 * w) by omega, ways_neg]
/-- What FrontCount answers. -/
def fcB (fs : List Int) (s : Int) : Bool := frB fs && (decide (s = 1) || decide (s = -1))
def fcOf (fs : List Int) (s : Int) : Int := if fcB fs s = true then ((cntI fs s : Nat) : Int) else -1
theorem fcOf_ok {fs : List Int} (h : Fr fs) {s : Int} (hs : s = 1 ∨ s = -1) : fcOf fs s = ((cntI fs s : Nat) : Int) := by
  unfold fcOf fcB
  rw [frB_yes h, Bool.true_and]
  rcases hs with rfl | rfl <;> rfl
theorem fcOf_no {fs : List Int} {s : Int} (h : fcB fs s = false) : fcOf fs s = -1 := by unfold fcOf; rw [if_neg (by simp [h])]
theorem fcOf_no1 {fs : List Int} {s : Int} (h : frB fs = false) : fcOf fs s = -1 := fcOf_no (by unfold fcB; rw [h, Bool.false_and])
theorem fcOf_no2 {fs : List Int} {s : Int} (h1 : s ≠ 1) (h2 : s ≠ -1) : fcOf fs s = -1 := fcOf_no (by unfold fcB; rw [decide_eq_false h1, decide_eq_false h2]; simp)
/-- How many numbers so far are the one asked for. -/
def fcTo (fs : List Int) (s : Int) : Nat → Nat
  | 0 => 0
  | k + 1 => fcTo fs s k + if fs.getD k 0 = s then 1 else 0
theorem fcTo_le (fs : List Int) (s : Int) : ∀ k, fcTo fs s k ≤ k
  | 0 => Nat.le_refl _
  | k + 1 => by
    have := fcTo_le fs s k
    rw [fcTo]
    split <;> omega
theorem fcTo_take (fs : List Int) (s : Int) : ∀ k, k ≤ fs.length → fcTo fs s k = cntI (fs.take k) s
  | 0, _ => rfl
  | k + 1, h => by
    have ih := fcTo_take fs s k (by omega)
    have e : fs.take (k + 1) = fs.take k ++ [fs.getD k 0] := by
      rw [List.take_succ_eq_append_getElem (by omega)]
      simp [List.getD_eq_getElem?_getD, (by omega : k < fs.length)]
    rw [fcTo, e, ih]
    unfold cntI
    rw [List.filter_append, List.length_append]
    generalize fs.getD k 0 = x
    by_cases e1 : x = s
    · subst e1; simp
    · simp [e1]
theorem fcTo_all (fs : List Int) (s : Int) : fcTo fs s fs.length = cntI fs s := by
  rw [fcTo_take fs s _ (Nat.le_refl _), List.take_length]
end Nt
end Go.Proofs.Ytlcbpnbehbgbeaa
