/-
  Walks: the neighbours of a set.
  Walks: what a net is, by the program.
  Walks: NetOk of the program.
  Walks: NetOk of the model.
  Walks: what a state is, by the program and by the model.
  Walks: counts of kinds, by the program and by the model.
  Walks: states of numbers, by the program and by the model.
  Walks: raised states, by the program and by the model.
  Walks: lit states, by the program and by the model.
-/
import Derived.Test.YtilbdpcijdcffaaDoorKA
import Derived.Deep.QuietTactic
import Derived.BigQuiet
import Derived.Test.YtilbdpcijdcffaaDoorPA
import Derived.StillTailTactics
namespace Go.Proofs.YtilbdpcijdcffaaDoor
open Go.RowKit

end Go.Proofs.YtilbdpcijdcffaaDoor

namespace Go.Proofs.YtilbdpcijdcffaaDoor
open Go.RowKit

open Nt (badB goodTo bothB bothB_yes bothB_no goodTo_succ)

set_option maxHeartbeats 1000000 in
set_option maxRecDepth 100000 in
theorem nearBothWays_any (xs : List Int) (i : Nat) (hi : i < xs.length) (h6 : xs.length ≤ 6) (w : World) (v : Value) (base : Nat) (hs : Sl w base v xs) :
    Calls Tryd.prog 38 #[v, .int .i64 i] w fun e w' => e = .returned (.bool (bothB xs i)) ∧ w = w' := by
  rcases hs.form with ⟨_, rfl⟩ | ⟨g, cap, rfl, _, _, _, _, hc, _⟩
  · simp at hi
  have hci := hc i hi
  have HC := Lib.hid hc
  clear hc hs
  generalize ha : xs.getD i 0 = a at *
  have HA := Lib.hid ha
  clear ha
  go_enter Tryd.func38, Tryd.ntmps38
  go_wp2
  go_loop [8] (fun n => ∃ k : Nat, k ≤ xs.length ∧ n = .int .i64 k ∧ goodTo xs i k) (fun n => xs.length - (intOf n).toNat)
  case atStart => exact ⟨0, Nat.zero_le _, rfl, fun j hj => absurd hj (by omega)⟩
  case round =>
    obtain ⟨k, hk, rfl, hgood⟩ := hrel
    by_cases hlt : k < xs.length
    · have hck := HC.out k hlt
      generalize hb : xs.getD k 0 = b at *
      have HB := Lib.hid hb
      have HG := Lib.hid hgood
      clear hb hgood
      have fin : ∀ r, badB xs i k = r ↔ (Nt.bit a k && (k == i || !Nt.bit b i)) = r := by
        intro r; unfold badB; rw [HA.out, HB.out]
      have FIN := Lib.hid fin
      clear fin
      by_cases h1 : Nt.bit a k = true
      · by_cases h2 : k = i
        · have h2' : ((k : Int) == (i : Int)) = true := by rw [h2]; simp
          have H2 := Lib.hid h2
          clear h2
          go_wp2_with (go_at_call 45; refine (hasNode_int _ _ _ (by omega)).mono ?_; rintro e w' ⟨rfl, rfl⟩)
          go_ret
          exact ⟨by rw [bothB_no (j := k) hlt ((FIN.out _).2 (by rw [h1]; simp [H2.out]))]; rfl, rfl⟩
        · have h2' : ((k : Int) == (i : Int)) = false := by simp; omega
          have H2 := Lib.hid h2
          clear h2
          by_cases h3 : Nt.bit b i = true
          · go_wp2_with (go_at_call 45; refine (hasNode_int _ _ _ (by omega)).mono ?_; rintro e w' ⟨rfl, rfl⟩)
            go_round
            case rel => exact ⟨k + 1, by omega, by go_num, goodTo_succ HG.out ((FIN.out _).2 (by simp [h1, H2.out, h3]))⟩
            case measure => simp [intOf]; omega
          · have h3' : Nt.bit b i = false := by simpa using h3
            clear h3
            go_wp2_with (go_at_call 45; refine (hasNode_int _ _ _ (by omega)).mono ?_; rintro e w' ⟨rfl, rfl⟩)
            go_ret
            exact ⟨by rw [bothB_no (j := k) hlt ((FIN.out _).2 (by simp [h1, h3']))]; rfl, rfl⟩
      · have h1' : Nt.bit a k = false := by simpa using h1
        clear h1
        go_wp2_with (go_at_call 45; refine (hasNode_int _ _ _ (by omega)).mono ?_; rintro e w' ⟨rfl, rfl⟩)
        go_round
        case rel => exact ⟨k + 1, by omega, by go_num, goodTo_succ HG.out ((FIN.out _).2 (by simp [h1']))⟩
        case measure => simp [intOf]; omega
    · have hk' : k = xs.length := by omega
      subst hk'
      have HG := Lib.hid hgood
      clear hgood
      go_wp2
      go_ret
      exact ⟨by rw [bothB_yes HG.out]; rfl, rfl⟩
end Go.Proofs.YtilbdpcijdcffaaDoor

namespace Go.Proofs.YtilbdpcijdcffaaDoor
open Go.RowKit
open Nt (okB bothB)

/-- The first k nodes are as they should be. -/
def fineTo (xs : List Int) (k : Nat) : Prop := ∀ i, i < k → (0 ≤ xs.getD i 0 ∧ xs.getD i 0 < 2 ^ xs.length) ∧ bothB xs i = true

theorem fineTo_succ {xs : List Int} {k : Nat} (h : fineTo xs k) (h1 : 0 ≤ xs.getD k 0 ∧ xs.getD k 0 < 2 ^ xs.length) (h2 : bothB xs k = true) : fineTo xs (k + 1) := by
  intro j hj
  by_cases e : j = k
  · subst e; exact ⟨h1, h2⟩
  · exact h j (by omega)

set_option maxHeartbeats 1000000 in
set_option maxRecDepth 100000 in
theorem iNetOk_any (xs : List Int) (w : World) (v : Value) (base : Nat) (hs : Sl w base v xs) :
    Calls Tryd.prog 24 #[v] w fun e w' => e = .returned (.bool (okB xs)) ∧ w = w' := by
  rcases hs.form with ⟨rfl, rfl⟩ | ⟨g, cap, rfl, _, _, hcap, hmax, hc, _⟩
  · go_enter Tryd.func24, Tryd.ntmps24
    go_wp2
    go_ret
    exact ⟨by rw [Nt.not_ok_len (by simp)]; rfl, rfl⟩
  by_cases hl : xs.length < 1 ∨ 6 < xs.length
  · have hno := Nt.not_ok_len hl
    have HNO := Lib.hid hno
    clear hno hc
    rcases hl with h1 | h1
    · have h0 : (xs.length : Int) < 1 := by omega
      go_enter Tryd.func24, Tryd.ntmps24
      go_wp2
      go_ret
      exact ⟨by rw [HNO.out]; rfl, rfl⟩
    · have h0 : ¬ (xs.length : Int) < 1 := by omega
      have h2 : (6 : Int) < (xs.length : Int) := by omega
      go_enter Tryd.func24, Tryd.ntmps24
      go_wp2
      go_ret
      exact ⟨by rw [HNO.out]; rfl, rfl⟩
  · have l1 : 1 ≤ xs.length := by omega
    have l6 : xs.length ≤ 6 := by omega
    have HC := Lib.hid hc
    have HS := Lib.hid hs
    clear hc hs hl
    go_enter Tryd.func24, Tryd.ntmps24
    go_wp2
    go_loop [15] (fun n => ∃ k : Nat, k ≤ xs.length ∧ n = .int .i64 k ∧ fineTo xs k) (fun n => xs.length - (intOf n).toNat)
    case atStart => exact ⟨0, Nat.zero_le _, rfl, fun j hj => absurd hj (by omega)⟩
    case round =>
      obtain ⟨k, hk, rfl, hfine⟩ := hrel
      by_cases hlt : k < xs.length
      · have hck := HC.out k hlt
        have HF := Lib.hid hfine
        clear hfine
        generalize hb : xs.getD k 0 = b at *
        have HB := Lib.hid hb
        clear hb
        by_cases h1 : 0 ≤ b ∧ b < 2 ^ xs.length
        · have h1' : decide (0 ≤ b ∧ b < 2 ^ (xs.length : Int).toNat) = true := by simpa using h1
          have H1 := Lib.hid h1
          clear h1
          by_cases h2 : bothB xs k = true
          · go_wp2_with (first | (go_at_call 37; refine (setOk_any _ _ _ (by omega) (by omega)).mono ?_; rintro e w' ⟨rfl, rfl⟩; rw [h1']) | (go_at_call 38; refine (nearBothWays_any xs k hlt l6 _ _ base HS.out).mono ?_; rintro e w' ⟨rfl, rfl⟩))
            go_round
            case rel => exact ⟨k + 1, by omega, by go_num, fineTo_succ HF.out (by rw [HB.out]; exact H1.out) h2⟩
            case measure => simp [intOf]; omega
          · have h2' : bothB xs k = false := by simpa using h2
            clear h2
            go_wp2_with (first | (go_at_call 37; refine (setOk_any _ _ _ (by omega) (by omega)).mono ?_; rintro e w' ⟨rfl, rfl⟩; rw [h1']) | (go_at_call 38; refine (nearBothWays_any xs k hlt l6 _ _ base HS.out).mono ?_; rintro e w' ⟨rfl, rfl⟩))
            go_ret
            exact ⟨by rw [Nt.not_ok_both hlt h2']; rfl, rfl⟩
        · have h1' : decide (0 ≤ b ∧ b < 2 ^ (xs.length : Int).toNat) = false := by simpa using h1
          have hno := Nt.not_ok_fit hlt (by rw [HB.out]; exact h1)
          have HNO := Lib.hid hno
          clear h1 hno
          go_wp2_with (go_at_call 37; refine (setOk_any _ _ _ (by omega) (by omega)).mono ?_; rintro e w' ⟨rfl, rfl⟩; rw [h1'])
          go_ret
          exact ⟨by rw [HNO.out]; rfl, rfl⟩
      · have hk' : k = xs.length := by omega
        subst hk'
        have HF := Lib.hid hfine
        clear hfine
        go_wp2
        go_ret
        exact ⟨by rw [Nt.ok_of l1 l6 (fun k hk => (HF.out k hk).1) (fun k hk => (HF.out k hk).2)]; rfl, rfl⟩
end Go.Proofs.YtilbdpcijdcffaaDoor

namespace Go.Proofs.YtilbdpcijdcffaaDoor
open Go.RowKit
open Nt (okB bothB)

/-- The first k sets are of the nodes of the net. -/
def fitTo (xs : List Int) (k : Nat) : Prop := ∀ i, i < k → 0 ≤ xs.getD i 0 ∧ xs.getD i 0 < 2 ^ xs.length

theorem fitTo_succ {xs : List Int} {k : Nat} (h : fitTo xs k) (h1 : 0 ≤ xs.getD k 0 ∧ xs.getD k 0 < 2 ^ xs.length) : fitTo xs (k + 1) := by
  intro j hj
  by_cases e : j = k
  · subst e; exact h1
  · exact h j (by omega)

def bothTo (xs : List Int) (k : Nat) : Prop := ∀ i, i < k → bothB xs i = true

theorem bothTo_succ {xs : List Int} {k : Nat} (h : bothTo xs k) (h1 : bothB xs k = true) : bothTo xs (k + 1) := by
  intro j hj
  by_cases e : j = k
  · subst e; exact h1
  · exact h j (by omega)

end Go.Proofs.YtilbdpcijdcffaaDoor

namespace Go.Proofs.YtilbdpcijdcffaaDoor
open Go.RowKit
open Nt (stB stB_iff stB_no kindTo kindTo_succ)

set_option maxHeartbeats 400000 in
set_option maxRecDepth 100000 in
theorem nodesOk_any (n : Int) (w : World) :
    Calls Tryd.prog 21 #[.int .i64 n] w fun e w' => e = .returned (.bool (decide (1 ≤ n ∧ n ≤ 6))) ∧ w = w' := by
  by_cases a : 1 ≤ n <;> by_cases b : n ≤ 6
  all_goals
    go_enter Tryd.func21, Tryd.ntmps21
    go_wp2
    go_ret
    exact ⟨by simp [a, b], rfl⟩

end Go.Proofs.YtilbdpcijdcffaaDoor

namespace Go.Proofs.YtilbdpcijdcffaaDoor
open Go.RowKit
open Nt (stB)

end Go.Proofs.YtilbdpcijdcffaaDoor

namespace Go.Proofs.YtilbdpcijdcffaaDoor
open Go.RowKit

theorem pow_div (m c k : Nat) : m / c ^ (k + 1) = m / c ^ k / c := by
  rw [Nat.pow_succ, Nat.div_div_eq_div_mul]

theorem div_zero_iff {m c n : Nat} (hc : 0 < c) : m / c ^ n = 0 ↔ m < c ^ n := by
  rw [Nat.div_eq_zero_iff]
  have := Nat.pow_pos (n := n) hc
  omega

theorem digits_take (c m k : Nat) : Nt.nats (Nt.digits c m (k + 1)) = Nt.nats (Nt.digits c m k) ++ [((m / c ^ k % c : Nat) : Int)] := by
  rw [Nt.digits_succ]
  simp [Nt.nats]

end Go.Proofs.YtilbdpcijdcffaaDoor

namespace Go.Proofs.YtilbdpcijdcffaaDoor
open Go.RowKit
open Nt (stB)

theorem succ_mod (k c : Nat) : ((k : Int) + 1).tmod (c : Int) = (((k + 1) % c : Nat) : Int) := by
  have e : (k : Int) + 1 = ((k + 1 : Nat) : Int) := by omega
  rw [e]; exact tmod_nat _ _

theorem raised_take (c : Nat) (ks : List Nat) (k : Nat) (h : k < ks.length) : Nt.nats ((Nt.raised c ks).take (k + 1)) = Nt.nats ((Nt.raised c ks).take k) ++ [(((ks.getD k 0 + 1) % c : Nat) : Int)] := by
  rw [Nt.take_more _ _ (by rw [Nt.raised_length]; exact h), Nt.raised_get _ _ _ h]

end Go.Proofs.YtilbdpcijdcffaaDoor

namespace Go.Proofs.YtilbdpcijdcffaaDoor
open Go.RowKit

theorem shr_rem (x j : Nat) : ((x : Int) / 2 ^ j).tmod 2 = if x.testBit j then 1 else 0 := by
  rw [Int.tmod_eq_emod_of_nonneg (shr_nonneg x j)]
  exact shr_bit x j

theorem pow_cast (n : Nat) : ((2 ^ n : Nat) : Int) = (2 : Int) ^ n := Int.natCast_pow 2 n

theorem lit_take (n s k : Nat) (h : k < n) : Nt.nats ((Nt.lit n s).take (k + 1)) = Nt.nats ((Nt.lit n s).take k) ++ [if s.testBit k then 1 else 0] := by
  rw [Nt.take_more _ _ (by rw [Nt.lit_length]; exact h), Nt.lit_get _ _ _ h]
  split <;> rfl

end Go.Proofs.YtilbdpcijdcffaaDoor
