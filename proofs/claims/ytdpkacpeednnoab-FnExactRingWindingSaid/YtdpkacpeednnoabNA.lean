/-
  Walks: the neighbours of a set.
  Walks: what a net is, by the program.
  Walks: NetOk of the program.
  Walks: NetOk of the model.
  Walks: what a state is, by the program and by the model.
  Walks: counts of kinds, by the program and by the model.
  Walks: states of numbers, by the program and by the model.
  Walks: raised states, by the program and by the model.
  Walks: lit states, by the program and by the model.
-/
import Derived.Test.YtdpkacpeednnoabKA
import Derived.Deep.QuietTactic
import Derived.BigQuiet
import Derived.Test.YtdpkacpeednnoabPA
import Derived.StillTailTactics
namespace Go.Proofs.Ytdpkacpeednnoab
open Go.RowKit

end Go.Proofs.Ytdpkacpeednnoab

namespace Go.Proofs.Ytdpkacpeednnoab
open Go.RowKit

open Nt (badB goodTo bothB bothB_yes bothB_no goodTo_succ)

end Go.Proofs.Ytdpkacpeednnoab

namespace Go.Proofs.Ytdpkacpeednnoab
open Go.RowKit
open Nt (okB bothB)

/-- The first k nodes are as they should be. -/
def fineTo (xs : List Int) (k : Nat) : Prop := ∀ i, i < k → (0 ≤ xs.getD i 0 ∧ xs.getD i 0 < 2 ^ xs.length) ∧ bothB xs i = true

theorem fineTo_succ {xs : List Int} {k : Nat} (h : fineTo xs k) (h1 : 0 ≤ xs.getD k 0 ∧ xs.getD k 0 < 2 ^ xs.length) (h2 : bothB xs k = true) : fineTo xs (k + 1) := by
  intro j hj
  by_cases e : j = k
  · subst e; exact ⟨h1, h2⟩
  · exact h j (by omega)

end Go.Proofs.Ytdpkacpeednnoab

namespace Go.Proofs.Ytdpkacpeednnoab
open Go.RowKit
open Nt (okB bothB)

/-- The first k sets are of the nodes of the net. -/
def fitTo (xs : List Int) (k : Nat) : Prop := ∀ i, i < k → 0 ≤ xs.getD i 0 ∧ xs.getD i 0 < 2 ^ xs.length

theorem fitTo_succ {xs : List Int} {k : Nat} (h : fitTo xs k) (h1 : 0 ≤ xs.getD k 0 ∧ xs.getD k 0 < 2 ^ xs.length) : fitTo xs (k + 1) := by
  intro j hj
  by_cases e : j = k
  · subst e; exact h1
  · exact h j (by omega)

def bothTo (xs : List Int) (k : Nat) : Prop := ∀ i, i < k → bothB xs i = true

theorem bothTo_succ {xs : List Int} {k : Nat} (h : bothTo xs k) (h1 : bothB xs k = true) : bothTo xs (k + 1) := by
  intro j hj
  by_cases e : j = k
  · subst e; exact h1
  · exact h j (by omega)

end Go.Proofs.Ytdpkacpeednnoab

namespace Go.Proofs.Ytdpkacpeednnoab
open Go.RowKit
open Nt (stB stB_iff stB_no kindTo kindTo_succ)

set_option maxHeartbeats 400000 in
set_option maxRecDepth 100000 in
theorem nodesOk_any (n : Int) (w : World) :
    Calls Try.prog 41 #[.int .i64 n] w fun e w' => e = .returned (.bool (decide (1 ≤ n ∧ n ≤ 6))) ∧ w = w' := by
  by_cases a : 1 ≤ n <;> by_cases b : n ≤ 6
  all_goals
    go_enter Try.func41, Try.ntmps41
    go_wp2
    go_ret
    exact ⟨by simp [a, b], rfl⟩

set_option maxHeartbeats 400000 in
set_option maxRecDepth 100000 in
theorem kindsOk_any (n : Int) (w : World) :
    Calls Try.prog 42 #[.int .i64 n] w fun e w' => e = .returned (.bool (decide (3 ≤ n ∧ n ≤ 5))) ∧ w = w' := by
  by_cases a : 3 ≤ n <;> by_cases b : n ≤ 5
  all_goals
    go_enter Try.func42, Try.ntmps42
    go_wp2
    go_ret
    exact ⟨by simp [a, b], rfl⟩

set_option maxHeartbeats 1000000 in
set_option maxRecDepth 100000 in
theorem iStateOk_any (kinds : Int) (xs : List Int) (w : World) (v : Value) (base : Nat) (hs : Sl w base v xs) :
    Calls Try.prog 31 #[.int .i64 kinds, v] w fun e w' => e = .returned (.bool (stB kinds xs)) ∧ w = w' := by
  obtain ⟨a, cap, rfl, _, hm, hc⟩ := hs.any
  have HC := Lib.hid hc
  clear hc hs
  by_cases h1 : 3 ≤ kinds ∧ kinds ≤ 5
  · have d1 : decide (3 ≤ kinds ∧ kinds ≤ 5) = true := dec_of h1
    by_cases h2 : 1 ≤ xs.length ∧ xs.length ≤ 6
    · have d2 : decide ((1 : Int) ≤ (xs.length : Int) ∧ (xs.length : Int) ≤ 6) = true := dec_of (by omega)
      have H1 := Lib.hid h1
      have H2 := Lib.hid h2
      clear h1 h2
      go_enter Try.func31, Try.ntmps31
      go_wp2_with (first | (go_at_call 42; refine (kindsOk_any _ _).mono ?_; rintro e w' ⟨rfl, rfl⟩; rw [d1]) | (go_at_call 41; refine (nodesOk_any _ _).mono ?_; rintro e w' ⟨rfl, rfl⟩; rw [d2]))
      clear d1 d2
      go_loop [18] (fun n => ∃ k : Nat, k ≤ xs.length ∧ n = .int .i64 k ∧ kindTo kinds xs k) (fun n => xs.length - (intOf n).toNat)
      case atStart => exact ⟨0, Nat.zero_le _, rfl, fun j hj => absurd hj (by omega)⟩
      case round =>
        obtain ⟨k, hk, rfl, hto⟩ := hrel
        have HT := Lib.hid hto
        clear hto
        by_cases hlt : k < xs.length
        · obtain ⟨g, rfl, _, _, hcell, _⟩ := HC.out k hlt
          generalize hb : xs.getD k 0 = b at *
          have HB := Lib.hid hb
          clear hb
          by_cases h3 : b < 0
          · go_wp2
            go_ret
            exact ⟨by rw [stB_no (fun h => by have := (h.2.2 k hlt).1; rw [HB.out] at this; omega)]; rfl, rfl⟩
          · by_cases h4 : kinds ≤ b
            · go_wp2
              go_ret
              exact ⟨by rw [stB_no (fun h => by have := (h.2.2 k hlt).2; rw [HB.out] at this; omega)]; rfl, rfl⟩
            · go_wp2
              go_round
              case rel => exact ⟨k + 1, by omega, by go_num, kindTo_succ HT.out (by rw [HB.out]; omega)⟩
              case measure => simp [intOf]; omega
        · have hk' : k = xs.length := by omega
          subst hk'
          go_wp2
          go_ret
          exact ⟨by rw [stB_iff.2 ⟨H1.out, H2.out, HT.out⟩]; rfl, rfl⟩
    · have d2 : decide ((1 : Int) ≤ (xs.length : Int) ∧ (xs.length : Int) ≤ 6) = false := dec_not (by omega)
      have HNO := Lib.hid (stB_no (kinds := kinds) (xs := xs) (fun h => h2 h.2.1))
      clear h1 h2
      go_enter Try.func31, Try.ntmps31
      go_wp2_with (first | (go_at_call 42; refine (kindsOk_any _ _).mono ?_; rintro e w' ⟨rfl, rfl⟩; rw [d1]) | (go_at_call 41; refine (nodesOk_any _ _).mono ?_; rintro e w' ⟨rfl, rfl⟩; rw [d2]))
      go_ret
      exact ⟨by rw [HNO.out]; rfl, rfl⟩
  · have d1 : decide (3 ≤ kinds ∧ kinds ≤ 5) = false := dec_not h1
    have HNO := Lib.hid (stB_no (kinds := kinds) (xs := xs) (fun h => h1 h.1))
    clear h1
    go_enter Try.func31, Try.ntmps31
    go_wp2_with (go_at_call 42; refine (kindsOk_any _ _).mono ?_; rintro e w' ⟨rfl, rfl⟩; rw [d1])
    go_ret
    exact ⟨by rw [HNO.out]; rfl, rfl⟩

set_option maxHeartbeats 1000000 in
set_option maxRecDepth 100000 in
theorem sStateOk_any (kinds : Int) (xs : List Int) (w : World) (v : Value) (base : Nat) (hs : Sl w base v xs) :
    Calls Try.prog 28 #[.int .i64 kinds, v] w fun e w' => e = .returned (.bool (stB kinds xs)) ∧ w = w' := by
  obtain ⟨a, cap, rfl, _, hm, hc⟩ := hs.any
  have HC := Lib.hid hc
  clear hc hs
  go_enter Try.func28, Try.ntmps28
  go_wp2
  go_loop [5] (fun n => ∃ k : Nat, k ≤ xs.length ∧ n = .int .i64 k ∧ kindTo kinds xs k) (fun n => xs.length - (intOf n).toNat)
  case atStart => exact ⟨0, Nat.zero_le _, rfl, fun j hj => absurd hj (by omega)⟩
  case round =>
    obtain ⟨k, hk, rfl, hto⟩ := hrel
    have HT := Lib.hid hto
    clear hto
    by_cases hlt : k < xs.length
    · obtain ⟨g, rfl, _, _, hcell, _⟩ := HC.out k hlt
      generalize hb : xs.getD k 0 = b at *
      have HB := Lib.hid hb
      clear hb
      by_cases h3 : b < 0
      · go_wp2
        go_ret
        exact ⟨by rw [stB_no (fun h => by have := (h.2.2 k hlt).1; rw [HB.out] at this; omega)]; rfl, rfl⟩
      · by_cases h4 : kinds ≤ b
        · go_wp2
          go_ret
          exact ⟨by rw [stB_no (fun h => by have := (h.2.2 k hlt).2; rw [HB.out] at this; omega)]; rfl, rfl⟩
        · go_wp2
          go_round
          case rel => exact ⟨k + 1, by omega, by go_num, kindTo_succ HT.out (by rw [HB.out]; omega)⟩
          case measure => simp [intOf]; omega
    · have hk' : k = xs.length := by omega
      subst hk'
      by_cases h1 : 3 ≤ kinds ∧ kinds ≤ 5
      · have d1 : decide ((3 : Int) ≤ kinds ∧ kinds ≤ 5) = true := dec_of h1
        by_cases h2 : 1 ≤ xs.length ∧ xs.length ≤ 6
        · have d2 : decide ((1 : Int) ≤ (xs.length : Int) ∧ (xs.length : Int) ≤ 6) = true := dec_of (by omega)
          have HYES := Lib.hid (stB_iff.2 ⟨h1, h2, HT.out⟩)
          clear h1 h2
          go_wp2_with (first | (go_at_call 34; first | ((with_reducible refine (l1In_any kinds 3 5 _).mono ?_); rintro e w' ⟨rfl, rfl⟩; rw [d1]) | ((with_reducible refine (l1In_any (xs.length : Int) 1 6 _).mono ?_); rintro e w' ⟨rfl, rfl⟩; rw [d2])))
          go_ret
          exact ⟨by rw [HYES.out]; rfl, rfl⟩
        · have d2 : decide ((1 : Int) ≤ (xs.length : Int) ∧ (xs.length : Int) ≤ 6) = false := dec_not (by omega)
          have HNO := Lib.hid (stB_no (kinds := kinds) (xs := xs) (fun h => h2 h.2.1))
          clear h1 h2
          go_wp2_with (first | (go_at_call 34; first | ((with_reducible refine (l1In_any kinds 3 5 _).mono ?_); rintro e w' ⟨rfl, rfl⟩; rw [d1]) | ((with_reducible refine (l1In_any (xs.length : Int) 1 6 _).mono ?_); rintro e w' ⟨rfl, rfl⟩; rw [d2])))
          go_ret
          exact ⟨by rw [HNO.out]; rfl, rfl⟩
      · have d1 : decide ((3 : Int) ≤ kinds ∧ kinds ≤ 5) = false := dec_not h1
        have HNO := Lib.hid (stB_no (kinds := kinds) (xs := xs) (fun h => h1 h.1))
        clear h1
        go_wp2_with (go_at_call 34; refine (l1In_any _ _ _ _).mono ?_; rintro e w' ⟨rfl, rfl⟩; rw [d1])
        go_ret
        exact ⟨by rw [HNO.out]; rfl, rfl⟩
end Go.Proofs.Ytdpkacpeednnoab

namespace Go.Proofs.Ytdpkacpeednnoab
open Go.RowKit
open Nt (stB)

end Go.Proofs.Ytdpkacpeednnoab

namespace Go.Proofs.Ytdpkacpeednnoab
open Go.RowKit

theorem pow_div (m c k : Nat) : m / c ^ (k + 1) = m / c ^ k / c := by
  rw [Nat.pow_succ, Nat.div_div_eq_div_mul]

theorem div_zero_iff {m c n : Nat} (hc : 0 < c) : m / c ^ n = 0 ↔ m < c ^ n := by
  rw [Nat.div_eq_zero_iff]
  have := Nat.pow_pos (n := n) hc
  omega

theorem digits_take (c m k : Nat) : Nt.nats (Nt.digits c m (k + 1)) = Nt.nats (Nt.digits c m k) ++ [((m / c ^ k % c : Nat) : Int)] := by
  rw [Nt.digits_succ]
  simp [Nt.nats]

end Go.Proofs.Ytdpkacpeednnoab

namespace Go.Proofs.Ytdpkacpeednnoab
open Go.RowKit
open Nt (stB)

theorem succ_mod (k c : Nat) : ((k : Int) + 1).tmod (c : Int) = (((k + 1) % c : Nat) : Int) := by
  have e : (k : Int) + 1 = ((k + 1 : Nat) : Int) := by omega
  rw [e]; exact tmod_nat _ _

set_option maxHeartbeats 400000 in
set_option maxRecDepth 100000 in
theorem nextKind_any (c k : Nat) (h3 : 3 ≤ c) (hk : k ≤ 1000) (w : World) :
    Calls Try.prog 43 #[.int .i64 (c : Int), .int .i64 (k : Int)] w fun e w' => e = .returned (.int .i64 (((k + 1) % c : Nat) : Int)) ∧ w = w' := by
  have f1 := succ_mod k c
  have hc0 : ¬ c = 0 := by omega
  generalize (k + 1) % c = r at *
  go_enter Try.func43, Try.ntmps43
  go_wp2
  go_ret
  exact ⟨rfl, rfl⟩

theorem raised_take (c : Nat) (ks : List Nat) (k : Nat) (h : k < ks.length) : Nt.nats ((Nt.raised c ks).take (k + 1)) = Nt.nats ((Nt.raised c ks).take k) ++ [(((ks.getD k 0 + 1) % c : Nat) : Int)] := by
  rw [Nt.take_more _ _ (by rw [Nt.raised_length]; exact h), Nt.raised_get _ _ _ h]

end Go.Proofs.Ytdpkacpeednnoab

namespace Go.Proofs.Ytdpkacpeednnoab
open Go.RowKit

theorem shr_rem (x j : Nat) : ((x : Int) / 2 ^ j).tmod 2 = if x.testBit j then 1 else 0 := by
  rw [Int.tmod_eq_emod_of_nonneg (shr_nonneg x j)]
  exact shr_bit x j

theorem pow_cast (n : Nat) : ((2 ^ n : Nat) : Int) = (2 : Int) ^ n := Int.natCast_pow 2 n

theorem lit_take (n s k : Nat) (h : k < n) : Nt.nats ((Nt.lit n s).take (k + 1)) = Nt.nats ((Nt.lit n s).take k) ++ [if s.testBit k then 1 else 0] := by
  rw [Nt.take_more _ _ (by rw [Nt.lit_length]; exact h), Nt.lit_get _ _ _ h]
  split <;> rfl

end Go.Proofs.Ytdpkacpeednnoab
