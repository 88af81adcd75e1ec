/-
  Walks: what a net is, by the program.
-/
import Derived.Test.YtahjplaidkibpaaW1
namespace Go.Proofs.Ytahjplaidkibpaa
open Go.RowKit

open Nt (badB goodTo bothB bothB_yes bothB_no goodTo_succ)

set_option maxHeartbeats 1000000 in
theorem nearBothWays_any (xs : List Int) (i : Nat) (hi : i < xs.length) (h6 : xs.length ≤ 6) (w : World) (v : Value) (base : Nat) (hs : Sl w base v xs) :
    Calls Try.prog 68 #[v, .int .i64 i] w fun e w' => e = .returned (.bool (bothB xs i)) ∧ w = w' := by
  rcases hs.form with ⟨_, rfl⟩ | ⟨g, cap, rfl, _, _, _, _, hc, _⟩
  · simp at hi
  have hci := hc i hi
  have HC := Lib.hid hc
  clear hc hs
  generalize ha : xs.getD i 0 = a at *
  have HA := Lib.hid ha
  clear ha
  go_enter Try.func68, Try.ntmps68
  go_wp2
  go_loop [8] (fun n => ∃ k : Nat, k ≤ xs.length ∧ n = .int .i64 k ∧ goodTo xs i k) (fun n => xs.length - (intOf n).toNat)
  case atStart => exact ⟨0, Nat.zero_le _, rfl, fun j hj => absurd hj (by omega)⟩
  case round =>
    obtain ⟨k, hk, rfl, hgood⟩ := hrel
    by_cases hlt : k < xs.length
    · have hck := HC.out k hlt
      generalize hb : xs.getD k 0 = b at *
      have HB := Lib.hid hb
      have HG := Lib.hid hgood
      clear hb hgood
      have fin : ∀ r, badB xs i k = r ↔ (Nt.bit a k && (k == i || !Nt.bit b i)) = r := by
        intro r; unfold badB; rw [HA.out, HB.out]
      have FIN := Lib.hid fin
      clear fin
      by_cases h1 : Nt.bit a k = true
      · by_cases h2 : k = i
        · have h2' : ((k : Int) == (i : Int)) = true := by rw [h2]; simp
          have H2 := Lib.hid h2
          clear h2
          go_wp2_with (go_at_call 57; refine (hasNode_int _ _ _ (by omega)).mono ?_; rintro e w' ⟨rfl, rfl⟩)
          go_ret
          exact ⟨by rw [bothB_no (j := k) hlt ((FIN.out _).2 (by rw [h1]; simp [H2.out]))]; rfl, rfl⟩
        · have h2' : ((k : Int) == (i : Int)) = false := by simp; omega
          have H2 := Lib.hid h2
          clear h2
          by_cases h3 : Nt.bit b i = true
          · go_wp2_with (go_at_call 57; refine (hasNode_int _ _ _ (by omega)).mono ?_; rintro e w' ⟨rfl, rfl⟩)
            go_round
            case rel => exact ⟨k + 1, by omega, by go_num, goodTo_succ HG.out ((FIN.out _).2 (by simp [h1, H2.out, h3]))⟩
            case measure => simp [intOf]; omega
          · have h3' : Nt.bit b i = false := by simpa using h3
            clear h3
            go_wp2_with (go_at_call 57; refine (hasNode_int _ _ _ (by omega)).mono ?_; rintro e w' ⟨rfl, rfl⟩)
            go_ret
            exact ⟨by rw [bothB_no (j := k) hlt ((FIN.out _).2 (by simp [h1, h3']))]; rfl, rfl⟩
      · have h1' : Nt.bit a k = false := by simpa using h1
        clear h1
        go_wp2_with (go_at_call 57; refine (hasNode_int _ _ _ (by omega)).mono ?_; rintro e w' ⟨rfl, rfl⟩)
        go_round
        case rel => exact ⟨k + 1, by omega, by go_num, goodTo_succ HG.out ((FIN.out _).2 (by simp [h1']))⟩
        case measure => simp [intOf]; omega
    · have hk' : k = xs.length := by omega
      subst hk'
      have HG := Lib.hid hgood
      clear hgood
      go_wp2
      go_ret
      exact ⟨by rw [bothB_yes HG.out]; rfl, rfl⟩
end Go.Proofs.Ytahjplaidkibpaa
