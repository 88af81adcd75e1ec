/-
  Walks: NetOk of the program.
-/
import Derived.Test.YtahjplaidkibpaaW3
namespace Go.Proofs.Ytahjplaidkibpaa
open Go.RowKit
open Nt (okB bothB)

/-- The first k nodes are as they should be. -/
def fineTo (xs : List Int) (k : Nat) : Prop := ∀ i, i < k → (0 ≤ xs.getD i 0 ∧ xs.getD i 0 < 2 ^ xs.length) ∧ bothB xs i = true

theorem fineTo_succ {xs : List Int} {k : Nat} (h : fineTo xs k) (h1 : 0 ≤ xs.getD k 0 ∧ xs.getD k 0 < 2 ^ xs.length) (h2 : bothB xs k = true) : fineTo xs (k + 1) := by
  intro j hj
  by_cases e : j = k
  · subst e; exact ⟨h1, h2⟩
  · exact h j (by omega)

set_option maxHeartbeats 1000000 in
theorem iNetOk_any (xs : List Int) (w : World) (v : Value) (base : Nat) (hs : Sl w base v xs) :
    Calls Try.prog 40 #[v] w fun e w' => e = .returned (.bool (okB xs)) ∧ w = w' := by
  rcases hs.form with ⟨rfl, rfl⟩ | ⟨g, cap, rfl, _, _, hcap, hmax, hc, _⟩
  · go_enter Try.func40, Try.ntmps40
    go_wp2
    go_ret
    exact ⟨by rw [Nt.not_ok_len (by simp)]; rfl, rfl⟩
  by_cases hl : xs.length < 1 ∨ 6 < xs.length
  · have hno := Nt.not_ok_len hl
    have HNO := Lib.hid hno
    clear hno hc
    rcases hl with h1 | h1
    · have h0 : (xs.length : Int) < 1 := by omega
      go_enter Try.func40, Try.ntmps40
      go_wp2
      go_ret
      exact ⟨by rw [HNO.out]; rfl, rfl⟩
    · have h0 : ¬ (xs.length : Int) < 1 := by omega
      have h2 : (6 : Int) < (xs.length : Int) := by omega
      go_enter Try.func40, Try.ntmps40
      go_wp2
      go_ret
      exact ⟨by rw [HNO.out]; rfl, rfl⟩
  · have l1 : 1 ≤ xs.length := by omega
    have l6 : xs.length ≤ 6 := by omega
    have HC := Lib.hid hc
    have HS := Lib.hid hs
    clear hc hs hl
    go_enter Try.func40, Try.ntmps40
    go_wp2
    go_loop [15] (fun n => ∃ k : Nat, k ≤ xs.length ∧ n = .int .i64 k ∧ fineTo xs k) (fun n => xs.length - (intOf n).toNat)
    case atStart => exact ⟨0, Nat.zero_le _, rfl, fun j hj => absurd hj (by omega)⟩
    case round =>
      obtain ⟨k, hk, rfl, hfine⟩ := hrel
      by_cases hlt : k < xs.length
      · have hck := HC.out k hlt
        have HF := Lib.hid hfine
        clear hfine
        generalize hb : xs.getD k 0 = b at *
        have HB := Lib.hid hb
        clear hb
        by_cases h1 : 0 ≤ b ∧ b < 2 ^ xs.length
        · have h1' : decide (0 ≤ b ∧ b < 2 ^ (xs.length : Int).toNat) = true := by simpa using h1
          have H1 := Lib.hid h1
          clear h1
          by_cases h2 : bothB xs k = true
          · go_wp2_with (first | (go_at_call 67; refine (setOk_any _ _ _ (by omega) (by omega)).mono ?_; rintro e w' ⟨rfl, rfl⟩; rw [h1']) | (go_at_call 68; refine (nearBothWays_any xs k hlt l6 _ _ base HS.out).mono ?_; rintro e w' ⟨rfl, rfl⟩))
            go_round
            case rel => exact ⟨k + 1, by omega, by go_num, fineTo_succ HF.out (by rw [HB.out]; exact H1.out) h2⟩
            case measure => simp [intOf]; omega
          · have h2' : bothB xs k = false := by simpa using h2
            clear h2
            go_wp2_with (first | (go_at_call 67; refine (setOk_any _ _ _ (by omega) (by omega)).mono ?_; rintro e w' ⟨rfl, rfl⟩; rw [h1']) | (go_at_call 68; refine (nearBothWays_any xs k hlt l6 _ _ base HS.out).mono ?_; rintro e w' ⟨rfl, rfl⟩))
            go_ret
            exact ⟨by rw [Nt.not_ok_both hlt h2']; rfl, rfl⟩
        · have h1' : decide (0 ≤ b ∧ b < 2 ^ (xs.length : Int).toNat) = false := by simpa using h1
          have hno := Nt.not_ok_fit hlt (by rw [HB.out]; exact h1)
          have HNO := Lib.hid hno
          clear h1 hno
          go_wp2_with (go_at_call 67; refine (setOk_any _ _ _ (by omega) (by omega)).mono ?_; rintro e w' ⟨rfl, rfl⟩; rw [h1'])
          go_ret
          exact ⟨by rw [HNO.out]; rfl, rfl⟩
      · have hk' : k = xs.length := by omega
        subst hk'
        have HF := Lib.hid hfine
        clear hfine
        go_wp2
        go_ret
        exact ⟨by rw [Nt.ok_of l1 l6 (fun k hk => (HF.out k hk).1) (fun k hk => (HF.out k hk).2)]; rfl, rfl⟩
end Go.Proofs.Ytahjplaidkibpaa
