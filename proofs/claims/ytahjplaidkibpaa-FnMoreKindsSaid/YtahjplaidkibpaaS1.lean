/-
  Walks: what a state is, by the program and by the model.
-/
import Derived.Test.YtahjplaidkibpaaW1
import Derived.Test.YtahjplaidkibpaaOps
import Derived.Test.YtahjplaidkibpaaPureS
namespace Go.Proofs.Ytahjplaidkibpaa
open Go.RowKit
open Nt (stB stB_iff stB_no kindTo kindTo_succ)

set_option maxHeartbeats 400000 in
theorem nodesOk_any (n : Int) (w : World) :
    Calls Try.prog 42 #[.int .i64 n] w fun e w' => e = .returned (.bool (decide (1 ≤ n ∧ n ≤ 6))) ∧ w = w' := by
  by_cases a : 1 ≤ n <;> by_cases b : n ≤ 6
  all_goals
    go_enter Try.func42, Try.ntmps42
    go_wp2
    go_ret
    exact ⟨by simp [a, b], rfl⟩

set_option maxHeartbeats 400000 in
theorem kindsOk_any (n : Int) (w : World) :
    Calls Try.prog 41 #[.int .i64 n] w fun e w' => e = .returned (.bool (decide (3 ≤ n ∧ n ≤ 5))) ∧ w = w' := by
  by_cases a : 3 ≤ n <;> by_cases b : n ≤ 5
  all_goals
    go_enter Try.func41, Try.ntmps41
    go_wp2
    go_ret
    exact ⟨by simp [a, b], rfl⟩

set_option maxHeartbeats 1000000 in
theorem iStateOk_any (kinds : Int) (xs : List Int) (w : World) (v : Value) (base : Nat) (hs : Sl w base v xs) :
    Calls Try.prog 16 #[.int .i64 kinds, v] w fun e w' => e = .returned (.bool (stB kinds xs)) ∧ w = w' := by
  obtain ⟨a, cap, rfl, _, hm, hc⟩ := hs.any
  have HC := Lib.hid hc
  clear hc hs
  by_cases h1 : 3 ≤ kinds ∧ kinds ≤ 5
  · have d1 : decide (3 ≤ kinds ∧ kinds ≤ 5) = true := dec_of h1
    by_cases h2 : 1 ≤ xs.length ∧ xs.length ≤ 6
    · have d2 : decide ((1 : Int) ≤ (xs.length : Int) ∧ (xs.length : Int) ≤ 6) = true := dec_of (by omega)
      have H1 := Lib.hid h1
      have H2 := Lib.hid h2
      clear h1 h2
      go_enter Try.func16, Try.ntmps16
      go_wp2_with (first | (go_at_call 41; refine (kindsOk_any _ _).mono ?_; rintro e w' ⟨rfl, rfl⟩; rw [d1]) | (go_at_call 42; refine (nodesOk_any _ _).mono ?_; rintro e w' ⟨rfl, rfl⟩; rw [d2]))
      clear d1 d2
      go_loop [18] (fun n => ∃ k : Nat, k ≤ xs.length ∧ n = .int .i64 k ∧ kindTo kinds xs k) (fun n => xs.length - (intOf n).toNat)
      case atStart => exact ⟨0, Nat.zero_le _, rfl, fun j hj => absurd hj (by omega)⟩
      case round =>
        obtain ⟨k, hk, rfl, hto⟩ := hrel
        have HT := Lib.hid hto
        clear hto
        by_cases hlt : k < xs.length
        · obtain ⟨g, rfl, _, _, hcell, _⟩ := HC.out k hlt
          generalize hb : xs.getD k 0 = b at *
          have HB := Lib.hid hb
          clear hb
          by_cases h3 : b < 0
          · go_wp2
            go_ret
            exact ⟨by rw [stB_no (fun h => by have := (h.2.2 k hlt).1; rw [HB.out] at this; omega)]; rfl, rfl⟩
          · by_cases h4 : kinds ≤ b
            · go_wp2
              go_ret
              exact ⟨by rw [stB_no (fun h => by have := (h.2.2 k hlt).2; rw [HB.out] at this; omega)]; rfl, rfl⟩
            · go_wp2
              go_round
              case rel => exact ⟨k + 1, by omega, by go_num, kindTo_succ HT.out (by rw [HB.out]; omega)⟩
              case measure => simp [intOf]; omega
        · have hk' : k = xs.length := by omega
          subst hk'
          go_wp2
          go_ret
          exact ⟨by rw [stB_iff.2 ⟨H1.out, H2.out, HT.out⟩]; rfl, rfl⟩
    · have d2 : decide ((1 : Int) ≤ (xs.length : Int) ∧ (xs.length : Int) ≤ 6) = false := dec_not (by omega)
      have HNO := Lib.hid (stB_no (kinds := kinds) (xs := xs) (fun h => h2 h.2.1))
      clear h1 h2
      go_enter Try.func16, Try.ntmps16
      go_wp2_with (first | (go_at_call 41; refine (kindsOk_any _ _).mono ?_; rintro e w' ⟨rfl, rfl⟩; rw [d1]) | (go_at_call 42; refine (nodesOk_any _ _).mono ?_; rintro e w' ⟨rfl, rfl⟩; rw [d2]))
      go_ret
      exact ⟨by rw [HNO.out]; rfl, rfl⟩
  · have d1 : decide (3 ≤ kinds ∧ kinds ≤ 5) = false := dec_not h1
    have HNO := Lib.hid (stB_no (kinds := kinds) (xs := xs) (fun h => h1 h.1))
    clear h1
    go_enter Try.func16, Try.ntmps16
    go_wp2_with (go_at_call 41; refine (kindsOk_any _ _).mono ?_; rintro e w' ⟨rfl, rfl⟩; rw [d1])
    go_ret
    exact ⟨by rw [HNO.out]; rfl, rfl⟩

set_option maxHeartbeats 1000000 in
theorem sStateOk_any (kinds : Int) (xs : List Int) (w : World) (v : Value) (base : Nat) (hs : Sl w base v xs) :
    Calls Try.prog 66 #[.int .i64 kinds, v] w fun e w' => e = .returned (.bool (stB kinds xs)) ∧ w = w' := by
  obtain ⟨a, cap, rfl, _, hm, hc⟩ := hs.any
  have HC := Lib.hid hc
  clear hc hs
  go_enter Try.func66, Try.ntmps66
  go_wp2
  go_loop [5] (fun n => ∃ k : Nat, k ≤ xs.length ∧ n = .int .i64 k ∧ kindTo kinds xs k) (fun n => xs.length - (intOf n).toNat)
  case atStart => exact ⟨0, Nat.zero_le _, rfl, fun j hj => absurd hj (by omega)⟩
  case round =>
    obtain ⟨k, hk, rfl, hto⟩ := hrel
    have HT := Lib.hid hto
    clear hto
    by_cases hlt : k < xs.length
    · obtain ⟨g, rfl, _, _, hcell, _⟩ := HC.out k hlt
      generalize hb : xs.getD k 0 = b at *
      have HB := Lib.hid hb
      clear hb
      by_cases h3 : b < 0
      · go_wp2
        go_ret
        exact ⟨by rw [stB_no (fun h => by have := (h.2.2 k hlt).1; rw [HB.out] at this; omega)]; rfl, rfl⟩
      · by_cases h4 : kinds ≤ b
        · go_wp2
          go_ret
          exact ⟨by rw [stB_no (fun h => by have := (h.2.2 k hlt).2; rw [HB.out] at this; omega)]; rfl, rfl⟩
        · go_wp2
          go_round
          case rel => exact ⟨k + 1, by omega, by go_num, kindTo_succ HT.out (by rw [HB.out]; omega)⟩
          case measure => simp [intOf]; omega
    · have hk' : k = xs.length := by omega
      subst hk'
      by_cases h1 : 3 ≤ kinds ∧ kinds ≤ 5
      · have d1 : decide ((3 : Int) ≤ kinds ∧ kinds ≤ 5) = true := dec_of h1
        by_cases h2 : 1 ≤ xs.length ∧ xs.length ≤ 6
        · have d2 : decide ((1 : Int) ≤ (xs.length : Int) ∧ (xs.length : Int) ≤ 6) = true := dec_of (by omega)
          have HYES := Lib.hid (stB_iff.2 ⟨h1, h2, HT.out⟩)
          clear h1 h2
          go_wp2_with (first | (go_at_call 51; first | ((with_reducible refine (l1In_any kinds 3 5 _).mono ?_); rintro e w' ⟨rfl, rfl⟩; rw [d1]) | ((with_reducible refine (l1In_any (xs.length : Int) 1 6 _).mono ?_); rintro e w' ⟨rfl, rfl⟩; rw [d2])))
          go_ret
          exact ⟨by rw [HYES.out]; rfl, rfl⟩
        · have d2 : decide ((1 : Int) ≤ (xs.length : Int) ∧ (xs.length : Int) ≤ 6) = false := dec_not (by omega)
          have HNO := Lib.hid (stB_no (kinds := kinds) (xs := xs) (fun h => h2 h.2.1))
          clear h1 h2
          go_wp2_with (first | (go_at_call 51; first | ((with_reducible refine (l1In_any kinds 3 5 _).mono ?_); rintro e w' ⟨rfl, rfl⟩; rw [d1]) | ((with_reducible refine (l1In_any (xs.length : Int) 1 6 _).mono ?_); rintro e w' ⟨rfl, rfl⟩; rw [d2])))
          go_ret
          exact ⟨by rw [HNO.out]; rfl, rfl⟩
      · have d1 : decide ((3 : Int) ≤ kinds ∧ kinds ≤ 5) = false := dec_not h1
        have HNO := Lib.hid (stB_no (kinds := kinds) (xs := xs) (fun h => h1 h.1))
        clear h1
        go_wp2_with (go_at_call 51; refine (l1In_any _ _ _ _).mono ?_; rintro e w' ⟨rfl, rfl⟩; rw [d1])
        go_ret
        exact ⟨by rw [HNO.out]; rfl, rfl⟩
end Go.Proofs.Ytahjplaidkibpaa
