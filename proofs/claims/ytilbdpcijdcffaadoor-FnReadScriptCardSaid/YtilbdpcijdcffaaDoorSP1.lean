/-
  Walks: scripts of lights, by the program.
-/
import Derived.Test.YtilbdpcijdcffaaDoorFA
import Derived.Test.YtilbdpcijdcffaaDoorSL
import Derived.Test.YtilbdpcijdcffaaDoorSA
namespace Go.Proofs.YtilbdpcijdcffaaDoor
open Go.RowKit

def cmpI (a b : Int) : Int := if a < b then -1 else if b < a then 1 else 0

set_option maxHeartbeats 400000 in
set_option maxRecDepth 100000 in
theorem isNodeI_any (n a : Int) (w : World) :
    Calls Tryd.prog 34 #[.int .i64 n, .int .i64 a] w fun e w' => e = .returned (.bool (decide (0 ≤ a ∧ a < n))) ∧ w = w' := by
  by_cases h1 : 0 ≤ a
  · have d1 : decide (0 ≤ a) = true := dec_of h1
    by_cases h2 : a < n
    · have d2 : decide (a < n) = true := dec_of h2
      have HF : Hid (decide (0 ≤ a ∧ a < n) = true) := Lib.hid (dec_of ⟨h1, h2⟩)
      clear h1 h2
      go_enter Tryd.func34, Tryd.ntmps34
      go_wp2
      go_ret
      exact ⟨by rw [HF.out]; rfl, rfl⟩
    · have d2 : decide (a < n) = false := dec_not h2
      have HF : Hid (decide (0 ≤ a ∧ a < n) = false) := Lib.hid (dec_not (fun h => h2 h.2))
      clear h1 h2
      go_enter Tryd.func34, Tryd.ntmps34
      go_wp2
      go_ret
      exact ⟨by rw [HF.out]; rfl, rfl⟩
  · have d1 : decide (0 ≤ a) = false := dec_not h1
    have HF : Hid (decide (0 ≤ a ∧ a < n) = false) := Lib.hid (dec_not (fun h => h1 h.1))
    clear h1
    go_enter Tryd.func34, Tryd.ntmps34
    go_wp2
    go_ret
    exact ⟨by rw [HF.out]; rfl, rfl⟩

set_option maxHeartbeats 400000 in
set_option maxRecDepth 100000 in
theorem compare_any (a b : Int) (w : World) :
    Calls Tryd.prog 36 #[.int .i64 a, .int .i64 b] w fun e w' => e = .returned (.int .i64 (cmpI a b)) ∧ w = w' := by
  have n1 : (a != a) = false := by simp
  have n2 : (b != b) = false := by simp
  by_cases h1 : a < b
  · have d1 : decide (a < b) = true := dec_of h1
    have HF : Hid (cmpI a b = -1) := Lib.hid (by unfold cmpI; rw [if_pos h1])
    clear h1
    go_enter Tryd.func36, Tryd.ntmps36
    go_wp2
    go_ret
    exact ⟨by rw [HF.out]; rfl, rfl⟩
  · have d1 : decide (a < b) = false := dec_not h1
    by_cases h2 : b < a
    · have d2 : decide (b < a) = true := dec_of h2
      have HF : Hid (cmpI a b = 1) := Lib.hid (by unfold cmpI; rw [if_neg h1, if_pos h2])
      clear h1 h2
      go_enter Tryd.func36, Tryd.ntmps36
      go_wp2
      go_ret
      exact ⟨by rw [HF.out]; rfl, rfl⟩
    · have d2 : decide (b < a) = false := dec_not h2
      have HF : Hid (cmpI a b = 0) := Lib.hid (by unfold cmpI; rw [if_neg h1, if_neg h2])
      clear h1 h2
      go_enter Tryd.func36, Tryd.ntmps36
      go_wp2
      go_ret
      exact ⟨by rw [HF.out]; rfl, rfl⟩

set_option maxHeartbeats 1000000 in
set_option maxRecDepth 100000 in
theorem or2_any (a b r : Int) (hr : (if a = 0 then b else a) = r) (g cap : Nat) (w : World) (h0 : w.cell? ⟨g, 0, none⟩ = some (.int .i64 a)) (h1 : w.cell? ⟨g, 1, none⟩ = some (.int .i64 b)) :
    Calls Tryd.prog 35 #[.slice (some ⟨g, 0, none⟩) 2 cap] w fun e w' => e = .returned (.int .i64 r) ∧ w = w' := by
  by_cases ha : a = 0
  · subst ha
    rw [if_pos rfl] at hr
    subst hr
    by_cases hb : b = 0
    · subst hb
      go_enter Tryd.func35, Tryd.ntmps35
      go_wp2
      go_loop [8] (fun i => i = .int .i64 0 ∨ i = .int .i64 1 ∨ i = .int .i64 2) (fun i => 2 - (intOf i).toNat)
      case atStart => exact .inl rfl
      case round =>
        rcases hrel with rfl | rfl | rfl
        · go_wp2
          go_round
          case rel => exact .inr (.inl (by go_num))
          case measure => simp [intOf]
        · go_wp2
          go_round
          case rel => exact .inr (.inr (by go_num))
          case measure => simp [intOf]
        · go_wp2
          go_ret
          exact ⟨rfl, rfl⟩
    · have hb' : (b != 0) = true := by simp [hb]
      clear hb
      go_enter Tryd.func35, Tryd.ntmps35
      go_wp2
      go_loop [8] (fun i => i = .int .i64 0 ∨ i = .int .i64 1) (fun i => 2 - (intOf i).toNat)
      case atStart => exact .inl rfl
      case round =>
        rcases hrel with rfl | rfl
        · go_wp2
          go_round
          case rel => exact .inr (by go_num)
          case measure => simp [intOf]
        · go_wp2
          go_ret
          exact ⟨rfl, rfl⟩
  · have hb' : (a != 0) = true := by simp [ha]
    rw [if_neg ha] at hr
    subst hr
    clear ha
    go_enter Tryd.func35, Tryd.ntmps35
    go_wp2
    go_loop [8] (fun i => i = .int .i64 0) (fun i => 2 - (intOf i).toNat)
    case atStart => rfl
    case round =>
      subst hrel
      go_wp2
      go_ret
      exact ⟨rfl, rfl⟩

set_option maxHeartbeats 1000000 in
set_option maxRecDepth 100000 in
theorem lightOk_any (n a b : Int) (w : World) :
    Calls Tryd.prog 22 #[.int .i64 n, .agg #[.int .i64 a, .int .i64 b]] w fun e w' => e = .returned (.bool (decide (0 ≤ a ∧ a ≤ 59 ∧ 0 ≤ b ∧ b < n))) ∧ Kept [] w w' := by
  have HK : Hid (Kept [] w (w.alloc (.cells #[.int .i64 a, .int .i64 b] 41))) := Lib.hid ((Kept.refl [] w).alloc _)
  by_cases h1 : 0 ≤ a
  · have d1 : decide (0 ≤ a) = true := dec_of h1
    by_cases h2 : a < 60
    · have d2 : decide (a < 60) = true := dec_of h2
      have HF : Hid (decide (0 ≤ b ∧ b < n) = decide (0 ≤ a ∧ a ≤ 59 ∧ 0 ≤ b ∧ b < n)) := Lib.hid (by rw [Bool.eq_iff_iff, decide_eq_true_iff, decide_eq_true_iff]; omega)
      clear h1 h2
      cases hb : decide (0 ≤ b ∧ b < n)
      all_goals
        rw [hb] at HF
        go_enter Tryd.func22, Tryd.ntmps22
        go_wp2_with (go_at_call 34; refine (isNodeI_any _ _ _).mono ?_; rintro e w' ⟨rfl, rfl⟩; rw [hb])
        go_ret
        exact ⟨by rw [← HF.out]; rfl, HK.out⟩
    · have d2 : decide (a < 60) = false := dec_not h2
      have HF : Hid (decide (0 ≤ a ∧ a ≤ 59 ∧ 0 ≤ b ∧ b < n) = false) := Lib.hid (dec_not (by omega))
      clear h1 h2
      go_enter Tryd.func22, Tryd.ntmps22
      go_wp2
      go_ret
      exact ⟨by rw [HF.out]; rfl, HK.out⟩
  · have d1 : decide (0 ≤ a) = false := dec_not h1
    have HF : Hid (decide (0 ≤ a ∧ a ≤ 59 ∧ 0 ≤ b ∧ b < n) = false) := Lib.hid (dec_not (by omega))
    clear h1
    go_enter Tryd.func22, Tryd.ntmps22
    go_wp2
    go_ret
    exact ⟨by rw [HF.out]; rfl, HK.out⟩

theorem comes_is (a b c d : Int) : decide ((if cmpI a c = 0 then cmpI b d else cmpI a c) < 0) = decide (a < c ∨ a = c ∧ b < d) := by
  rw [Bool.eq_iff_iff, decide_eq_true_iff, decide_eq_true_iff]
  unfold cmpI
  repeat' split
  all_goals omega

set_option maxHeartbeats 1000000 in
set_option maxRecDepth 100000 in
theorem comes_any (a b c d : Int) (w : World) :
    Calls Tryd.prog 23 #[.agg #[.int .i64 a, .int .i64 b], .agg #[.int .i64 c, .int .i64 d]] w fun e w' => e = .returned (.bool (decide (a < c ∨ a = c ∧ b < d))) ∧ Kept [] w w' := by
  have HF := Lib.hid (comes_is a b c d)
  obtain ⟨p, hp⟩ : ∃ p, cmpI a c = p := ⟨_, rfl⟩
  obtain ⟨q, hq⟩ : ∃ q, cmpI b d = q := ⟨_, rfl⟩
  rw [hp, hq] at HF
  have HP := Lib.hid hp
  have HQ := Lib.hid hq
  clear hp hq
  obtain ⟨r, hr⟩ : ∃ r, (if p = 0 then q else p) = r := ⟨_, rfl⟩
  rw [hr] at HF
  have HR := Lib.hid hr
  clear hr
  have k1 : ((w.alloc (.cells #[.int .i64 a, .int .i64 b] 41)).alloc (.cells #[.int .i64 c, .int .i64 d] 41)).cell? ⟨w.heap.size, 0, none⟩ = some (.int .i64 a) := by simp
  have k2 : ((w.alloc (.cells #[.int .i64 a, .int .i64 b] 41)).alloc (.cells #[.int .i64 c, .int .i64 d] 41)).cell? ⟨w.heap.size, 1, none⟩ = some (.int .i64 b) := by simp
  have k3 : ((w.alloc (.cells #[.int .i64 a, .int .i64 b] 41)).alloc (.cells #[.int .i64 c, .int .i64 d] 41)).cell? ⟨w.heap.size + 1, 0, none⟩ = some (.int .i64 c) := by
    have e : (w.alloc (.cells #[.int .i64 a, .int .i64 b] 41)).heap.size = w.heap.size + 1 := by simp
    rw [← e]; simp
  have k4 : ((w.alloc (.cells #[.int .i64 a, .int .i64 b] 41)).alloc (.cells #[.int .i64 c, .int .i64 d] 41)).cell? ⟨w.heap.size + 1, 1, none⟩ = some (.int .i64 d) := by
    have e : (w.alloc (.cells #[.int .i64 a, .int .i64 b] 41)).heap.size = w.heap.size + 1 := by simp
    rw [← e]; simp
  have HK : Hid (Kept [] w ((w.alloc (.cells #[.int .i64 a, .int .i64 b] 41)).alloc (.cells #[.int .i64 c, .int .i64 d] 41))) := Lib.hid (((Kept.refl [] w).alloc _).alloc _)
  go_enter Tryd.func23, Tryd.ntmps23
  go_wp2_with fail
  generalize ((w.alloc (.cells #[.int .i64 a, .int .i64 b] 41)).alloc (.cells #[.int .i64 c, .int .i64 d] 41)) = w2 at *
  have HC1 : Hid (∀ W : World, Calls Tryd.prog 36 #[.int .i64 a, .int .i64 c] W fun e w' => e = .returned (.int .i64 p) ∧ W = w') := Lib.hid (fun W => by rw [← HP.out]; exact compare_any a c W)
  have HC2 : Hid (∀ W : World, Calls Tryd.prog 36 #[.int .i64 b, .int .i64 d] W fun e w' => e = .returned (.int .i64 q) ∧ W = w') := Lib.hid (fun W => by rw [← HQ.out]; exact compare_any b d W)
  refine wp_region_still_tail 10 (by kernel_rfl) (by kernel_rfl) ?_
  simp only [List.take_succ_cons, List.take_zero, List.drop_succ_cons, List.drop_zero]
  repeat still_step
  still_call ((HC1.out _).mono fun _ _ e => ⟨e.1, e.2.symm⟩)
  repeat still_step
  still_call ((HC2.out _).mono fun _ _ e => ⟨e.1, e.2.symm⟩)
  try refine wpStill_nil ?_
  change wpList _ _ _ _ _ w2.drew
  have HK5 : Hid (Kept [] w w2.drew) := Lib.hid HK.out.drew
  clear HK k1 k2 k3 k4 HC1 HC2
  generalize w2.drew = w5 at *
  go_wp2_with (go_at_call 35; refine (or2_any p q r HR.out _ _ _ (by simp) (by simp)).mono ?_; rintro e w6 ⟨rfl, rfl⟩)
  go_ret
  exact ⟨by rw [← HF.out]; rfl, HK5.out.alloc _⟩
end Go.Proofs.YtilbdpcijdcffaaDoor
