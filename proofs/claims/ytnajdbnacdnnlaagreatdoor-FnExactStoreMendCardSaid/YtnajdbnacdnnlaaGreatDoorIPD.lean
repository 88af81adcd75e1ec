/-
  The forms of deeds, whether a deed is one, whether a number is a node, by the program.
-/
import Derived.Test.YtnajdbnacdnnlaaGreatDoorPV1
import Derived.Test.YtnajdbnacdnnlaaGreatDoorPureAF
namespace Go.Proofs.YtnajdbnacdnnlaaGreatDoor
open Go.RowKit

/-- The five kinds of deeds, their words and how many numbers they name. -/
def formCells : Array Value := #[.string ⟨#[106, 111, 105, 110]⟩, .int .i64 2, .string ⟨#[108, 105, 103, 104, 116]⟩, .int .i64 1, .string ⟨#[115, 116, 101, 112]⟩, .int .i64 0, .string ⟨#[107, 105, 110, 100, 115]⟩, .int .i64 1, .string ⟨#[98, 97, 99, 107]⟩, .int .i64 0]

set_option maxHeartbeats 1000000 in
set_option maxRecDepth 100000 in
theorem deedForms_any (w : World) :
    Calls Tryz.prog 69 #[] w fun e w' => e = .returned (.slice (some ⟨w.heap.size, 0, none⟩) 5 5) ∧ w' = w.alloc (.cells formCells 98) := by
  go_enter Tryz.func69, Tryz.ntmps69
  go_wp2
  go_ret
  exact ⟨rfl, rfl⟩

set_option maxHeartbeats 2000000 in
set_option maxRecDepth 100000 in
theorem deedOk_any (k a b : Int) (w : World) :
    Calls Tryz.prog 67 #[.agg #[.int .i64 k, .int .i64 a, .int .i64 b]] w fun e w' => e = .returned (.bool (Nt.dokB ⟨k, a, b⟩)) ∧ Kept [] w w' := by
  have hk0 : Kept [] w (w.alloc (.cells #[.int .i64 k, .int .i64 a, .int .i64 b] 41)) := (Kept.refl [] w).alloc _
  have HB := Lib.hid (Bk.new w 41 #[.int .i64 k, .int .i64 a, .int .i64 b])
  have HK0 := Lib.hid hk0
  clear hk0
  go_enter Tryz.func67, Tryz.ntmps67
  go_wp2_with fail
  generalize w.alloc (.cells #[.int .i64 k, .int .i64 a, .int .i64 b] 41) = W0 at *
  refine (deedForms_any _).mono ?_
  rintro e w1 ⟨rfl, rfl⟩
  have hk1 : Kept [] W0 (W0.alloc (.cells formCells 98)) := (Kept.refl [] W0).alloc _
  have HF := Lib.hid (Bk.new W0 98 formCells)
  have HB1 := Lib.hid (HB.out.stay hk1)
  have HK1 := Lib.hid (HK0.out.trans hk1 (by simp))
  clear hk1 HB HK0
  generalize hG : W0.heap.size = G at *
  generalize W0.alloc (.cells formCells 98) = W1 at *
  obtain ⟨c0, c1, c2⟩ := HB1.out.three
  clear hG
  by_cases k0 : k < 0
  · have HZ : Hid (Nt.dokB ⟨k, a, b⟩ = false) := Lib.hid (by unfold Nt.dokB; rw [show decide (0 ≤ k ∧ k < 5) = false from decide_eq_false (by omega)]; rfl)
    have d1 : decide (k < 0) = true := dec_of k0
    go_wp2
    go_ret
    exact ⟨by rw [HZ.out]; rfl, HK1.out⟩
  by_cases k5 : 5 ≤ k
  · have HZ : Hid (Nt.dokB ⟨k, a, b⟩ = false) := Lib.hid (by unfold Nt.dokB; rw [show decide (0 ≤ k ∧ k < 5) = false from decide_eq_false (by omega)]; rfl)
    have d1 : decide (k < 0) = false := dec_not k0
    have d2 : decide (k ≥ 5) = true := dec_of k5
    have d3 : decide (5 ≤ k) = true := dec_of k5
    go_wp2
    go_ret
    exact ⟨by rw [HZ.out]; rfl, HK1.out⟩
  have hk : k = 0 ∨ k = 1 ∨ k = 2 ∨ k = 3 ∨ k = 4 := by omega
  clear k0 k5
  have f0 : W1.cell? ⟨G, 1, none⟩ = some (.int .i64 2) := HF.out.cell 1 rfl
  have f1 : W1.cell? ⟨G, 3, none⟩ = some (.int .i64 1) := HF.out.cell 3 rfl
  have f2 : W1.cell? ⟨G, 5, none⟩ = some (.int .i64 0) := HF.out.cell 5 rfl
  have f3 : W1.cell? ⟨G, 7, none⟩ = some (.int .i64 1) := HF.out.cell 7 rfl
  have f4 : W1.cell? ⟨G, 9, none⟩ = some (.int .i64 0) := HF.out.cell 9 rfl
  rcases hk with rfl | rfl | rfl | rfl | rfl
  all_goals
    by_cases ha : a = 0
    all_goals
      by_cases hb : b = 0
      all_goals
        first
        | (have ea : (a == 0) = true := by simp [ha]
           have eb : (b == 0) = true := by simp [hb]
           go_wp2
           go_ret
           exact ⟨by simp [Nt.dokB, Nt.dnum, ha, hb], HK1.out⟩)
        | (have ea : (a == 0) = true := by simp [ha]
           have eb : (b == 0) = false := by simp [hb]
           go_wp2
           go_ret
           exact ⟨by simp [Nt.dokB, Nt.dnum, ha, hb], HK1.out⟩)
        | (have ea : (a == 0) = false := by simp [ha]
           have eb : (b == 0) = true := by simp [hb]
           go_wp2
           go_ret
           exact ⟨by simp [Nt.dokB, Nt.dnum, ha, hb], HK1.out⟩)
        | (have ea : (a == 0) = false := by simp [ha]
           have eb : (b == 0) = false := by simp [hb]
           go_wp2
           go_ret
           exact ⟨by simp [Nt.dokB, Nt.dnum, ha, hb], HK1.out⟩)

set_option maxHeartbeats 400000 in
set_option maxRecDepth 100000 in
theorem isNodeZ_any (n : Nat) (a : Int) (w : World) :
    Calls Tryz.prog 140 #[.int .i64 (n : Int), .int .i64 a] w fun e w' => e = .returned (.bool (decide (0 ≤ a ∧ a < (n : Int)))) ∧ w = w' := by
  by_cases h1 : 0 ≤ a <;> by_cases h2 : a < (n : Int)
  all_goals
    go_enter Tryz.func140, Tryz.ntmps140
    go_wp2
    go_ret
    exact ⟨by simp [h1, h2], rfl⟩
end Go.Proofs.YtnajdbnacdnnlaaGreatDoor
