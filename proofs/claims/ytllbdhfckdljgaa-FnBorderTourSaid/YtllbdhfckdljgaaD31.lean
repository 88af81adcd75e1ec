/-
  Walks: what the laws of grids draw.
-/
import Derived.Test.YtllbdhfckdljgaaDC
import Derived.Test.YtllbdhfckdljgaaR1
namespace Go.Proofs.Ytllbdhfckdljgaa
open Go.RowKit

set_option maxHeartbeats 400000 in
set_option maxRecDepth 100000 in
theorem oddZero_any (v : Value) (w : World) :
    Calls Try.prog 61 #[v, .int .i64 0] w fun e w' => e = .returned (.bool false) ∧ w = w' := by
  go_enter Try.func61, Try.ntmps61
  go_wp2
  go_ret
  exact ⟨rfl, rfl⟩

theorem all_snoc {xs : List Int} {x k : Int} (h : ∀ y, y ∈ xs → 0 ≤ y ∧ y < k) (hx : 0 ≤ x ∧ x < k) : ∀ y, y ∈ xs ++ [x] → 0 ≤ y ∧ y < k := by
  intro y hy
  rw [List.mem_append, List.mem_singleton] at hy
  rcases hy with hy | rfl
  · exact h y hy
  · exact hx

/-- A state is drawn that is one. -/
def DrawsOk (w : World) (B R P many : Nat) (kinds : Int) (e : Ending) (w' : World) : Prop :=
  ∃ u xs, e = .returned u ∧ Sl w' w.heap.size u xs ∧ xs.length = many ∧ (∀ y, y ∈ xs → 0 ≤ y ∧ y < kinds) ∧ Rd w' B R (P + 20) ∧ Kept [R] w w'

set_option maxHeartbeats 2000000 in
set_option maxRecDepth 100000 in
theorem stateOk_any (B R P : Nat) (hP : P ≤ 90000) (many : Nat) (h6 : many ≤ 6) (kinds : Int) (hk0 : 1 ≤ kinds) (hk1 : kinds ≤ 100) (w : World) (hr : Rd w B R P) :
    Calls Try.prog 50 #[.pointer (some ⟨R, 0, none⟩), .int .i64 (many : Int), .int .i64 kinds, .int .i64 0] w (DrawsOk w B R P many kinds) := by
  have HR := Lib.hid hr
  have hlt := hr.lt
  have hBR := hr.1
  clear hr
  go_enter Try.func50, Try.ntmps50
  go_wp2_with fail
  have hbase : w.heap.size ≤ (w.alloc (.cells #[] 3)).heap.size := by simp
  refine (pick_any B R P (by omega) 3 (by omega) _ (HR.out.kept ((Kept.refl [] w).alloc _) (by simp))).mono ?_
  rintro e w1 ⟨th, rfl, hth0, hth, hr1, hk1⟩
  have hth3 : th < 3 := by omega
  have HR1 := Lib.hid hr1
  have HS1 := Lib.hid ((Sl.empty3 w).past hk1 hlt)
  have HK1 := Lib.hid (((Kept.refl [R] w).alloc (.cells #[] 3)).trans hk1 (by simp))
  clear hr1 hk1 hth HR hbase
  go_wp2
  go_loopw [9, 11] (fun u i wr => ∃ (k : Nat) (xs : List Int), k ≤ many ∧ i = .int .i64 k ∧ Sl wr w.heap.size u xs ∧ xs.length = k ∧ (∀ y, y ∈ xs → 0 ≤ y ∧ y < kinds) ∧ Rd wr B R (P + 1 + 2 * k) ∧ Kept [R] w wr) (fun _ i _ => many - (intOf i).toNat)
  case atStart => exact ⟨0, [], Nat.zero_le _, rfl, HS1.out, rfl, by simp, HR1.out.mono (by omega), HK1.out⟩
  case round =>
    clear HS1 HR1 HK1
    obtain ⟨k, xs, hk, rfl, hsl, hxl, hin, hrd, hkept⟩ := hrel
    have HIN := Lib.hid hin
    clear hin
    have HSL := Lib.hid hsl
    have HRD := Lib.hid hrd
    have HK := Lib.hid hkept
    have HXL := Lib.hid hxl
    have hsz := hkept.size
    clear hsl hrd hkept hxl
    by_cases hlk : k < many
    · by_cases ht : 0 < th
      · go_wp2_with fail
        refine (pick_any B R _ (by omega) 3 (by omega) _ HRD.out).mono ?_
        rintro e w2 ⟨y, rfl, hy0, hy, hr2, hk2⟩
        have HR2 := Lib.hid hr2
        have HS2 := Lib.hid (HSL.out.past hk2 hlt)
        have HK2 := Lib.hid (HK.out.trans hk2 (by simp))
        have hsz2 := HK2.out.size
        clear hr2 hk2 hy HRD HSL HK
        by_cases hyt : y < th
        · have HNI : Hid (∀ y, y ∈ xs ++ [(0 : Int)] → 0 ≤ y ∧ y < kinds) := Lib.hid (all_snoc HIN.out (by omega))
          go_wp2_with (at_builtin; refine app_int _ rfl _ _ rfl w.heap.size _ _ HS2.out rfl rfl (by rw [HXL.out]; omega) hsz2 ?_; intro u3 w3 hs3 hk3; have HS3 := Lib.hid hs3; have HK3 := Lib.hid hk3; clear hs3 hk3)
          go_roundw
          case rel => exact ⟨k + 1, _, by omega, by go_num, HS3.out, by rw [List.length_append, HXL.out]; rfl, HNI.out, (HR2.out.own HK3.out (fun g hg => (HS2.out.block hg).1) hlt (by omega)).mono (by omega), HK2.out.ownR HK3.out (fun g hg => (HS2.out.block hg).1)⟩
          case measure => simp [intOf]; omega
        · go_wp2_with fail
          refine (pick_any B R _ (by omega) kinds (by omega) _ HR2.out).mono ?_
          rintro e w3 ⟨z, rfl, hz0, hz, hr3, hk3⟩
          have HR3 := Lib.hid hr3
          have HS3 := Lib.hid (HS2.out.past hk3 hlt)
          have HK3 := Lib.hid (HK2.out.trans hk3 (by simp))
          have hsz3 := HK3.out.size
          have HNI : Hid (∀ y, y ∈ xs ++ [z] → 0 ≤ y ∧ y < kinds) := Lib.hid (all_snoc HIN.out (by omega))
          clear hr3 hk3 hz HR2 HS2 HK2
          go_wp2_with (at_builtin; refine app_int _ rfl _ _ rfl w.heap.size _ _ HS3.out rfl rfl (by rw [HXL.out]; omega) hsz3 ?_; intro u4 w4 hs4 hk4; have HS4 := Lib.hid hs4; have HK4 := Lib.hid hk4; clear hs4 hk4)
          go_roundw
          case rel => exact ⟨k + 1, _, by omega, by go_num, HS4.out, by rw [List.length_append, HXL.out]; rfl, HNI.out, (HR3.out.own HK4.out (fun g hg => (HS3.out.block hg).1) hlt (by omega)).mono (by omega), HK3.out.ownR HK4.out (fun g hg => (HS3.out.block hg).1)⟩
          case measure => simp [intOf]; omega
      · go_wp2_with fail
        refine (pick_any B R _ (by omega) kinds (by omega) _ HRD.out).mono ?_
        rintro e w3 ⟨z, rfl, hz0, hz, hr3, hk3⟩
        have HR3 := Lib.hid hr3
        have HS3 := Lib.hid (HSL.out.past hk3 hlt)
        have HK3 := Lib.hid (HK.out.trans hk3 (by simp))
        have hsz3 := HK3.out.size
        have HNI : Hid (∀ y, y ∈ xs ++ [z] → 0 ≤ y ∧ y < kinds) := Lib.hid (all_snoc HIN.out (by omega))
        clear hr3 hk3 hz HRD HSL HK
        go_wp2_with (at_builtin; refine app_int _ rfl _ _ rfl w.heap.size _ _ HS3.out rfl rfl (by rw [HXL.out]; omega) hsz3 ?_; intro u4 w4 hs4 hk4; have HS4 := Lib.hid hs4; have HK4 := Lib.hid hk4; clear hs4 hk4)
        go_roundw
        case rel => exact ⟨k + 1, _, by omega, by go_num, HS4.out, by rw [List.length_append, HXL.out]; rfl, HNI.out, (HR3.out.own HK4.out (fun g hg => (HS3.out.block hg).1) hlt (by omega)).mono (by omega), HK3.out.ownR HK4.out (fun g hg => (HS3.out.block hg).1)⟩
        case measure => simp [intOf]; omega
    · have hk' : k = many := by omega
      subst hk'
      go_wp2_with fail
      refine (oddZero_any _ _).mono ?_
      rintro e w' ⟨rfl, rfl⟩
      go_wp2
      go_ret
      exact ⟨_, xs, rfl, HSL.out, HXL.out, HIN.out, HRD.out.mono (by omega), HK.out⟩

/-- The table of rows and columns, written out. -/
def gridLit (w : World) : World := (((((((((((w.alloc (.cells #[.int .i64 2, .int .i64 2] 3)).alloc (.cells #[.int .i64 2, .int .i64 3] 3)).alloc (.cells #[.int .i64 3, .int .i64 2] 3)).alloc (.cells #[.int .i64 1, .int .i64 4] 3)).alloc (.cells #[.int .i64 5, .int .i64 1] 3)).alloc (.cells #[.int .i64 1, .int .i64 1] 3)).alloc (.cells #[.int .i64 2, .int .i64 2] 3)).alloc (.cells #[.int .i64 2, .int .i64 3] 3)).alloc (.cells #[.int .i64 3, .int .i64 3] 3)).alloc (.cells #[.int .i64 0, .int .i64 2] 3)).alloc (.cells #[.slice (some ⟨w.heap.size, 0, none⟩) 2 2, .slice (some ⟨w.heap.size + 1, 0, none⟩) 2 2, .slice (some ⟨w.heap.size + 1 + 1, 0, none⟩) 2 2, .slice (some ⟨w.heap.size + 1 + 1 + 1, 0, none⟩) 2 2, .slice (some ⟨w.heap.size + 1 + 1 + 1 + 1, 0, none⟩) 2 2, .slice (some ⟨w.heap.size + 1 + 1 + 1 + 1 + 1, 0, none⟩) 2 2, .slice (some ⟨w.heap.size + 1 + 1 + 1 + 1 + 1 + 1, 0, none⟩) 2 2, .slice (some ⟨w.heap.size + 1 + 1 + 1 + 1 + 1 + 1 + 1, 0, none⟩) 2 2, .slice (some ⟨w.heap.size + 1 + 1 + 1 + 1 + 1 + 1 + 1 + 1, 0, none⟩) 2 2, .slice (some ⟨w.heap.size + 1 + 1 + 1 + 1 + 1 + 1 + 1 + 1 + 1, 0, none⟩) 2 2] 25))
def gridRow (w : World) (g : Nat) (k : Nat) (a b : Int) : Prop := (gridLit w).cell? ⟨w.heap.size + 1 + 1 + 1 + 1 + 1 + 1 + 1 + 1 + 1 + 1, k, none⟩ = some (.slice (some ⟨g, 0, none⟩) 2 2) ∧ (gridLit w).cell? ⟨g, 0, none⟩ = some (.int .i64 a) ∧ (gridLit w).cell? ⟨g, 1, none⟩ = some (.int .i64 b)
theorem gridLit_kept (w : World) : Kept [] w (gridLit w) := ((((((((((((Kept.refl _ _).alloc _).alloc _).alloc _).alloc _).alloc _).alloc _).alloc _).alloc _).alloc _).alloc _).alloc _)
theorem gridLit_size (w : World) : (gridLit w).heap.size = w.heap.size + 11 := by simp [gridLit]
theorem lit_cell {w : World} {o : Obj} {g k : Nat} {v : Value} (h : w.cell? ⟨g, k, none⟩ = some v) : (w.alloc o).cell? ⟨g, k, none⟩ = some v :=
  ((Kept.refl [] w).alloc o |>.cell (p := ⟨g, k, none⟩) (World.block_lt_of_cell? w _ h) (by simp)).trans h
theorem lit_new {w : World} {g : Nat} (hg : w.heap.size = g) (cs : Array Value) (t : TypeId) (k : Nat) (v : Value) (h : cs[k]? = some v) : (w.alloc (.cells cs t)).cell? ⟨g, k, none⟩ = some v := by
  subst hg
  have e : (w.alloc (.cells cs t)).heap[w.heap.size]? = some (.cells cs t) := heap_alloc_new w _
  unfold World.cell?
  rw [e]
  simpa using h
theorem gridLit_rows (w : World) : gridRow w (w.heap.size) 0 2 2 ∧ gridRow w (w.heap.size + 1) 1 2 3 ∧ gridRow w (w.heap.size + 1 + 1) 2 3 2 ∧ gridRow w (w.heap.size + 1 + 1 + 1) 3 1 4 ∧ gridRow w (w.heap.size + 1 + 1 + 1 + 1) 4 5 1 ∧ gridRow w (w.heap.size + 1 + 1 + 1 + 1 + 1) 5 1 1 ∧ gridRow w (w.heap.size + 1 + 1 + 1 + 1 + 1 + 1) 6 2 2 ∧ gridRow w (w.heap.size + 1 + 1 + 1 + 1 + 1 + 1 + 1) 7 2 3 ∧ gridRow w (w.heap.size + 1 + 1 + 1 + 1 + 1 + 1 + 1 + 1) 8 3 3 ∧ gridRow w (w.heap.size + 1 + 1 + 1 + 1 + 1 + 1 + 1 + 1 + 1) 9 0 2 := by
  refine ⟨?_, ?_, ?_, ?_, ?_, ?_, ?_, ?_, ?_, ?_⟩
  · exact ⟨lit_new (by simp) _ _ 0 _ rfl, lit_cell (lit_cell (lit_cell (lit_cell (lit_cell (lit_cell (lit_cell (lit_cell (lit_cell (lit_cell (lit_new (by simp) _ _ 0 _ rfl)))))))))), lit_cell (lit_cell (lit_cell (lit_cell (lit_cell (lit_cell (lit_cell (lit_cell (lit_cell (lit_cell (lit_new (by simp) _ _ 1 _ rfl))))))))))⟩
  · exact ⟨lit_new (by simp) _ _ 1 _ rfl, lit_cell (lit_cell (lit_cell (lit_cell (lit_cell (lit_cell (lit_cell (lit_cell (lit_cell (lit_new (by simp) _ _ 0 _ rfl))))))))), lit_cell (lit_cell (lit_cell (lit_cell (lit_cell (lit_cell (lit_cell (lit_cell (lit_cell (lit_new (by simp) _ _ 1 _ rfl)))))))))⟩
  · exact ⟨lit_new (by simp) _ _ 2 _ rfl, lit_cell (lit_cell (lit_cell (lit_cell (lit_cell (lit_cell (lit_cell (lit_cell (lit_new (by simp) _ _ 0 _ rfl)))))))), lit_cell (lit_cell (lit_cell (lit_cell (lit_cell (lit_cell (lit_cell (lit_cell (lit_new (by simp) _ _ 1 _ rfl))))))))⟩
  · exact ⟨lit_new (by simp) _ _ 3 _ rfl, lit_cell (lit_cell (lit_cell (lit_cell (lit_cell (lit_cell (lit_cell (lit_new (by simp) _ _ 0 _ rfl))))))), lit_cell (lit_cell (lit_cell (lit_cell (lit_cell (lit_cell (lit_cell (lit_new (by simp) _ _ 1 _ rfl)))))))⟩
  · exact ⟨lit_new (by simp) _ _ 4 _ rfl, lit_cell (lit_cell (lit_cell (lit_cell (lit_cell (lit_cell (lit_new (by simp) _ _ 0 _ rfl)))))), lit_cell (lit_cell (lit_cell (lit_cell (lit_cell (lit_cell (lit_new (by simp) _ _ 1 _ rfl))))))⟩
  · exact ⟨lit_new (by simp) _ _ 5 _ rfl, lit_cell (lit_cell (lit_cell (lit_cell (lit_cell (lit_new (by simp) _ _ 0 _ rfl))))), lit_cell (lit_cell (lit_cell (lit_cell (lit_cell (lit_new (by simp) _ _ 1 _ rfl)))))⟩
  · exact ⟨lit_new (by simp) _ _ 6 _ rfl, lit_cell (lit_cell (lit_cell (lit_cell (lit_new (by simp) _ _ 0 _ rfl)))), lit_cell (lit_cell (lit_cell (lit_cell (lit_new (by simp) _ _ 1 _ rfl))))⟩
  · exact ⟨lit_new (by simp) _ _ 7 _ rfl, lit_cell (lit_cell (lit_cell (lit_new (by simp) _ _ 0 _ rfl))), lit_cell (lit_cell (lit_cell (lit_new (by simp) _ _ 1 _ rfl)))⟩
  · exact ⟨lit_new (by simp) _ _ 8 _ rfl, lit_cell (lit_cell (lit_new (by simp) _ _ 0 _ rfl)), lit_cell (lit_cell (lit_new (by simp) _ _ 1 _ rfl))⟩
  · exact ⟨lit_new (by simp) _ _ 9 _ rfl, lit_cell (lit_new (by simp) _ _ 0 _ rfl), lit_cell (lit_new (by simp) _ _ 1 _ rfl)⟩

/-- Rows and columns are drawn. -/
def DrawsGr (w : World) (B R P : Nat) (e : Ending) (w' : World) : Prop :=
  ∃ a b : Nat, e = .returned (.tuple #[.int .i64 (a : Int), .int .i64 (b : Int)]) ∧ a ≤ 5 ∧ b ≤ 4 ∧ 1 ≤ max (a * b) 1 % 7 ∧ Rd w' B R (P + 2) ∧ Kept [R] w w'

set_option maxHeartbeats 8000000 in
set_option maxRecDepth 100000 in
theorem grid_any (B R P : Nat) (hP : P ≤ 90000) (w : World) (hr : Rd w B R P) :
    Calls Try.prog 39 #[.pointer (some ⟨R, 0, none⟩)] w (DrawsGr w B R P) := by
  have HR := Lib.hid (hr.kept (gridLit_kept w) (by simp))
  have HK := Lib.hid (gridLit_kept w)
  have hlt := hr.lt
  have HLT := Lib.hid hlt
  obtain ⟨r0, r1, r2, r3, r4, r5, r6, r7, r8, r9⟩ := gridLit_rows w
  have HZ := Lib.hid (gridLit_size w)
  have HG := Lib.hid (show gridLit w = (((((((((((w.alloc (.cells #[.int .i64 2, .int .i64 2] 3)).alloc (.cells #[.int .i64 2, .int .i64 3] 3)).alloc (.cells #[.int .i64 3, .int .i64 2] 3)).alloc (.cells #[.int .i64 1, .int .i64 4] 3)).alloc (.cells #[.int .i64 5, .int .i64 1] 3)).alloc (.cells #[.int .i64 1, .int .i64 1] 3)).alloc (.cells #[.int .i64 2, .int .i64 2] 3)).alloc (.cells #[.int .i64 2, .int .i64 3] 3)).alloc (.cells #[.int .i64 3, .int .i64 3] 3)).alloc (.cells #[.int .i64 0, .int .i64 2] 3)).alloc (.cells #[.slice (some ⟨w.heap.size, 0, none⟩) 2 2, .slice (some ⟨w.heap.size + 1, 0, none⟩) 2 2, .slice (some ⟨w.heap.size + 1 + 1, 0, none⟩) 2 2, .slice (some ⟨w.heap.size + 1 + 1 + 1, 0, none⟩) 2 2, .slice (some ⟨w.heap.size + 1 + 1 + 1 + 1, 0, none⟩) 2 2, .slice (some ⟨w.heap.size + 1 + 1 + 1 + 1 + 1, 0, none⟩) 2 2, .slice (some ⟨w.heap.size + 1 + 1 + 1 + 1 + 1 + 1, 0, none⟩) 2 2, .slice (some ⟨w.heap.size + 1 + 1 + 1 + 1 + 1 + 1 + 1, 0, none⟩) 2 2, .slice (some ⟨w.heap.size + 1 + 1 + 1 + 1 + 1 + 1 + 1 + 1, 0, none⟩) 2 2, .slice (some ⟨w.heap.size + 1 + 1 + 1 + 1 + 1 + 1 + 1 + 1 + 1, 0, none⟩) 2 2] 25)) from rfl)
  clear hr
  go_enter Try.func39, Try.ntmps39
  go_wp2_with fail
  rw [← HG.out]
  refine (pick_any B R P (by omega) 10 (by omega) _ HR.out).mono ?_
  rintro e w1 ⟨x, rfl, hx0, hx, hr1, hk1⟩
  have HR1 := Lib.hid hr1
  have HK1 := Lib.hid (((Kept.refl [R] w).trans HK.out (by simp)).trans hk1 (by simp))
  have HC := Lib.hid (fun (g k : Nat) (hg : g ≠ R ∧ g < w.heap.size + 11) => hk1.cell (p := ⟨g, k, none⟩) (by rw [HZ.out]; exact hg.2) (by simp; exact hg.1))
  have hxs : x = 0 ∨ x = 1 ∨ x = 2 ∨ x = 3 ∨ x = 4 ∨ x = 5 ∨ x = 6 ∨ x = 7 ∨ x = 8 ∨ x = 9 := by omega
  clear hr1 hk1 hx hx0
  rcases hxs with rfl | rfl | rfl | rfl | rfl | rfl | rfl | rfl | rfl | rfl
  · have q1 := (HC.out (w.heap.size + 1 + 1 + 1 + 1 + 1 + 1 + 1 + 1 + 1 + 1) 0 (by omega)).trans r0.1
    have q2 := (HC.out (w.heap.size) 0 (by omega)).trans r0.2.1
    have q3 := (HC.out (w.heap.size) 1 (by omega)).trans r0.2.2
    clear r0 r1 r2 r3 r4 r5 r6 r7 r8 r9
    go_wp2_with fail
    go_quiet (fail)
    go_wp2
    go_ret2
    exact ⟨2, 2, rfl, by decide, by decide, by decide, (HR1.out.kept ((Qt.refl _).draw _).kept (by simp)).mono (by omega), HK1.out.trans ((Qt.refl _).draw _).kept (by simp)⟩
  · have q1 := (HC.out (w.heap.size + 1 + 1 + 1 + 1 + 1 + 1 + 1 + 1 + 1 + 1) 1 (by omega)).trans r1.1
    have q2 := (HC.out (w.heap.size + 1) 0 (by omega)).trans r1.2.1
    have q3 := (HC.out (w.heap.size + 1) 1 (by omega)).trans r1.2.2
    clear r0 r1 r2 r3 r4 r5 r6 r7 r8 r9
    go_wp2_with fail
    go_quiet (fail)
    go_wp2
    go_ret2
    exact ⟨2, 3, rfl, by decide, by decide, by decide, (HR1.out.kept ((Qt.refl _).draw _).kept (by simp)).mono (by omega), HK1.out.trans ((Qt.refl _).draw _).kept (by simp)⟩
  · have q1 := (HC.out (w.heap.size + 1 + 1 + 1 + 1 + 1 + 1 + 1 + 1 + 1 + 1) 2 (by omega)).trans r2.1
    have q2 := (HC.out (w.heap.size + 1 + 1) 0 (by omega)).trans r2.2.1
    have q3 := (HC.out (w.heap.size + 1 + 1) 1 (by omega)).trans r2.2.2
    clear r0 r1 r2 r3 r4 r5 r6 r7 r8 r9
    go_wp2_with fail
    go_quiet (fail)
    go_wp2
    go_ret2
    exact ⟨3, 2, rfl, by decide, by decide, by decide, (HR1.out.kept ((Qt.refl _).draw _).kept (by simp)).mono (by omega), HK1.out.trans ((Qt.refl _).draw _).kept (by simp)⟩
  · have q1 := (HC.out (w.heap.size + 1 + 1 + 1 + 1 + 1 + 1 + 1 + 1 + 1 + 1) 3 (by omega)).trans r3.1
    have q2 := (HC.out (w.heap.size + 1 + 1 + 1) 0 (by omega)).trans r3.2.1
    have q3 := (HC.out (w.heap.size + 1 + 1 + 1) 1 (by omega)).trans r3.2.2
    clear r0 r1 r2 r3 r4 r5 r6 r7 r8 r9
    go_wp2_with fail
    go_quiet (fail)
    go_wp2
    go_ret2
    exact ⟨1, 4, rfl, by decide, by decide, by decide, (HR1.out.kept ((Qt.refl _).draw _).kept (by simp)).mono (by omega), HK1.out.trans ((Qt.refl _).draw _).kept (by simp)⟩
  · have q1 := (HC.out (w.heap.size + 1 + 1 + 1 + 1 + 1 + 1 + 1 + 1 + 1 + 1) 4 (by omega)).trans r4.1
    have q2 := (HC.out (w.heap.size + 1 + 1 + 1 + 1) 0 (by omega)).trans r4.2.1
    have q3 := (HC.out (w.heap.size + 1 + 1 + 1 + 1) 1 (by omega)).trans r4.2.2
    clear r0 r1 r2 r3 r4 r5 r6 r7 r8 r9
    go_wp2_with fail
    go_quiet (fail)
    go_wp2
    go_ret2
    exact ⟨5, 1, rfl, by decide, by decide, by decide, (HR1.out.kept ((Qt.refl _).draw _).kept (by simp)).mono (by omega), HK1.out.trans ((Qt.refl _).draw _).kept (by simp)⟩
  · have q1 := (HC.out (w.heap.size + 1 + 1 + 1 + 1 + 1 + 1 + 1 + 1 + 1 + 1) 5 (by omega)).trans r5.1
    have q2 := (HC.out (w.heap.size + 1 + 1 + 1 + 1 + 1) 0 (by omega)).trans r5.2.1
    have q3 := (HC.out (w.heap.size + 1 + 1 + 1 + 1 + 1) 1 (by omega)).trans r5.2.2
    clear r0 r1 r2 r3 r4 r5 r6 r7 r8 r9
    go_wp2_with fail
    go_quiet (fail)
    go_wp2
    go_ret2
    exact ⟨1, 1, rfl, by decide, by decide, by decide, (HR1.out.kept ((Qt.refl _).draw _).kept (by simp)).mono (by omega), HK1.out.trans ((Qt.refl _).draw _).kept (by simp)⟩
  · have q1 := (HC.out (w.heap.size + 1 + 1 + 1 + 1 + 1 + 1 + 1 + 1 + 1 + 1) 6 (by omega)).trans r6.1
    have q2 := (HC.out (w.heap.size + 1 + 1 + 1 + 1 + 1 + 1) 0 (by omega)).trans r6.2.1
    have q3 := (HC.out (w.heap.size + 1 + 1 + 1 + 1 + 1 + 1) 1 (by omega)).trans r6.2.2
    clear r0 r1 r2 r3 r4 r5 r6 r7 r8 r9
    go_wp2_with fail
    go_quiet (fail)
    go_wp2
    go_ret2
    exact ⟨2, 2, rfl, by decide, by decide, by decide, (HR1.out.kept ((Qt.refl _).draw _).kept (by simp)).mono (by omega), HK1.out.trans ((Qt.refl _).draw _).kept (by simp)⟩
  · have q1 := (HC.out (w.heap.size + 1 + 1 + 1 + 1 + 1 + 1 + 1 + 1 + 1 + 1) 7 (by omega)).trans r7.1
    have q2 := (HC.out (w.heap.size + 1 + 1 + 1 + 1 + 1 + 1 + 1) 0 (by omega)).trans r7.2.1
    have q3 := (HC.out (w.heap.size + 1 + 1 + 1 + 1 + 1 + 1 + 1) 1 (by omega)).trans r7.2.2
    clear r0 r1 r2 r3 r4 r5 r6 r7 r8 r9
    go_wp2_with fail
    go_quiet (fail)
    go_wp2
    go_ret2
    exact ⟨2, 3, rfl, by decide, by decide, by decide, (HR1.out.kept ((Qt.refl _).draw _).kept (by simp)).mono (by omega), HK1.out.trans ((Qt.refl _).draw _).kept (by simp)⟩
  · have q1 := (HC.out (w.heap.size + 1 + 1 + 1 + 1 + 1 + 1 + 1 + 1 + 1 + 1) 8 (by omega)).trans r8.1
    have q2 := (HC.out (w.heap.size + 1 + 1 + 1 + 1 + 1 + 1 + 1 + 1) 0 (by omega)).trans r8.2.1
    have q3 := (HC.out (w.heap.size + 1 + 1 + 1 + 1 + 1 + 1 + 1 + 1) 1 (by omega)).trans r8.2.2
    clear r0 r1 r2 r3 r4 r5 r6 r7 r8 r9
    go_wp2_with fail
    go_quiet (fail)
    go_wp2
    go_ret2
    exact ⟨3, 3, rfl, by decide, by decide, by decide, (HR1.out.kept ((Qt.refl _).draw _).kept (by simp)).mono (by omega), HK1.out.trans ((Qt.refl _).draw _).kept (by simp)⟩
  · have q1 := (HC.out (w.heap.size + 1 + 1 + 1 + 1 + 1 + 1 + 1 + 1 + 1 + 1) 9 (by omega)).trans r9.1
    have q2 := (HC.out (w.heap.size + 1 + 1 + 1 + 1 + 1 + 1 + 1 + 1 + 1) 0 (by omega)).trans r9.2.1
    have q3 := (HC.out (w.heap.size + 1 + 1 + 1 + 1 + 1 + 1 + 1 + 1 + 1) 1 (by omega)).trans r9.2.2
    clear r0 r1 r2 r3 r4 r5 r6 r7 r8 r9
    go_wp2_with fail
    go_quiet (fail)
    go_wp2
    go_ret2
    exact ⟨0, 2, rfl, by decide, by decide, by decide, (HR1.out.kept ((Qt.refl _).draw _).kept (by simp)).mono (by omega), HK1.out.trans ((Qt.refl _).draw _).kept (by simp)⟩

/-- Rows and columns are drawn. -/
def DrawnGr (w : World) (e : Ending) (w' : World) : Prop := ∃ a b : Nat, e = .returned (.tuple #[.int .i64 (a : Int), .int .i64 (b : Int)]) ∧ a ≤ 5 ∧ b ≤ 4 ∧ Kept [] w w'

set_option maxHeartbeats 1000000 in
set_option maxRecDepth 100000 in
theorem drawGridNet_any (w : World) (v : Value) (ha : ArgB w v) : Calls Try.prog 12 #[v] w (DrawnGr w) := by
  have HA := Lib.hid ha
  obtain ⟨a, n, cap, rfl, _, _, _⟩ := ha
  go_enter Try.func12, Try.ntmps12
  go_wp2_with fail
  refine (open_any _ _ HA.out).mono ?_
  rintro e w1 ⟨rfl, hr, hk⟩
  have HR := Lib.hid hr
  have HK := Lib.hid hk
  clear hr hk
  go_wp2_with fail
  refine (grid_any _ _ 0 (by omega) _ HR.out).mono ?_
  rintro e w2 ⟨x, y, rfl, h1, h2, _, hr2, hk2⟩
  have HK2 := Lib.hid (HK.out.trans hk2 (fun x hx => by right; simp at hx; omega))
  clear hr2 hk2
  go_wp2
  go_ret2
  exact ⟨x, y, rfl, h1, h2, HK2.out⟩

set_option maxHeartbeats 1000000 in
set_option maxRecDepth 100000 in
theorem drawSquareTours_any (w : World) (v : Value) (ha : ArgB w v) : Calls Try.prog 19 #[v] w (DrawnGr w) := by
  have HA := Lib.hid ha
  obtain ⟨a, n, cap, rfl, _, _, _⟩ := ha
  go_enter Try.func19, Try.ntmps19
  go_wp2_with fail
  refine (open_any _ _ HA.out).mono ?_
  rintro e w1 ⟨rfl, hr, hk⟩
  have HR := Lib.hid hr
  have HK := Lib.hid hk
  clear hr hk
  go_wp2_with fail
  refine (grid_any _ _ 0 (by omega) _ HR.out).mono ?_
  rintro e w2 ⟨x, y, rfl, h1, h2, _, hr2, hk2⟩
  have HK2 := Lib.hid (HK.out.trans hk2 (fun x hx => by right; simp at hx; omega))
  clear hr2 hk2
  go_wp2
  go_ret2
  exact ⟨x, y, rfl, h1, h2, HK2.out⟩

set_option maxHeartbeats 1000000 in
set_option maxRecDepth 100000 in
theorem drawBorderTour_any (w : World) (v : Value) (ha : ArgB w v) : Calls Try.prog 29 #[v] w (DrawnGr w) := by
  have HA := Lib.hid ha
  obtain ⟨a, n, cap, rfl, _, _, _⟩ := ha
  go_enter Try.func29, Try.ntmps29
  go_wp2_with fail
  refine (open_any _ _ HA.out).mono ?_
  rintro e w1 ⟨rfl, hr, hk⟩
  have HR := Lib.hid hr
  have HK := Lib.hid hk
  clear hr hk
  go_wp2_with fail
  refine (grid_any _ _ 0 (by omega) _ HR.out).mono ?_
  rintro e w2 ⟨x, y, rfl, h1, h2, _, hr2, hk2⟩
  have HK2 := Lib.hid (HK.out.trans hk2 (fun x hx => by right; simp at hx; omega))
  clear hr2 hk2
  go_wp2
  go_ret2
  exact ⟨x, y, rfl, h1, h2, HK2.out⟩

/-- Rows, columns and a state are drawn. -/
def DrawnGs (w : World) (e : Ending) (w' : World) : Prop :=
  ∃ (a b : Nat) (u : Value) (xs : List Int), e = .returned (.tuple #[.int .i64 (a : Int), .int .i64 (b : Int), u]) ∧ a ≤ 5 ∧ b ≤ 4 ∧ Sl w' w.heap.size u xs ∧ xs.length = max (a * b) 1 % 7 ∧ (∀ y, y ∈ xs → 0 ≤ y ∧ y < 3) ∧ Kept [] w w'

set_option maxHeartbeats 2000000 in
set_option maxRecDepth 100000 in
theorem drawSquareWindings_any (w : World) (v : Value) (ha : ArgB w v) : Calls Try.prog 23 #[v] w (DrawnGs w) := by
  have HA := Lib.hid ha
  obtain ⟨a, n, cap, rfl, _, _, _⟩ := ha
  go_enter Try.func23, Try.ntmps23
  go_wp2_with fail
  refine (open_any _ _ HA.out).mono ?_
  rintro e w1 ⟨rfl, hr, hk⟩
  have HR := Lib.hid hr
  have HK := Lib.hid hk
  clear hr hk
  go_wp2_with fail
  refine (grid_any _ _ 0 (by omega) _ HR.out).mono ?_
  rintro e w2 ⟨x, y, rfl, h1, h2, h3, hr2, hk2⟩
  have HR2 := Lib.hid hr2
  have HK2 := Lib.hid (HK.out.trans hk2 (fun x hx => by right; simp at hx; omega))
  have hz := hk2.size
  clear hr2 hk2 HR
  obtain ⟨m, hm⟩ : ∃ m, m = x * y := ⟨_, rfl⟩
  have hm20 : m ≤ 20 := by rw [hm]; exact Nat.le_trans (Nat.mul_le_mul h1 h2) (by decide)
  have hmul : wrap64 ((x : Int) * (y : Int)) = (m : Int) := by
    rw [← Int.natCast_mul, ← hm]; exact IntWalk.wrap64_in _ (by omega)
  have HF := Lib.hid (And.intro h1 (And.intro h2 hm))
  rw [← hm] at h3
  have hq7 : m % 7 < 7 := Nat.mod_lt _ (by omega)
  clear hm h1 h2
  go_wp2_with fail
  all_goals
    obtain ⟨q, hq, hqq⟩ : ∃ q : Nat, q = max m 1 % 7 ∧ q ≤ 6 := ⟨_, rfl, by have := Nat.mod_lt (max m 1) (show 0 < 7 by omega); omega⟩
    have HQ := Lib.hid hq
    have hst := stateOk_any w.heap.size w.heap.size 2 (by omega) q hqq 3 (by omega) (by omega) w2 HR2.out
    first
      | (have hq1 : q = 1 := by rw [hq, Nat.max_eq_right (by omega)]
         have hq1' : ((q : Nat) : Int) = 1 := by omega
         rw [hq1'] at hst)
      | (have hq1 : q = m % 7 := by rw [hq, Nat.max_eq_left (by omega)]
         have hq1' : ((q : Nat) : Int) = (m : Int) % 7 := by omega
         rw [hq1'] at hst)
    have HST := Lib.hid hst
    clear hst hq hq7
    refine HST.out.mono ?_
    rintro e w3 ⟨u, xs, rfl, hs, hl, hin, hr3, hk3⟩
    have HS3 := Lib.hid (hs.mono (Nat.le_trans HK.out.size hz))
    have HK3 := Lib.hid (HK2.out.trans hk3 (fun x hx => by right; simp at hx; omega))
    clear hs hr3 hk3
    go_wp2
    go_ret3
    exact ⟨x, y, u, xs, rfl, HF.out.1, HF.out.2.1, HS3.out, by rw [hl, ← HF.out.2.2, HQ.out], hin, HK3.out⟩
end Go.Proofs.Ytllbdhfckdljgaa
