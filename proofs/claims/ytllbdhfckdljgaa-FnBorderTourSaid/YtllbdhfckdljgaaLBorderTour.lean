/-
  The law BorderTour, walked.
-/
import Derived.Test.YtllbdhfckdljgaaGP
import Derived.Test.YtllbdhfckdljgaaD31
import Derived.Test.YtllbdhfckdljgaaL1
import Derived.Test.YtllbdhfckdljgaaH1
namespace Go.Proofs.Ytllbdhfckdljgaa
open Go.RowKit

set_option maxHeartbeats 4000000 in
set_option maxRecDepth 100000 in
theorem FnBorderTour_calls (w : World) (v : Value) (ha : ArgB w v) :
    Calls Try.prog 6 #[v] w fun e w' => e = .returned (.bool true) ∧ Kept [] w w' := by
  have HA := Lib.hid ha
  obtain ⟨a, len, cap, rfl, hlc, hcm, _⟩ := ha
  by_cases hbig : 1048576 < len
  · have hb : (1048576 : Int) < (len : Int) := by omega
    clear hbig
    go_enter Try.func6, Try.ntmps6
    go_wp2
    go_ret
    exact ⟨rfl, Kept.refl _ _⟩
  have hb : ¬ (1048576 : Int) < (len : Int) := by omega
  clear hbig
  go_enter Try.func6, Try.ntmps6
  go_wp2_with fail
  refine (drawBorderTour_any _ _ HA.out).mono ?_
  rintro e w1 ⟨x, y, rfl, h1, h2, hk⟩
  have HK1 := Lib.hid hk
  clear hk hb h1 h2
  go_wp2_with fail
  refine (iBorder_any _ _ _).mono ?_
  rintro e w2 ⟨u2, rfl, hs, hk⟩
  have HI2 := Lib.hid hs
  have HK2 := Lib.hid (HK1.out.trans hk (by simp))
  clear hs hk HK1
  go_wp2_with fail
  refine (sBorder_any _ _ _).mono ?_
  rintro e w3 ⟨u3, rfl, hs, hk⟩
  have HS3 := Lib.hid hs
  have HI3 := Lib.hid (HI2.out.stay hk)
  have HK3 := Lib.hid (HK2.out.trans hk (by simp))
  clear hs hk HI2 HK2
  go_wp2_with fail
  refine (sameInts_any _ _ _ _ _ _ _ HI3.out HS3.out).mono ?_
  rintro e w4 ⟨rfl, hq⟩
  rw [dec_of (rfl : Nt.bordOf (x : Int) (y : Int) = _)]
  have HI4 := Lib.hid (hq.sl HI3.out)
  have HK4 := Lib.hid (HK3.out.trans hq.kept (by simp))
  clear hq HI3 HS3 HK3
  cases hB : Nt.bordB (x : Int) (y : Int)
  · have hi := HI4.out
    rw [Nt.bordOf_no hB] at hi
    obtain ⟨a4, cap4, rfl, _, _, _⟩ := hi.any
    clear hi
    go_wp2_with (go_at_call 16; refine (alive_any _).mono ?_; rintro e w5 ⟨rfl, hk⟩; have HK5 := Lib.hid (HK4.out.trans hk (by simp)); clear hk)
    go_ret
    exact ⟨rfl, HK5.out⟩
  · obtain ⟨p, q, ex, ey, hp, hq, hp3, hq3, hpq⟩ := Nt.bordB_ok hB
    have e1 : x = p := by omega
    have e2 : y = q := by omega
    subst e1
    subst e2
    have hi := HI4.out
    rw [Nt.bordOf_ok hp hq hpq] at hi
    have hlen := Nt.border_length hp hq hpq
    obtain ⟨ht, _, hr⟩ := Nt.border_tour hp hq hpq
    obtain ⟨L, hL⟩ : ∃ L, L + 1 = (Nt.border x y).length := ⟨(Nt.border x y).length - 1, by omega⟩
    obtain ⟨M, hM⟩ : ∃ M, M = L + 1 := ⟨_, rfl⟩
    obtain ⟨g, cap4, rfl, _, hcz⟩ := hi.row (n := M) (by omega) (by omega)
    have c0 := hcz 0 (by omega)
    have cL := hcz L (by omega)
    have hro : (Nt.border x y).getD 0 0 = (Nt.border x y).getD L 0 := by unfold Nt.Round at hr; rw [← hL] at hr; exact hr
    rw [← hro] at cL
    have ok := Nt.grid_ok (by omega : 1 ≤ x) (by omega : 1 ≤ y) hpq
    have HT := Lib.hid (Nt.tour_tourB ok ht)
    have HGO := Lib.hid (Nt.gridOf_ok (by omega : 1 ≤ x) (by omega : 1 ≤ y) hpq)
    have HI := Lib.hid hi
    generalize (Nt.border x y).getD 0 0 = z at *
    have hLn : L + 1 = 2 * x + 2 * y - 3 := by omega
    clear hi hcz hlen ht hr hro hL hB ex ey ok hpq
    have HGC := Lib.hid (fun (w' : World) => iGrid_any (x : Int) (y : Int) w')
    have s1 : IntKind.i64.wrap ((M : Int) - 1) = (L : Int) := by rw [IntWalk.i64_in _ (by omega)]; omega
    have s2 : IntKind.i64.wrap (2 * (x : Int)) = 2 * (x : Int) := IntWalk.i64_in _ (by omega)
    have s3 : IntKind.i64.wrap (2 * (y : Int)) = 2 * (y : Int) := IntWalk.i64_in _ (by omega)
    have s4 : IntKind.i64.wrap (2 * (x : Int) + 2 * (y : Int)) = 2 * (x : Int) + 2 * (y : Int) := IntWalk.i64_in _ (by omega)
    have s5 : IntKind.i64.wrap (2 * (x : Int) + 2 * (y : Int) - 3) = 2 * (x : Int) + 2 * (y : Int) - 3 := IntWalk.i64_in _ (by omega)
    have e5 : ((M : Int) == 2 * (x : Int) + 2 * (y : Int) - 3) = true := by rw [beq_iff_eq]; omega
    have ezz : ((z : Int) == (z : Int)) = true := by simp
    have n0 : (0 : Int) ≤ (L : Int) := by omega
    have n1 : (L : Int) < (M : Int) := by omega
    have n2 : (0 : Int) < (M : Int) := by omega
    have n3 : 0 < M := by omega
    have hC0 : w4.drew.cell? ⟨g, 0, none⟩ = some (.int .i64 (z : Int)) ∧ w4.drew.cell? ⟨g, L, none⟩ = some (.int .i64 (z : Int)) := ⟨c0, cL⟩
    have HC0 := Lib.hid hC0
    have HGL : Hid (g < w4.heap.size) := Lib.hid (HI.out.block (g := g) rfl).2
    clear c0 cL hC0 hLn hM
    go_wp2_with fail
    go_region_held3 (fun w' => w'.cell? ⟨g, 0, none⟩ = some (.int .i64 (z : Int)) ∧ w'.cell? ⟨g, L, none⟩ = some (.int .i64 (z : Int)))
      (first | exact HC0.out | exact hC5 | go_keep)
      (first
        | (go_simp; go_at_call 13; refine (HGC.out _).mono ?_; rintro e w5 ⟨u5, rfl, hs, hk⟩; have HG5 := Lib.hid hs; have HK5 : Hid (Kept [] w4 w5) := Lib.hid (((Kept.refl [] w4).drew).trans hk (by simp)); have hC5 := And.intro ((hk.cell (p := ⟨g, 0, none⟩) HGL.out (by simp)).trans HC0.out.1) ((hk.cell (p := ⟨g, L, none⟩) HGL.out (by simp)).trans HC0.out.2); have HI5 := Lib.hid (HI.out.stay HK5.out); clear hs hk)
        | (go_simp; go_at_call 22; refine (iTourOk_any _ _ _ _ _ _ _ HG5.out HI5.out).mono ?_; rintro e w6 ⟨rfl, rfl⟩; rw [HGO.out, HT.out]))
    go_wp2
    go_ret
    exact ⟨rfl, HK4.out.trans HK5.out (by simp)⟩
end Go.Proofs.Ytllbdhfckdljgaa
