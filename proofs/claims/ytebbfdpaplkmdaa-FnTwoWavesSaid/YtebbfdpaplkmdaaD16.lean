/-
  Walks: what the laws of waves draw.
-/
import Derived.Test.YtebbfdpaplkmdaaDB
import Derived.Test.YtebbfdpaplkmdaaDC
namespace Go.Proofs.Ytebbfdpaplkmdaa
open Go.RowKit

/-- A net, kinds and a set are drawn, and nothing else has turned. -/
def DrawnWave (w : World) (e : Ending) (w' : World) : Prop :=
  ∃ u xs, ∃ c s : Int, e = .returned (.tuple #[u, .int .i64 c, .int .i64 s]) ∧ 3 ≤ c ∧ c ≤ 1000 ∧ Sl w' w.heap.size u xs ∧ xs.length ≤ 6 ∧ Kept [] w w'
/-- The same, on the way. -/
def DrawsWave (w : World) (R : Nat) (e : Ending) (w' : World) : Prop :=
  ∃ u xs, ∃ c s : Int, e = .returned (.tuple #[u, .int .i64 c, .int .i64 s]) ∧ 3 ≤ c ∧ c ≤ 1000 ∧ Sl w' w.heap.size u xs ∧ xs.length ≤ 6 ∧ Kept [R] w w'

set_option maxHeartbeats 1000000 in
theorem wave_any (B R P : Nat) (hP : P ≤ 70000) (w : World) (hr : Rd w B R P) :
    Calls Try.prog 28 #[.pointer (some ⟨R, 0, none⟩)] w (DrawsWave w R) := by
  have HR := Lib.hid hr
  have hlt := hr.lt
  clear hr
  go_enter Try.func28, Try.ntmps28
  go_wp2_with fail
  refine (set_any B R P (by omega) 14 (by omega) (by omega) _ HR.out).mono ?_
  rintro e w1 ⟨u, xs, s, rfl, hs, hl, hr1, hk1⟩
  have HS1 := Lib.hid hs
  have HR1 := Lib.hid hr1
  have HK1 := Lib.hid hk1
  obtain ⟨b, cap1, rfl, _, _, _⟩ := hs.any
  clear hs hr1 hk1 HR
  go_wp2_with fail
  refine (pick_any B R _ (by omega) 3 (by omega) _ HR1.out).mono ?_
  rintro e w2 ⟨x, rfl, hx0, hx, hr2, hk2⟩
  have hx3 : x < 3 := by omega
  have HR2 := Lib.hid hr2
  have HS2 := Lib.hid (HS1.out.kept hk2 (fun g hg hm => by have := (HS1.out.block hg).1; simp at hm; omega))
  have HK2 := Lib.hid (HK1.out.trans hk2 (by simp))
  clear hr2 hk2 hx HR1 HS1 HK1
  go_wp2_with fail
  refine (pick_any B R _ (by omega) 40 (by omega) _ HR2.out).mono ?_
  rintro e w3 ⟨y, rfl, hy0, hy, hr3, hk3⟩
  have hy60 : y ≤ 100 := by omega
  obtain ⟨d0, d1⟩ := tdiv_small hy0 hy60 (d := 39) (by omega)
  have HS3 := Lib.hid (HS2.out.kept hk3 (fun g hg hm => by have := (HS2.out.block hg).1; simp at hm; omega))
  have HK3 := Lib.hid (HK2.out.trans hk3 (by simp))
  clear hr3 hk3 hy HR2 HS2 HK2
  go_wp2
  go_ret3
  exact ⟨_, xs, _, _, rfl, by omega, by omega, HS3.out, hl, HK3.out⟩

set_option maxHeartbeats 1000000 in
theorem drawArrivalRow_any (w : World) (v : Value) (ha : ArgB w v) : Calls Try.prog 9 #[v] w (DrawnWave w) := by
  have HA := Lib.hid ha
  obtain ⟨a, n, cap, rfl, _, _, _⟩ := ha
  go_enter Try.func9, Try.ntmps9
  go_wp2_with fail
  refine (open_any _ _ HA.out).mono ?_
  rintro e w1 ⟨rfl, hr, hk⟩
  have HR := Lib.hid hr
  have HK := Lib.hid hk
  clear hr hk
  go_wp2_with fail
  refine (wave_any _ _ 0 (by omega) _ HR.out).mono ?_
  rintro e w2 ⟨u, xs, c, s, rfl, hc3, hc5, hs, hl, hk2⟩
  have HS := Lib.hid (hs.mono HK.out.size)
  have HK2 := Lib.hid (HK.out.trans hk2 (fun x hx => by right; simp at hx; omega))
  clear hs hk2
  go_wp2
  go_ret3
  exact ⟨_, xs, _, _, rfl, hc3, hc5, HS.out, hl, HK2.out⟩

set_option maxHeartbeats 1000000 in
theorem drawWaveEnd_any (w : World) (v : Value) (ha : ArgB w v) : Calls Try.prog 17 #[v] w (DrawnWave w) := by
  have HA := Lib.hid ha
  obtain ⟨a, n, cap, rfl, _, _, _⟩ := ha
  go_enter Try.func17, Try.ntmps17
  go_wp2_with fail
  refine (open_any _ _ HA.out).mono ?_
  rintro e w1 ⟨rfl, hr, hk⟩
  have HR := Lib.hid hr
  have HK := Lib.hid hk
  clear hr hk
  go_wp2_with fail
  refine (wave_any _ _ 0 (by omega) _ HR.out).mono ?_
  rintro e w2 ⟨u, xs, c, s, rfl, hc3, hc5, hs, hl, hk2⟩
  have HS := Lib.hid (hs.mono HK.out.size)
  have HK2 := Lib.hid (HK.out.trans hk2 (fun x hx => by right; simp at hx; omega))
  clear hs hk2
  go_wp2
  go_ret3
  exact ⟨_, xs, _, _, rfl, hc3, hc5, HS.out, hl, HK2.out⟩

/-- A net and a small number are drawn, and nothing else has turned. -/
def DrawnSteps (w : World) (e : Ending) (w' : World) : Prop :=
  ∃ u xs, ∃ s : Int, e = .returned (.tuple #[u, .int .i64 s]) ∧ -100000 ≤ s ∧ s ≤ 100000 ∧ Sl w' w.heap.size u xs ∧ xs.length ≤ 6 ∧ Kept [] w w'

set_option maxHeartbeats 1000000 in
theorem drawFewestLights_any (w : World) (v : Value) (ha : ArgB w v) : Calls Try.prog 20 #[v] w (DrawnSteps w) := by
  have HA := Lib.hid ha
  obtain ⟨a, n, cap, rfl, _, _, _⟩ := ha
  go_enter Try.func20, Try.ntmps20
  go_wp2_with fail
  refine (open_any _ _ HA.out).mono ?_
  rintro e w1 ⟨rfl, hr, hk⟩
  have HR := Lib.hid hr
  have HK := Lib.hid hk
  have hRlt := hr.lt
  clear hr hk
  go_wp2_with fail
  refine (net_any _ _ 0 (by omega) 12 (by omega) (by omega) _ HR.out).mono ?_
  rintro e w2 ⟨u, xs, rfl, hs, hl, hr2, hk2⟩
  have HSB := Lib.hid (fun g hg => (hs.block (g := g) hg).1)
  have HS := Lib.hid (hs.mono HK.out.size)
  have HR2 := Lib.hid hr2
  have HK2 := Lib.hid (HK.out.trans hk2 (fun x hx => by right; simp at hx; omega))
  obtain ⟨b1, cap1, rfl, _, _, _⟩ := hs.any
  clear hs hr2 hk2
  go_wp2_with fail
  refine (pick_any _ _ _ (by omega) 4 (by omega) _ HR2.out).mono ?_
  rintro e w3 ⟨x, rfl, hx0, hx, hr3, hk3⟩
  have hx4 : x < 4 := by omega
  have HR3 := Lib.hid hr3
  have HS3 := Lib.hid (HS.out.kept hk3 (fun g hg hm => by have := HSB.out g hg; simp at hm; omega))
  have HK3 := Lib.hid (HK2.out.trans hk3 (fun x hx => by right; simp at hx; omega))
  clear hr3 hk3 HR2 HS HK2 hx
  go_wp2_with fail
  refine (pick_any _ _ _ (by omega) 30 (by omega) _ HR3.out).mono ?_
  rintro e w4 ⟨y, rfl, hy0, hy, hr4, hk4⟩
  have hy60 : y ≤ 100 := by omega
  obtain ⟨d0, d1⟩ := tdiv_small hy0 hy60 (d := 29) (by omega)
  have HS4 := Lib.hid (HS3.out.kept hk4 (fun g hg hm => by have := HSB.out g hg; simp at hm; omega))
  have HK4 := Lib.hid (HK3.out.trans hk4 (fun x hx => by right; simp at hx; omega))
  clear hr4 hk4 HR3 HS3 HK3 hy
  go_wp2
  go_ret2
  exact ⟨_, xs, _, rfl, by omega, by omega, HS4.out, hl, HK4.out⟩

set_option maxHeartbeats 1000000 in
theorem drawLightsFor_any (w : World) (v : Value) (ha : ArgB w v) : Calls Try.prog 24 #[v] w (DrawnSteps w) := by
  have HA := Lib.hid ha
  obtain ⟨a, n, cap, rfl, _, _, _⟩ := ha
  go_enter Try.func24, Try.ntmps24
  go_wp2_with fail
  refine (drawFewestLights_any _ _ HA.out).mono ?_
  rintro e w2 ⟨u, xs, s, rfl, hs1, hs2, hs, hl, hk⟩
  have HS := Lib.hid hs
  have HK := Lib.hid hk
  clear hs hk
  go_wp2
  go_ret2
  exact ⟨_, xs, _, rfl, hs1, hs2, HS.out, hl, HK.out⟩
end Go.Proofs.Ytebbfdpaplkmdaa
