/-
  Walks: what the laws of states draw.
-/
import Derived.Test.YtjogkppgmomggaaD9
import Derived.Test.YtjogkppgmomggaaS6
import Derived.Deep.RegionWith
namespace Go.Proofs.Ytjogkppgmomggaa
open Go.RowKit

theorem tdiv_small {z d : Int} (h0 : 0 ≤ z) (h : z ≤ 100) (hd : 1 ≤ d) : 0 ≤ z.tdiv d ∧ z.tdiv d ≤ 100 := by
  rw [Int.tdiv_eq_ediv_of_nonneg h0]
  have h1 : 0 ≤ z / d := Int.ediv_nonneg h0 (by omega)
  have h2 : z / d ≤ z := Int.ediv_le_self d h0
  omega

/-- A number of kinds and a list of at most six numbers. -/
def DrawsKinds (w : World) (B R P : Nat) (e : Ending) (w' : World) : Prop :=
  ∃ u xs, ∃ c : Int, e = .returned (.tuple #[.int .i64 c, u]) ∧ 0 ≤ c ∧ c ≤ 1000 ∧ Sl w' w.heap.size u xs ∧ xs.length ≤ 6 ∧ Rd w' B R (P + 30) ∧ Kept [R] w w'

set_option maxHeartbeats 1000000 in
theorem kinds_any (B R P : Nat) (hP : P ≤ 80000) (m : Int) (hm : m ≤ 1000) (hm0 : 0 ≤ m) (w : World) (hr : Rd w B R P) :
    Calls Try.prog 34 #[.pointer (some ⟨R, 0, none⟩), .int .i64 m] w (DrawsKinds w B R P) := by
  have HR := Lib.hid hr
  have hlt := hr.lt
  clear hr
  go_enter Try.func34, Try.ntmps34
  go_wp2_with fail
  refine (pick_any B R P (by omega) 3 (by omega) _ HR.out).mono ?_
  rintro e w1 ⟨x, rfl, hx0, hx, hr1, hk1⟩
  have hx3 : x < 3 := by omega
  have HR1 := Lib.hid hr1
  have HK1 := Lib.hid hk1
  clear hr1 hk1 hx HR
  go_wp2_with fail
  refine (pick_any B R _ (by omega) 60 (by omega) _ HR1.out).mono ?_
  rintro e w2 ⟨y, rfl, hy0, hy, hr2, hk2⟩
  have hy60 : y ≤ 100 := by omega
  obtain ⟨d0, d1⟩ := tdiv_small hy0 hy60 (d := 59) (by omega)
  have HR2 := Lib.hid hr2
  have HK2 := Lib.hid (HK1.out.trans hk2 (by simp))
  clear hr2 hk2 hy HR1 HK1
  go_wp2_with fail
  refine (pick_any B R _ (by omega) 6 (by omega) _ HR2.out).mono ?_
  rintro e w3 ⟨z, rfl, hz0, hz, hr3, hk3⟩
  have hz6 : z < 6 := by omega
  have HR3 := Lib.hid hr3
  have HK3 := Lib.hid (HK2.out.trans hk3 (by simp))
  obtain ⟨z1, rfl⟩ := Int.eq_ofNat_of_zero_le hz0
  have HE : Hid ((1 : Int) + (z1 : Int) = ((z1 + 1 : Nat) : Int)) := Lib.hid (by omega)
  clear hr3 hk3 hz HR2 HK2
  go_wp2_with fail
  rw [HE.out]
  refine (state_any B R _ (by omega) (z1 + 1) (by omega) (by omega) (3 + x) (by omega) (by omega) m hm hm0 _ HR3.out).mono ?_
  rintro e w4 ⟨u, xs, rfl, hs4, hl4, hr4, hk4⟩
  have HR4 := Lib.hid hr4
  have HS4 := Lib.hid (hs4.mono HK3.out.size)
  have HK4 := Lib.hid (HK3.out.trans hk4 (by simp))
  clear hs4 hr4 hk4
  go_wp2
  go_ret2
  exact ⟨_, xs, _, rfl, by omega, by omega, HS4.out, hl4, HR4.out.mono (by omega), HK4.out⟩

/-- Kinds and a state are drawn, and nothing else has turned. -/
def DrawnKinds (w : World) (e : Ending) (w' : World) : Prop :=
  ∃ u xs, ∃ c : Int, e = .returned (.tuple #[.int .i64 c, u]) ∧ -1000 ≤ c ∧ c ≤ 1000 ∧ Sl w' w.heap.size u xs ∧ xs.length ≤ 6 ∧ Kept [] w w'

set_option maxHeartbeats 1000000 in
theorem drawStateOk_any (w : World) (v : Value) (ha : ArgB w v) : Calls Try.prog 10 #[v] w (DrawnKinds w) := by
  have HA := Lib.hid ha
  obtain ⟨a, n, cap, rfl, _, _, _⟩ := ha
  go_enter Try.func10, Try.ntmps10
  go_wp2_with fail
  refine (open_any _ _ HA.out).mono ?_
  rintro e w1 ⟨rfl, hr, hk⟩
  have HR := Lib.hid hr
  have HK := Lib.hid hk
  clear hr hk
  go_wp2_with fail
  refine (kinds_any _ _ 0 (by omega) 3 (by omega) (by omega) _ HR.out).mono ?_
  rintro e w2 ⟨u, xs, c, rfl, hc0, hc1, hs, hl, hr2, hk2⟩
  have HS := Lib.hid (hs.mono HK.out.size)
  have HSB := Lib.hid (fun g hg => (hs.block (g := g) hg).1)
  have HR2 := Lib.hid hr2
  have HK2 := Lib.hid (HK.out.trans hk2 (fun x hx => by right; simp at hx; omega))
  have hRlt := HR.out.lt
  clear hs hr2 hk2
  go_wp2_with fail
  refine (pick_any _ _ _ (by omega) 9 (by omega) _ HR2.out).mono ?_
  rintro e w3 ⟨y, rfl, hy0, hy, hr3, hk3⟩
  have hy60 : y ≤ 100 := by omega
  obtain ⟨d0, d1⟩ := tdiv_small hy0 hy60 (d := 8) (by omega)
  have HK3 := Lib.hid (HK2.out.trans hk3 (fun x hx => by right; simp at hx; omega))
  have HS3 := Lib.hid (HS.out.kept hk3 (fun g hg hm => by have := HSB.out g hg; simp at hm; omega))
  clear hr3 hk3 hy
  go_wp2
  go_ret2
  exact ⟨_, xs, _, rfl, by omega, by omega, HS3.out, hl, HK3.out⟩

set_option maxHeartbeats 1000000 in
theorem drawCountsOf_any (w : World) (v : Value) (ha : ArgB w v) : Calls Try.prog 14 #[v] w (DrawnKinds w) := by
  have HA := Lib.hid ha
  obtain ⟨a, n, cap, rfl, _, _, _⟩ := ha
  go_enter Try.func14, Try.ntmps14
  go_wp2_with fail
  refine (open_any _ _ HA.out).mono ?_
  rintro e w1 ⟨rfl, hr, hk⟩
  have HR := Lib.hid hr
  have HK := Lib.hid hk
  clear hr hk
  go_wp2_with fail
  refine (kinds_any _ _ 0 (by omega) 9 (by omega) (by omega) _ HR.out).mono ?_
  rintro e w2 ⟨u, xs, c, rfl, hc0, hc1, hs, hl, hr2, hk2⟩
  have HS := Lib.hid (hs.mono HK.out.size)
  have HK2 := Lib.hid (HK.out.trans hk2 (fun x hx => by right; simp at hx; omega))
  clear hs hr2 hk2
  go_wp2
  go_ret2
  exact ⟨_, xs, _, rfl, by omega, by omega, HS.out, hl, HK2.out⟩

set_option maxHeartbeats 1000000 in
theorem drawRaisedState_any (w : World) (v : Value) (ha : ArgB w v) : Calls Try.prog 22 #[v] w (DrawnKinds w) := by
  have HA := Lib.hid ha
  obtain ⟨a, n, cap, rfl, _, _, _⟩ := ha
  go_enter Try.func22, Try.ntmps22
  go_wp2_with fail
  refine (open_any _ _ HA.out).mono ?_
  rintro e w1 ⟨rfl, hr, hk⟩
  have HR := Lib.hid hr
  have HK := Lib.hid hk
  clear hr hk
  go_wp2_with fail
  refine (kinds_any _ _ 0 (by omega) 9 (by omega) (by omega) _ HR.out).mono ?_
  rintro e w2 ⟨u, xs, c, rfl, hc0, hc1, hs, hl, hr2, hk2⟩
  have HS := Lib.hid (hs.mono HK.out.size)
  have HK2 := Lib.hid (HK.out.trans hk2 (fun x hx => by right; simp at hx; omega))
  clear hs hr2 hk2
  go_wp2
  go_ret2
  exact ⟨_, xs, _, rfl, by omega, by omega, HS.out, hl, HK2.out⟩

set_option maxHeartbeats 1000000 in
theorem drawNumberOf_any (w : World) (v : Value) (ha : ArgB w v) : Calls Try.prog 27 #[v] w (DrawnKinds w) := by
  have HA := Lib.hid ha
  obtain ⟨a, n, cap, rfl, _, _, _⟩ := ha
  go_enter Try.func27, Try.ntmps27
  go_wp2_with fail
  refine (open_any _ _ HA.out).mono ?_
  rintro e w1 ⟨rfl, hr, hk⟩
  have HR := Lib.hid hr
  have HK := Lib.hid hk
  clear hr hk
  go_wp2_with fail
  refine (kinds_any _ _ 0 (by omega) 9 (by omega) (by omega) _ HR.out).mono ?_
  rintro e w2 ⟨u, xs, c, rfl, hc0, hc1, hs, hl, hr2, hk2⟩
  have HS := Lib.hid (hs.mono HK.out.size)
  have HK2 := Lib.hid (HK.out.trans hk2 (fun x hx => by right; simp at hx; omega))
  clear hs hr2 hk2
  go_wp2
  go_ret2
  exact ⟨_, xs, _, rfl, by omega, by omega, HS.out, hl, HK2.out⟩

/-- Kinds, a state and an order. -/
def DrawnThree (w : World) (e : Ending) (w' : World) : Prop :=
  ∃ u xs, ∃ v ys, ∃ c : Int, e = .returned (.tuple #[.int .i64 c, u, v]) ∧ Sl w' w.heap.size u xs ∧ Sl w' w.heap.size v ys ∧ xs.length ≤ 6 ∧ Kept [] w w'

set_option maxHeartbeats 1000000 in
theorem drawNamedState_any (w : World) (v : Value) (ha : ArgB w v) : Calls Try.prog 24 #[v] w (DrawnThree w) := by
  have HA := Lib.hid ha
  obtain ⟨a, n, cap, rfl, _, _, _⟩ := ha
  go_enter Try.func24, Try.ntmps24
  go_wp2_with fail
  refine (open_any _ _ HA.out).mono ?_
  rintro e w1 ⟨rfl, hr, hk⟩
  have HR := Lib.hid hr
  have HK := Lib.hid hk
  clear hr hk
  go_wp2_with fail
  refine (kinds_any _ _ 0 (by omega) 14 (by omega) (by omega) _ HR.out).mono ?_
  rintro e w2 ⟨u, xs, c, rfl, hc0, hc1, hs, hl, hr2, hk2⟩
  obtain ⟨b, cap1, rfl, _, _, _⟩ := hs.any
  have HS := Lib.hid (hs.mono HK.out.size)
  have HSB := Lib.hid (fun g hg => (hs.block (g := g) hg).1)
  have HR2 := Lib.hid hr2
  have HK2 := Lib.hid (HK.out.trans hk2 (fun x hx => by right; simp at hx; omega))
  have hRlt := HR.out.lt
  clear hs hr2 hk2
  go_wp2_with fail
  refine (order_any _ _ _ (by omega) xs.length (by omega) 14 (by omega) (by omega) _ HR2.out).mono ?_
  rintro e w3 ⟨u3, ys, rfl, hs3, hl3, hr3, hk3⟩
  have HK3 := Lib.hid (HK2.out.trans hk3 (fun x hx => by right; simp at hx; omega))
  have HS3 := Lib.hid (HS.out.kept hk3 (fun g hg hm => by have := HSB.out g hg; simp at hm; omega))
  have HT3 := Lib.hid (hs3.mono HK2.out.size)
  clear hs3 hr3 hk3
  go_wp2
  go_ret3
  exact ⟨_, xs, _, ys, _, rfl, HS3.out, HT3.out, hl, HK3.out⟩
end Go.Proofs.Ytjogkppgmomggaa
