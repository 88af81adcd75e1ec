/-
  Walks: a net and a node drawn; two nets drawn.
-/
import Derived.Test.YtjogkppgmomggacD4
namespace Go.Proofs.Ytjogkppgmomggac
open Go.RowKit

/-- A list of at most six numbers and a number, and nothing else has turned. -/
def DrawnIx (w : World) (e : Ending) (w' : World) : Prop :=
  ∃ u xs, ∃ x : Int, e = .returned (.tuple #[u, .int .i64 x]) ∧ Sl w' w.heap.size u xs ∧ xs.length ≤ 6 ∧ Kept [] w w'

theorem tdiv39 {z : Int} (h0 : 0 ≤ z) (h : z ≤ 40) : 0 ≤ z.tdiv 39 ∧ z.tdiv 39 ≤ 1 := by
  rw [Int.tdiv_eq_ediv_of_nonneg h0]
  omega

set_option maxHeartbeats 1000000 in
theorem drawFarthestOf_any (w : World) (v : Value) (ha : ArgB w v) : Calls Try.prog 27 #[v] w (DrawnIx w) := by
  have HA := Lib.hid ha
  obtain ⟨a, n, cap, rfl, _, _, _⟩ := ha
  go_enter Try.func27, Try.ntmps27
  go_wp2_with fail
  refine (open_any _ _ HA.out).mono ?_
  rintro e w1 ⟨rfl, hr, hk⟩
  have HR := Lib.hid hr
  have HK := Lib.hid hk
  clear hr hk
  go_wp2_with fail
  refine (net_any _ _ 0 (by omega) 12 (by omega) (by omega) _ HR.out).mono ?_
  rintro e w2 ⟨u, xs, rfl, hs, hl, hr2, hk2⟩
  obtain ⟨b, cap1, rfl, _, _, _⟩ := hs.any
  have HS := Lib.hid (hs.mono HK.out.size)
  have HSB := Lib.hid (fun g hg => (hs.block (g := g) hg).1)
  have HR2 := Lib.hid hr2
  have HK2 := Lib.hid (HK.out.trans hk2 (fun x hx => by right; simp at hx; omega))
  have hRlt := HR.out.lt
  clear hs hr2 hk2
  by_cases h1 : 1 ≤ xs.length
  all_goals
    have h1' : (1 : Int) ≤ (xs.length : Int) ∨ (xs.length : Int) < 1 := by omega
    go_wp2_with fail
    (with_reducible refine (pick_any _ _ _ (by omega) _ (by omega) _ HR2.out).mono ?_)
    rintro e w3 ⟨x, rfl, hx0, hx, hr3, hk3⟩
    have hx7 : x < 7 := by omega
    have HR3 := Lib.hid hr3
    have HK3 := Lib.hid (HK2.out.trans hk3 (fun x hx => by right; simp at hx; omega))
    have HS3 := Lib.hid (HS.out.kept hk3 (fun g hg hm => by have := HSB.out g hg; simp at hm; omega))
    clear hr3 hk3 hx h1'
    go_wp2_with fail
    (with_reducible refine (pick_any _ _ _ (by omega) _ (by omega) _ HR3.out).mono ?_)
    rintro e w4 ⟨z, rfl, hz0, hz, hr4, hk4⟩
    have hz40 : z ≤ 40 := by omega
    have HK4 := Lib.hid (HK3.out.trans hk4 (fun x hx => by right; simp at hx; omega))
    have HS4 := Lib.hid (HS3.out.kept hk4 (fun g hg hm => by have := HSB.out g hg; simp at hm; omega))
    obtain ⟨d0, d1⟩ := tdiv39 hz0 hz40
    clear hr4 hk4 hz hz40 hz0
    go_wp2
    go_ret2
    exact ⟨_, xs, _, rfl, HS4.out, hl, HK4.out⟩

/-- Two lists of numbers, and nothing else has turned. -/
def DrawnPair (w : World) (e : Ending) (w' : World) : Prop :=
  ∃ u xs, ∃ v ys, e = .returned (.tuple #[u, v]) ∧ Sl w' w.heap.size u xs ∧ Sl w' w.heap.size v ys ∧ xs.length ≤ 6 ∧ Kept [] w w'

set_option maxHeartbeats 1000000 in
theorem drawJoinedNet_any (w : World) (v : Value) (ha : ArgB w v) : Calls Try.prog 17 #[v] w (DrawnPair w) := by
  have HA := Lib.hid ha
  obtain ⟨a, n, cap, rfl, _, _, _⟩ := ha
  go_enter Try.func17, Try.ntmps17
  go_wp2_with fail
  refine (open_any _ _ HA.out).mono ?_
  rintro e w1 ⟨rfl, hr, hk⟩
  have HR := Lib.hid hr
  have HK := Lib.hid hk
  clear hr hk
  go_wp2_with fail
  refine (pick_any _ _ 0 (by omega) 4 (by omega) _ HR.out).mono ?_
  rintro e w2 ⟨x, rfl, hx0, hx, hr2, hk2⟩
  have hx4 : x < 4 := by omega
  have HR2 := Lib.hid hr2
  have HK2 := Lib.hid (HK.out.trans hk2 (fun x hx => by right; simp at hx; omega))
  have hRlt := HR2.out.lt
  obtain ⟨n1, rfl⟩ := Int.eq_ofNat_of_zero_le hx0
  have HE : Hid ((1 : Int) + (n1 : Int) = ((n1 + 1 : Nat) : Int)) := Lib.hid (by omega)
  clear hr2 hk2 hx hx0 HR HK
  go_wp2_with fail
  rw [HE.out]
  refine (sPath_any ((n1 + 1 : Nat) : Int) _).mono ?_
  rintro e w3 ⟨u3, rfl, hs3, hk3⟩
  have HL3 := Lib.hid (pathOf_len (n1 + 1) ⟨by omega, by omega⟩)
  have HR3 := Lib.hid (HR2.out.kept hk3 (by simp))
  have HK3 := Lib.hid (HK2.out.trans hk3 (by simp))
  have HS3 := Lib.hid (hs3.mono HK2.out.size)
  have HSB := Lib.hid (fun g hg => (hs3.block (g := g) hg).1)
  clear hs3 hk3 HR2 HK2
  go_wp2_with fail
  refine (odd_any _ _ _ (by omega) 9 (by omega) (by omega) _ HR3.out).mono ?_
  rintro e w4 ⟨o, rfl, hr4, hk4⟩
  have HR4 := Lib.hid hr4
  have HK4 := Lib.hid (HK3.out.trans hk4 (fun x hx => by right; simp at hx; omega))
  have HS4 := Lib.hid (HS3.out.kept hk4 (fun g hg hm => by have := HSB.out g hg; simp at hm; omega))
  clear hr4 hk4 HR3 HK3 HS3
  cases o
  · go_wp2_with fail
    refine (net_any _ _ _ (by omega) 14 (by omega) (by omega) _ HR4.out).mono ?_
    rintro e w5 ⟨u5, ys, rfl, hs5, hl5, hr5, hk5⟩
    have HK5 := Lib.hid (HK4.out.trans hk5 (fun x hx => by right; simp at hx; omega))
    have HS5 := Lib.hid (HS4.out.kept hk5 (fun g hg hm => by have := HSB.out g hg; simp at hm; omega))
    have HT5 := Lib.hid (hs5.mono HK4.out.size)
    clear hs5 hr5 hk5
    go_wp2
    go_ret2
    exact ⟨_, _, _, ys, rfl, HS5.out, HT5.out, by rw [HL3.out]; omega, HK5.out⟩
  · go_wp2_with fail
    refine (net_any _ _ _ (by omega) 2 (by omega) (by omega) _ HR4.out).mono ?_
    rintro e w5 ⟨u5, ys, rfl, hs5, hl5, hr5, hk5⟩
    have HR5 := Lib.hid hr5
    have HK5 := Lib.hid (HK4.out.trans hk5 (fun x hx => by right; simp at hx; omega))
    have HT5 := Lib.hid (hs5.mono HK4.out.size)
    have HTB := Lib.hid (fun g hg => (hs5.block (g := g) hg).1)
    have hRlt5 := HR4.out.lt
    clear hs5 hr5 hk5 HS4 HSB
    go_wp2_with fail
    refine (net_any _ _ _ (by omega) 14 (by omega) (by omega) _ HR5.out).mono ?_
    rintro e w6 ⟨u6, zs, rfl, hs6, hl6, hr6, hk6⟩
    have HK6 := Lib.hid (HK5.out.trans hk6 (fun x hx => by right; simp at hx; omega))
    have HS6 := Lib.hid (HT5.out.kept hk6 (fun g hg hm => by have := HTB.out g hg; simp at hm; omega))
    have HT6 := Lib.hid (hs6.mono HK5.out.size)
    clear hs6 hr6 hk6
    go_wp2
    go_ret2
    exact ⟨_, ys, _, zs, rfl, HS6.out, HT6.out, hl5, HK6.out⟩
end Go.Proofs.Ytjogkppgmomggac
