/-
  Walks: what the laws of fronts draw.
-/
import Derived.Test.YtdpkacpeednnoaaDD
import Derived.Test.YtdpkacpeednnoaaYM
namespace Go.Proofs.Ytdpkacpeednnoaa
open Go.RowKit

/-- One row is drawn, and nothing else has turned. -/
def DrawnL (w : World) (e : Ending) (w' : World) : Prop :=
  ∃ u xs, e = .returned u ∧ Sl w' w.heap.size u xs ∧ xs.length ≤ 6 ∧ Kept [] w w'
def DrawsRow (w : World) (B R P : Nat) (e : Ending) (w' : World) : Prop :=
  ∃ u xs, e = .returned u ∧ Sl w' w.heap.size u xs ∧ xs.length ≤ 6 ∧ Rd w' B R (P + 30) ∧ Kept [R] w w'
theorem Rd.more {w : World} {B R P Q : Nat} (h : Rd w B R P) (hq : P ≤ Q) : Rd w B R Q := by
  obtain ⟨hB, a, n, c, p, ty, hh, hp, hn, hc⟩ := h
  exact ⟨hB, a, n, c, p, ty, hh, by omega, hn, hc⟩

set_option maxHeartbeats 1000000 in
set_option maxRecDepth 100000 in
theorem ring_any (B R P : Nat) (hP : P ≤ 50000) (m : Int) (hm : m ≤ 1000) (hm0 : 0 ≤ m) (w : World) (hr : Rd w B R P) :
    Calls Try.prog 44 #[.pointer (some ⟨R, 0, none⟩), .int .i64 m] w (DrawsRow w B R P) := by
  have HR := Lib.hid hr
  clear hr
  go_enter Try.func44, Try.ntmps44
  go_wp2_with fail
  refine (pick_any _ _ _ (by omega) 4 (by omega) _ HR.out).mono ?_
  rintro e w2 ⟨x, rfl, hx0, hx, hr2, hk2⟩
  obtain ⟨x, rfl⟩ := Int.eq_ofNat_of_zero_le hx0
  have hx4 : x < 4 := by omega
  have HR2 := Lib.hid hr2
  have HK2 := Lib.hid hk2
  obtain ⟨q, hq⟩ : ∃ q, q = 3 + x := ⟨_, rfl⟩
  have e1 : (3 : Int) + (x : Int) = (q : Int) := by omega
  have hq3 : 3 ≤ q := by omega
  have hq6 : q ≤ 6 := by omega
  clear hr2 hk2 hx hq hx4 hx0
  go_wp2_with fail
  clear e1
  refine (state_any _ _ _ (by omega) q (by omega) (by omega) 3 (by omega) (by omega) m (by omega) (by omega) _ HR2.out).mono ?_
  rintro e w3 ⟨u, xs, rfl, hs, hl, hr3, hk3⟩
  have HS3 := Lib.hid (hs.mono HK2.out.size)
  have HR3 := Lib.hid (hr3.more (Q := P + 30) (by omega))
  have HK3 := Lib.hid (HK2.out.trans hk3 (fun x hx => .inl hx))
  clear hs hr3 hk3
  go_wp2
  go_ret
  exact ⟨_, xs, rfl, HS3.out, hl, HR3.out, HK3.out⟩

set_option maxHeartbeats 1000000 in
set_option maxRecDepth 100000 in
theorem fronts_any (B R P : Nat) (hP : P ≤ 50000) (w : World) (hr : Rd w B R P) :
    Calls Try.prog 53 #[.pointer (some ⟨R, 0, none⟩)] w fun e w' => ∃ u xs, e = .returned u ∧ Sl w' w.heap.size u xs ∧ xs.length ≤ 6 ∧ Rd w' B R (P + 60) ∧ Kept [R] w w' := by
  have HR := Lib.hid hr
  have hRlt := hr.lt
  clear hr
  go_enter Try.func53, Try.ntmps53
  go_wp2_with fail
  refine (ring_any _ _ _ hP 12 (by omega) (by omega) _ HR.out).mono ?_
  rintro e w2 ⟨u, ys, rfl, hs, hl, hr2, hk2⟩
  have HS2 := Lib.hid hs
  have HR2 := Lib.hid hr2
  have HK2 := Lib.hid hk2
  clear hs hr2 hk2 hl
  go_wp2_with fail
  refine (sFrontRow_any ys _ _ _ HS2.out).mono ?_
  rintro e w3 ⟨z, rfl, hs3, hk3⟩
  have hzl := Nt.frontsOf_small ys
  generalize Nt.frontsOf ys = xs at *
  have HZG := Lib.hid (fun g (hg : z.ownBlock = some g) => (hs3.block hg).1)
  have HZ3 := Lib.hid (hs3.mono HK2.out.size)
  have HR3 := Lib.hid (HR2.out.kept hk3 (by simp))
  have HK3 := Lib.hid (HK2.out.trans hk3 (by simp))
  have hsz : w.heap.size ≤ w2.heap.size := HK2.out.size
  clear hs3 hk3 HS2 HR2 HK2
  obtain ⟨a, cap, rfl, _, _, _⟩ := HZ3.out.any
  go_wp2_with fail
  refine (odd_any _ _ _ (by omega) 12 (by omega) (by omega) _ HR3.out).mono ?_
  rintro e w4 ⟨o, rfl, hr4, hk4⟩
  have HZ4 := Lib.hid (HZ3.out.kept hk4 (fun g hg hm => by have := HZG.out g hg; simp at hm; omega))
  have HR4 := Lib.hid hr4
  have HK4 := Lib.hid (HK3.out.trans hk4 (fun x hx => .inl hx))
  clear hr4 hk4 HZ3 HR3 HK3
  cases o
  · go_wp2_with fail
    go_ret
    exact ⟨_, xs, rfl, HZ4.out, hzl, HR4.out.more (by omega), HK4.out⟩
  · by_cases h0 : 0 < xs.length
    · have d1 : decide ((0 : Int) < (xs.length : Int)) = true := decide_eq_true (by omega)
      have d2 : decide (0 < xs.length) = true := decide_eq_true h0
      obtain ⟨g, c, e5, hg0, hg⟩ := HZ4.out.shape rfl h0
      simp at e5
      obtain ⟨rfl, rfl⟩ := e5
      have hgR : w2.heap.size ≤ g := HZG.out g rfl
      go_wp2_with fail
      refine (pick_any _ _ _ (by omega) 4 (by omega) _ HR4.out).mono ?_
      rintro e w5 ⟨x, rfl, hx0, hx, hr5, hk5⟩
      have hx4 : x < 4 := by omega
      have hsl := HZ4.out.kept hk5 (fun g' hg' hm => by have := HZG.out g' hg'; simp at hm; omega)
      obtain ⟨cz, fz⟩ := hsl.at 0 h0
      have HZ5 := Lib.hid hsl
      have HR5 := Lib.hid hr5
      have HK5 := Lib.hid (HK4.out.trans hk5 (fun x hx => .inl hx))
      have s1 : IntKind.i64.wrap (x - 2) = x - 2 := IntWalk.i64_in _ (by omega)
      generalize xs.getD 0 0 = y at *
      clear hr5 hk5 hsl HZ4 HR4 HK4 hx
      go_wp2
      go_ret
      exact ⟨_, _, rfl, HZ5.out.set rfl 0 _, by rw [List.length_set]; exact hzl, (HR5.out.kept (((Kept.refl [g] w5)).setCell (p := ⟨g, 0, none⟩) (.inl (by simp)) _) (by intro x hx; simp at hx; subst hx; have := HR5.out.1; constructor <;> omega)).more (by omega), HK5.out.setCell (.inr hg0) _⟩
    · have d1 : decide ((0 : Int) < (xs.length : Int)) = false := decide_eq_false (by omega)
      have d2 : decide (0 < xs.length) = false := decide_eq_false h0
      go_wp2_with fail
      go_ret
      exact ⟨_, xs, rfl, HZ4.out, hzl, HR4.out.more (by omega), HK4.out⟩

set_option maxHeartbeats 1000000 in
set_option maxRecDepth 100000 in
theorem drawFrontRow_any (w : World) (v : Value) (ha : ArgB w v) : Calls Try.prog 11 #[v] w (DrawnL w) := by
  have HA := Lib.hid ha
  obtain ⟨a, n, cap, rfl, _, _, _⟩ := ha
  go_enter Try.func11, Try.ntmps11
  go_wp2_with fail
  refine (open_any _ _ HA.out).mono ?_
  rintro e w1 ⟨rfl, hr, hk⟩
  have HR := Lib.hid hr
  have HK := Lib.hid hk
  have hRlt := hr.lt
  have hsw : w.heap.size ≤ w1.heap.size := hk.size
  clear hr hk
  go_wp2_with fail
  refine (odd_any _ _ _ (by omega) 12 (by omega) (by omega) _ HR.out).mono ?_
  rintro e w2 ⟨o, rfl, hr2, hk2⟩
  have HR2 := Lib.hid hr2
  have HK2 := Lib.hid (HK.out.trans hk2 (fun x hx => by right; simp at hx; omega))
  have hs2 : w1.heap.size ≤ w2.heap.size := hk2.size
  clear hr2 hk2 HK HR
  cases o
  · go_wp2_with fail
    refine (ring_any _ _ _ (by omega) 9 (by omega) (by omega) _ HR2.out).mono ?_
    rintro e w3 ⟨u, xs, rfl, hs, hl, _, hk3⟩
    have HS3 := Lib.hid (hs.mono HK2.out.size)
    have HK3 := Lib.hid (HK2.out.trans hk3 (fun x hx => by right; simp at hx; omega))
    clear hs hk3
    go_wp2_with fail
    go_ret
    exact ⟨_, xs, rfl, HS3.out, hl, HK3.out⟩
  · go_wp2_with fail
    refine (pick_any _ _ _ (by omega) 2 (by omega) _ HR2.out).mono ?_
    rintro e w3 ⟨x, rfl, hx0, hx, hr3, hk3⟩
    obtain ⟨x, rfl⟩ := Int.eq_ofNat_of_zero_le hx0
    have HR3 := Lib.hid hr3
    have HK3 := Lib.hid (HK2.out.trans hk3 (fun x hx => by right; simp at hx; omega))
    obtain ⟨q, hq⟩ : ∃ q, q = 1 + x := ⟨_, rfl⟩
    have e1 : (1 : Int) + (x : Int) = (q : Int) := by omega
    have hx2 : x < 2 := by omega
    have hq1 : 1 ≤ q := by omega
    have hq6 : q ≤ 6 := by omega
    clear hr3 hk3 hx hq hx2 hx0
    go_wp2_with fail
    clear e1
    refine (state_any _ _ _ (by omega) q hq1 hq6 3 (by omega) (by omega) 0 (by omega) (by omega) _ HR3.out).mono ?_
    rintro e w4 ⟨u, xs, rfl, hs, hl, _, hk4⟩
    have HS4 := Lib.hid (hs.mono HK3.out.size)
    have HK4 := Lib.hid (HK3.out.trans hk4 (fun x hx => by right; simp at hx; omega))
    clear hs hk4
    go_wp2_with fail
    go_ret
    exact ⟨_, xs, rfl, HS4.out, hl, HK4.out⟩

set_option maxHeartbeats 1000000 in
set_option maxRecDepth 100000 in
theorem drawRingWinding_any (w : World) (v : Value) (ha : ArgB w v) : Calls Try.prog 28 #[v] w (DrawnL w) := by
  have HA := Lib.hid ha
  obtain ⟨a, n, cap, rfl, _, _, _⟩ := ha
  go_enter Try.func28, Try.ntmps28
  go_wp2_with fail
  refine (open_any _ _ HA.out).mono ?_
  rintro e w1 ⟨rfl, hr, hk⟩
  have HR := Lib.hid hr
  have HK := Lib.hid hk
  have hRlt := hr.lt
  have hsw : w.heap.size ≤ w1.heap.size := hk.size
  clear hr hk
  go_wp2_with fail
  refine (odd_any _ _ _ (by omega) 12 (by omega) (by omega) _ HR.out).mono ?_
  rintro e w2 ⟨o, rfl, hr2, hk2⟩
  have HR2 := Lib.hid hr2
  have HK2 := Lib.hid (HK.out.trans hk2 (fun x hx => by right; simp at hx; omega))
  have hs2 : w1.heap.size ≤ w2.heap.size := hk2.size
  clear hr2 hk2 HK HR
  cases o
  · go_wp2_with fail
    refine (ring_any _ _ _ (by omega) 9 (by omega) (by omega) _ HR2.out).mono ?_
    rintro e w3 ⟨u, xs, rfl, hs, hl, _, hk3⟩
    have HS3 := Lib.hid (hs.mono HK2.out.size)
    have HK3 := Lib.hid (HK2.out.trans hk3 (fun x hx => by right; simp at hx; omega))
    clear hs hk3
    go_wp2_with fail
    go_ret
    exact ⟨_, xs, rfl, HS3.out, hl, HK3.out⟩
  · go_wp2_with fail
    go_ret
    exact ⟨_, [0, 1], rfl, (Sl.lit w2 [0, 1] (by simp)).mono HK2.out.size, by simp, HK2.out.alloc _⟩

set_option maxHeartbeats 1000000 in
set_option maxRecDepth 100000 in
theorem drawFrontStep_any (w : World) (v : Value) (ha : ArgB w v) : Calls Try.prog 20 #[v] w (DrawnL w) := by
  have HA := Lib.hid ha
  obtain ⟨a, n, cap, rfl, _, _, _⟩ := ha
  go_enter Try.func20, Try.ntmps20
  go_wp2_with fail
  refine (open_any _ _ HA.out).mono ?_
  rintro e w1 ⟨rfl, hr, hk⟩
  have HR := Lib.hid hr
  have HK := Lib.hid hk
  have hRlt := hr.lt
  have hsw : w.heap.size ≤ w1.heap.size := hk.size
  clear hr hk
  go_wp2_with fail
  refine (fronts_any _ _ _ (by omega) _ HR.out).mono ?_
  rintro e w2 ⟨u, xs, rfl, hs, hl, _, hk2⟩
  have HS2 := Lib.hid (hs.mono HK.out.size)
  have HK2 := Lib.hid (HK.out.trans hk2 (fun x hx => by right; simp at hx; omega))
  clear hs hk2
  go_wp2_with fail
  go_ret
  exact ⟨_, xs, rfl, HS2.out, hl, HK2.out⟩

set_option maxHeartbeats 1000000 in
set_option maxRecDepth 100000 in
theorem drawStateOfFronts_any (w : World) (v : Value) (ha : ArgB w v) : Calls Try.prog 25 #[v] w (fun e w' => ∃ u xs, ∃ x : Int, e = .returned (.tuple #[.int .i64 x, u]) ∧ 0 ≤ x ∧ x ≤ 2 ∧ Sl w' w.heap.size u xs ∧ xs.length ≤ 6 ∧ Kept [] w w') := by
  have HA := Lib.hid ha
  obtain ⟨a, n, cap, rfl, _, _, _⟩ := ha
  go_enter Try.func25, Try.ntmps25
  go_wp2_with fail
  refine (open_any _ _ HA.out).mono ?_
  rintro e w1 ⟨rfl, hr, hk⟩
  have HR := Lib.hid hr
  have HK := Lib.hid hk
  have hRlt := hr.lt
  have hsw : w.heap.size ≤ w1.heap.size := hk.size
  clear hr hk
  go_wp2_with fail
  refine (fronts_any _ _ _ (by omega) _ HR.out).mono ?_
  rintro e w2 ⟨u, xs, rfl, hs, hl, hr2, hk2⟩
  have HSG := Lib.hid (fun g (hg : u.ownBlock = some g) => (hs.block hg).1)
  have HS2 := Lib.hid (hs.mono HK.out.size)
  have HR2 := Lib.hid hr2
  have HK2 := Lib.hid (HK.out.trans hk2 (fun x hx => by right; simp at hx; omega))
  clear hs hk2 hr2
  go_wp2_with fail
  refine (pick_any _ _ _ (by omega) 3 (by omega) _ HR2.out).mono ?_
  rintro e w3 ⟨x, rfl, hx0, hx, hr3, hk3⟩
  have hx2 : x ≤ 2 := by omega
  have HS3 := Lib.hid (HS2.out.kept hk3 (fun g hg hm => by have := HSG.out g hg; simp at hm; omega))
  have HK3 := Lib.hid (HK2.out.trans hk3 (fun x hx => by right; simp at hx; omega))
  clear hr3 hk3 hx
  go_wp2_with fail
  go_ret2
  exact ⟨_, xs, _, rfl, hx0, hx2, HS3.out, hl, HK3.out⟩

set_option maxHeartbeats 1000000 in
set_option maxRecDepth 100000 in
theorem drawFrontCount_any (w : World) (v : Value) (ha : ArgB w v) : Calls Try.prog 37 #[v] w (fun e w' => ∃ u xs, ∃ x : Int, e = .returned (.tuple #[u, .int .i64 x]) ∧ Sl w' w.heap.size u xs ∧ xs.length ≤ 6 ∧ Kept [] w w') := by
  have HA := Lib.hid ha
  obtain ⟨a, n, cap, rfl, _, _, _⟩ := ha
  go_enter Try.func37, Try.ntmps37
  go_wp2_with fail
  refine (open_any _ _ HA.out).mono ?_
  rintro e w1 ⟨rfl, hr, hk⟩
  have HR := Lib.hid hr
  have HK := Lib.hid hk
  have hRlt := hr.lt
  have hsw : w.heap.size ≤ w1.heap.size := hk.size
  clear hr hk
  go_wp2_with fail
  refine (fronts_any _ _ _ (by omega) _ HR.out).mono ?_
  rintro e w2 ⟨u, xs, rfl, hs, hl, hr2, hk2⟩
  have HSG := Lib.hid (fun g (hg : u.ownBlock = some g) => (hs.block hg).1)
  have HS2 := Lib.hid (hs.mono HK.out.size)
  have HR2 := Lib.hid hr2
  have HK2 := Lib.hid (HK.out.trans hk2 (fun x hx => by right; simp at hx; omega))
  clear hs hk2 hr2
  go_wp2_with fail
  refine (pick_any _ _ _ (by omega) 5 (by omega) _ HR2.out).mono ?_
  rintro e w3 ⟨x, rfl, hx0, hx, hr3, hk3⟩
  have hx4 : x ≤ 4 := by omega
  have HS3 := Lib.hid (HS2.out.kept hk3 (fun g hg hm => by have := HSG.out g hg; simp at hm; omega))
  have HR3 := Lib.hid hr3
  have HK3 := Lib.hid (HK2.out.trans hk3 (fun x hx => by right; simp at hx; omega))
  obtain ⟨d0, d1⟩ := tdiv_small hx0 (by omega) (d := 2) (by omega)
  clear hr3 hk3 hx
  go_wp2_with fail
  refine (pick_any _ _ _ (by omega) 9 (by omega) _ HR3.out).mono ?_
  rintro e w4 ⟨y, rfl, hy0, hy, hr4, hk4⟩
  have hy8 : y ≤ 8 := by omega
  have HS4 := Lib.hid (HS3.out.kept hk4 (fun g hg hm => by have := HSG.out g hg; simp at hm; omega))
  have HK4 := Lib.hid (HK3.out.trans hk4 (fun x hx => by right; simp at hx; omega))
  obtain ⟨d2, d3⟩ := tdiv_small hy0 (by omega) (d := 8) (by omega)
  clear hr4 hk4 hy
  go_wp2_with fail
  go_ret2
  exact ⟨_, xs, _, rfl, HS4.out, hl, HK4.out⟩

set_option maxHeartbeats 1000000 in
set_option maxRecDepth 100000 in
theorem drawRingStates_any (w : World) (v : Value) (ha : ArgB w v) : Calls Try.prog 33 #[v] w (fun e w' => ∃ x y : Int, e = .returned (.tuple #[.int .i64 x, .int .i64 y]) ∧ 2 ≤ x ∧ x ≤ 7 ∧ -100 ≤ y ∧ y ≤ 100 ∧ Kept [] w w') := by
  have HA := Lib.hid ha
  obtain ⟨a, n, cap, rfl, _, _, _⟩ := ha
  go_enter Try.func33, Try.ntmps33
  go_wp2_with fail
  refine (open_any _ _ HA.out).mono ?_
  rintro e w1 ⟨rfl, hr, hk⟩
  have HR := Lib.hid hr
  have HK := Lib.hid hk
  have hRlt := hr.lt
  have hsw : w.heap.size ≤ w1.heap.size := hk.size
  clear hr hk
  go_wp2_with fail
  refine (pick_any _ _ _ (by omega) 6 (by omega) _ HR.out).mono ?_
  rintro e w2 ⟨x, rfl, hx0, hx, hr2, hk2⟩
  have hx5 : x ≤ 5 := by omega
  have HR2 := Lib.hid hr2
  have HK2 := Lib.hid (HK.out.trans hk2 (fun x hx => by right; simp at hx; omega))
  clear hr2 hk2 hx
  go_wp2_with fail
  refine (pick_any _ _ _ (by omega) 6 (by omega) _ HR2.out).mono ?_
  rintro e w3 ⟨y, rfl, hy0, hy, hr3, hk3⟩
  have hy5 : y ≤ 5 := by omega
  have HR3 := Lib.hid hr3
  have HK3 := Lib.hid (HK2.out.trans hk3 (fun x hx => by right; simp at hx; omega))
  clear hr3 hk3 hy
  go_wp2_with fail
  refine (pick_any _ _ _ (by omega) 40 (by omega) _ HR3.out).mono ?_
  rintro e w4 ⟨z, rfl, hz0, hz, hr4, hk4⟩
  have hz39 : z ≤ 40 := by omega
  have HK4 := Lib.hid (HK3.out.trans hk4 (fun x hx => by right; simp at hx; omega))
  obtain ⟨d2, d3⟩ := tdiv39 hz0 hz39
  clear hr4 hk4 hz
  generalize z.tdiv 39 = q at *
  have s1 : IntKind.i64.wrap (2 + x) = 2 + x := IntWalk.i64_in _ (by omega)
  go_wp2_with fail
  go_ret2
  exact ⟨_, _, rfl, by omega, by omega, by first | omega | skip, by first | omega | skip, HK4.out⟩

set_option maxHeartbeats 1000000 in
set_option maxRecDepth 100000 in
theorem drawFrontsOk_any (w : World) (v : Value) (ha : ArgB w v) : Calls Try.prog 18 #[v] w (fun e w' => ∃ u xs, e = .returned u ∧ Sl w' w.heap.size u xs ∧ xs.length ≤ 6 ∧ (∀ k, -10 ≤ xs.getD k 0 ∧ xs.getD k 0 ≤ 10) ∧ Kept [] w w') := by
  have HA := Lib.hid ha
  obtain ⟨a, n, cap, rfl, _, _, _⟩ := ha
  go_enter Try.func18, Try.ntmps18
  go_wp2_with fail
  refine (open_any _ _ HA.out).mono ?_
  rintro e w1 ⟨rfl, hr, hk⟩
  have HR := Lib.hid hr
  have HK := Lib.hid hk
  have hRlt := hr.lt
  have hsw : w.heap.size ≤ w1.heap.size := hk.size
  clear hr hk
  go_wp2_with fail
  refine (ring_any _ _ _ (by omega) 9 (by omega) (by omega) _ HR.out).mono ?_
  rintro e w2 ⟨u, ys, rfl, hs, hl, hr2, hk2⟩
  have HS2 := Lib.hid hs
  have HR2 := Lib.hid hr2
  have HK2 := Lib.hid (HK.out.trans hk2 (fun x hx => by right; simp at hx; omega))
  have hs12 : w1.heap.size ≤ w2.heap.size := hk2.size
  clear hs hr2 hk2 hl
  go_wp2_with fail
  refine (sFrontRow_any ys _ _ _ HS2.out).mono ?_
  rintro e w3 ⟨z, rfl, hs3, hk3⟩
  have hzl := Nt.frontsOf_small ys
  have hzs := Nt.frontsOf_sign ys
  generalize Nt.frontsOf ys = xs at *
  have HZS : Hid (∀ k, -10 ≤ xs.getD k 0 ∧ xs.getD k 0 ≤ 10) := Lib.hid (fun k => by have := hzs k; omega)
  clear hzs
  have HZG := Lib.hid (fun g (hg : z.ownBlock = some g) => (hs3.block hg).1)
  have HZ3 := Lib.hid (hs3.mono HK2.out.size)
  have HR3 := Lib.hid (HR2.out.kept hk3 (by simp))
  have HK3 := Lib.hid (HK2.out.trans hk3 (by simp))
  clear hs3 hk3 HS2 HR2 HK2
  obtain ⟨b, cap1, rfl, _, _, _⟩ := HZ3.out.any
  go_wp2_with fail
  refine (odd_any _ _ _ (by omega) 3 (by omega) (by omega) _ HR3.out).mono ?_
  rintro e w4 ⟨o, rfl, hr4, hk4⟩
  have HZ4 := Lib.hid (HZ3.out.kept hk4 (fun g hg hm => by have := HZG.out g hg; simp at hm; omega))
  have HR4 := Lib.hid hr4
  have HK4 := Lib.hid (HK3.out.trans hk4 (fun x hx => by right; simp at hx; omega))
  clear hr4 hk4 HZ3 HR3 HK3
  cases o
  · go_wp2_with fail
    go_ret
    exact ⟨_, xs, rfl, HZ4.out, hzl, HZS.out, HK4.out⟩
  · by_cases h0 : 0 < xs.length
    · have d1 : decide ((0 : Int) < (xs.length : Int)) = true := decide_eq_true (by omega)
      have d2 : decide (0 < xs.length) = true := decide_eq_true h0
      obtain ⟨g, c, e5, hg0, hg⟩ := HZ4.out.shape rfl h0
      simp at e5
      obtain ⟨rfl, rfl⟩ := e5
      have hgR : w2.heap.size ≤ g := HZG.out g rfl
      go_wp2_with fail
      refine (pick_any _ _ _ (by omega) (xs.length : Int) (by omega) _ HR4.out).mono ?_
      rintro e w5 ⟨x, rfl, hx0, hx, hr5, hk5⟩
      obtain ⟨x, rfl⟩ := Int.eq_ofNat_of_zero_le hx0
      have hxl : x < xs.length := by omega
      have HZ5 := Lib.hid (HZ4.out.kept hk5 (fun g' hg' hm => by have := HZG.out g' hg'; simp at hm; omega))
      have HR5 := Lib.hid hr5
      have HK5 := Lib.hid (HK4.out.trans hk5 (fun x hx => by right; simp at hx; omega))
      clear hr5 hk5 HZ4 HR4 HK4 hx
      go_wp2_with fail
      refine (pick_any _ _ _ (by omega) 4 (by omega) _ HR5.out).mono ?_
      rintro e w6 ⟨y, rfl, hy0, hy, _, hk6⟩
      have hy4 : y < 4 := by omega
      have hsl := HZ5.out.kept hk6 (fun g' hg' hm => by have := HZG.out g' hg'; simp at hm; omega)
      obtain ⟨cz, fz⟩ := hsl.at x hxl
      have HZ6 := Lib.hid hsl
      have HK6 := Lib.hid (HK5.out.trans hk6 (fun x hx => by right; simp at hx; omega))
      have s1 : IntKind.i64.wrap (y - 2) = y - 2 := IntWalk.i64_in _ (by omega)
      have HZT : Hid (∀ k, -10 ≤ (xs.set x (y - 2)).getD k 0 ∧ (xs.set x (y - 2)).getD k 0 ≤ 10) := Lib.hid (fun k => by
        rw [Nt.set_get _ hxl]
        split
        · omega
        · exact HZS.out k)
      generalize xs.getD x 0 = q at *
      clear hk6 hsl HZ5 HR5 HK5 hy
      go_wp2
      go_ret
      exact ⟨_, _, rfl, HZ6.out.set rfl x _, by rw [List.length_set]; exact hzl, HZT.out, HK6.out.setCell (.inr hg0) _⟩
    · have d1 : decide ((0 : Int) < (xs.length : Int)) = false := decide_eq_false (by omega)
      have d2 : decide (0 < xs.length) = false := decide_eq_false h0
      go_wp2_with fail
      go_ret
      exact ⟨_, xs, rfl, HZ4.out, hzl, HZS.out, HK4.out⟩
end Go.Proofs.Ytdpkacpeednnoaa
