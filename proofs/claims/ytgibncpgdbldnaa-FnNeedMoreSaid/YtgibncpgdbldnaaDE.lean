/-
  Walks: what the laws of needs draw.
  Walks: nets, needs, states, sets and orders drawn.
-/
import Derived.Test.YtgibncpgdbldnaaDC
namespace Go.Proofs.Ytgibncpgdbldnaa
open Go.RowKit

/-- Needs are drawn: as many numbers as asked, or one more. -/
def DrawsNd (w : World) (B R P many : Nat) (e : Ending) (w' : World) : Prop :=
  ∃ u ys, e = .returned u ∧ Sl w' w.heap.size u ys ∧ ys.length ≤ many + 1 ∧ Rd w' B R (P + 2 * many + 3) ∧ Kept [R] w w'

set_option maxHeartbeats 2000000 in
set_option maxRecDepth 100000 in
theorem needs_any (B R P : Nat) (hP : P ≤ 90000) (many : Nat) (hmany : many ≤ 20) (m : Int) (hm : m ≤ 1000) (hm0 : 0 ≤ m) (w : World) (hr : Rd w B R P) :
    Calls Try.prog 39 #[.pointer (some ⟨R, 0, none⟩), .int .i64 (many : Int), .int .i64 m] w (DrawsNd w B R P many) := by
  have HR := Lib.hid hr
  have hlt := hr.lt
  have hBR := hr.1
  clear hr
  go_enter Try.func39, Try.ntmps39
  go_wp2
  go_loopw [7, 8] (fun u i wr => ∃ (k : Nat) (xs : List Int), k ≤ many ∧ i = .int .i64 k ∧ Sl wr w.heap.size u xs ∧ xs.length = k ∧ Rd wr B R (P + 2 * k) ∧ Kept [R] w wr) (fun _ i _ => many - (intOf i).toNat)
  case atStart => exact ⟨0, [], Nat.zero_le _, rfl, Sl.empty3 w, rfl, HR.out.kept ((Kept.refl [] w).alloc _) (by simp), (Kept.refl _ _).alloc _⟩
  case round =>
    obtain ⟨k, xs, hk, rfl, hsl, hxl, hrd, hkept⟩ := hrel
    have HSL := Lib.hid hsl
    have HRD := Lib.hid hrd
    have HK := Lib.hid hkept
    have HXL := Lib.hid hxl
    clear hsl hrd hkept hxl
    by_cases hlk : k < many
    · go_wp2_with fail
      refine (pick_any B R _ (by omega) 2 (by omega) _ HRD.out).mono ?_
      rintro e w2 ⟨y, rfl, hy0, hy, hr2, hk2⟩
      have hy2 : y ≤ 2 := by omega
      have HR2 := Lib.hid hr2
      have HS2 := Lib.hid (HSL.out.past hk2 hlt)
      have HK2 := Lib.hid (HK.out.trans hk2 (by simp))
      clear hr2 hk2 hy HRD HSL HK
      go_wp2_with fail
      refine (pick_any B R _ (by omega) 6 (by omega) _ HR2.out).mono ?_
      rintro e w3 ⟨z, rfl, hz0, hz, hr3, hk3⟩
      have hz6 : z ≤ 6 := by omega
      obtain ⟨d0, d1⟩ := tdiv_small hz0 (by omega) (d := 5) (by omega)
      have HR3 := Lib.hid hr3
      have HS3 := Lib.hid (HS2.out.past hk3 hlt)
      have HK3 := Lib.hid (HK2.out.trans hk3 (by simp))
      have hsz3 := HK3.out.size
      clear hr3 hk3 hz HR2 HS2 HK2
      go_wp2_with (at_builtin; refine app_int _ rfl _ _ rfl w.heap.size _ _ HS3.out rfl rfl (by rw [HXL.out]; omega) hsz3 ?_; intro u4 w4 hs4 hk4; have HS4 := Lib.hid hs4; have HK4 := Lib.hid hk4; clear hs4 hk4)
      go_roundw
      case rel => exact ⟨k + 1, _, by omega, by go_num, HS4.out, by rw [List.length_append, HXL.out]; rfl, (HR3.out.own HK4.out (fun g hg => (HS3.out.block hg).1) hlt (by omega)).mono (by omega), HK3.out.ownR HK4.out (fun g hg => (HS3.out.block hg).1)⟩
      case measure => simp [intOf]; omega
    · have hk' : k = many := by omega
      subst hk'
      go_wp2_with fail
      refine (odd_any B R _ (by omega) m (by omega) hm0 _ HRD.out).mono ?_
      rintro e w2 ⟨o, rfl, hr2, hk2⟩
      have HR2 := Lib.hid hr2
      have HS2 := Lib.hid (HSL.out.past hk2 hlt)
      have HK2 := Lib.hid (HK.out.trans hk2 (by simp))
      clear hr2 hk2 HRD HSL HK
      cases o
      · go_wp2
        go_ret
        exact ⟨_, xs, rfl, HS2.out, by rw [HXL.out]; omega, HR2.out.mono (by omega), HK2.out⟩
      · go_wp2_with fail
        refine (pick_any B R _ (by omega) 2 (by omega) _ HR2.out).mono ?_
        rintro e w3 ⟨z, rfl, hz0, hz, hr3, hk3⟩
        have HR3 := Lib.hid hr3
        have HS3 := Lib.hid (HS2.out.past hk3 hlt)
        have HK3 := Lib.hid (HK2.out.trans hk3 (by simp))
        have hsz3 := HK3.out.size
        clear hr3 hk3 hz HR2 HS2 HK2
        by_cases z0 : z = 0
        · subst z0
          go_wp2_with (at_builtin; refine app_int _ rfl _ _ rfl w.heap.size _ _ HS3.out rfl rfl (by rw [HXL.out]; omega) hsz3 ?_; intro u4 w4 hs4 hk4; have HS4 := Lib.hid hs4; have HK4 := Lib.hid hk4; clear hs4 hk4)
          go_ret
          exact ⟨_, _, rfl, HS4.out, by rw [List.length_append, HXL.out]; exact Nat.le_refl _, (HR3.out.own HK4.out (fun g hg => (HS3.out.block hg).1) hlt (by omega)).mono (by omega), HK3.out.ownR HK4.out (fun g hg => (HS3.out.block hg).1)⟩
        · have z0' : (z == 0) = false := by simpa using z0
          clear z0
          by_cases hp : 0 < k
          · obtain ⟨g, cap, rfl, hg, hgl⟩ := HS3.out.shape HXL.out hp
            have hka : Kept [] w3 (w3.alloc (.cells #[.int .i64 0, .int .i64 7] 3)) := (Kept.refl [] w3).alloc _
            have HL3 : Hid (Sl (w3.alloc (.cells #[.int .i64 0, .int .i64 7] 3)) w3.heap.size (.slice (some ⟨w3.heap.size, 0, none⟩) 2 2) [0, 7]) := Lib.hid (Sl.lit w3 [0, 7] (by simp))
            have HR4 := Lib.hid (HR3.out.kept hka (by simp))
            have HS4 := Lib.hid (HS3.out.stay hka)
            have HK4 := Lib.hid (HK3.out.trans hka (by simp))
            have hR3 : R < w3.heap.size := HR3.out.lt
            clear hka HR3 HS3 HK3
            have d1 : decide ((0 : Int) < (k : Int)) = true := decide_eq_true (by omega)
            have d2 : decide (0 < k) = true := decide_eq_true hp
            go_wp2_with fail
            refine (pick_any B R _ (by omega) 2 (by omega) _ HR4.out).mono ?_
            rintro e w5 ⟨y, rfl, hy0, hy, hr5, hk5⟩
            obtain ⟨y, rfl⟩ := Int.eq_ofNat_of_zero_le hy0
            have hy2 : y < 2 := by omega
            have hl5 := HL3.out.past hk5 hR3
            obtain ⟨cy, _⟩ := hl5.at y (by simpa using hy2)
            have HR5 := Lib.hid hr5
            have hs5 := HS4.out.past hk5 hlt
            obtain ⟨cz, fz⟩ := hs5.at 0 (by rw [HXL.out]; exact hp)
            have HS5 := Lib.hid hs5
            have HK5 := Lib.hid (HK4.out.trans hk5 (by simp))
            clear hr5 hk5 hl5 hs5 hy HL3 HR4 HS4 HK4
            generalize ([0, 7] : List Int).getD y 0 = c at *
            generalize xs.getD 0 0 = d at *
            go_wp2
            go_ret
            exact ⟨_, _, rfl, HS5.out.set HXL.out.symm 0 c, by rw [List.length_set, HXL.out]; omega, (HR5.out.kept ((Kept.refl [g] _).setCell (.inl (by simp)) _) (fun x hx => by simp at hx; omega)).mono (by omega), HK5.out.setCell (.inr (by show w.heap.size ≤ g; omega)) _⟩
          · have d1 : decide ((0 : Int) < (k : Int)) = false := decide_eq_false (by omega)
            have d2 : decide (0 < k) = false := decide_eq_false hp
            have u1 := HS3.out.any
            obtain ⟨b1, cap1, rfl, _, _, _⟩ := u1
            rw [HXL.out] at HS3 ⊢
            go_wp2
            go_ret
            exact ⟨_, xs, rfl, HS3.out, by rw [HXL.out]; omega, HR3.out.mono (by omega), HK3.out⟩
end Go.Proofs.Ytgibncpgdbldnaa

namespace Go.Proofs.Ytgibncpgdbldnaa
open Go.RowKit

/-- A net and needs are drawn, and nothing else has turned. -/
def DrawnNeeds (w : World) (e : Ending) (w' : World) : Prop :=
  ∃ u xs, ∃ v ys, e = .returned (.tuple #[u, v]) ∧ Sl w' w.heap.size u xs ∧ Sl w' w.heap.size v ys ∧ xs.length ≤ 6 ∧ ys.length ≤ 7 ∧ Kept [] w w'
/-- A net, needs and a set are drawn. -/
def DrawnSpread (w : World) (e : Ending) (w' : World) : Prop :=
  ∃ u xs, ∃ v ys, ∃ x : Int, e = .returned (.tuple #[u, v, .int .i64 x]) ∧ Sl w' w.heap.size u xs ∧ Sl w' w.heap.size v ys ∧ xs.length ≤ 6 ∧ ys.length ≤ 7 ∧ Kept [] w w'
/-- A net, needs, a set and an order are drawn. -/
def DrawnOneB (w : World) (e : Ending) (w' : World) : Prop :=
  ∃ u xs, ∃ v ys, ∃ x : Int, ∃ t zs, e = .returned (.tuple #[u, v, .int .i64 x, t]) ∧ Sl w' w.heap.size u xs ∧ Sl w' w.heap.size v ys ∧ Sl w' w.heap.size t zs ∧ xs.length ≤ 6 ∧ ys.length ≤ 7 ∧ zs.length ≤ 7 ∧ Kept [] w w'
/-- A net, kinds, needs and a state are drawn. -/
def DrawnNStep (w : World) (e : Ending) (w' : World) : Prop :=
  ∃ u xs, ∃ r nds, ∃ v ys, ∃ c : Int, e = .returned (.tuple #[u, .int .i64 c, r, v]) ∧ 3 ≤ c ∧ c ≤ 5 ∧ Sl w' w.heap.size u xs ∧ Sl w' w.heap.size r nds ∧ Sl w' w.heap.size v ys ∧ xs.length ≤ 6 ∧ nds.length ≤ 7 ∧ ys.length ≤ 7 ∧ Kept [] w w'
/-- A net, kinds, needs, a state and a number of steps are drawn. -/
def DrawnNRun (w : World) (e : Ending) (w' : World) : Prop :=
  ∃ u xs, ∃ r nds, ∃ v ys, ∃ c s : Int, e = .returned (.tuple #[u, .int .i64 c, r, v, .int .i64 s]) ∧ 3 ≤ c ∧ c ≤ 5 ∧ Sl w' w.heap.size u xs ∧ Sl w' w.heap.size r nds ∧ Sl w' w.heap.size v ys ∧ xs.length ≤ 6 ∧ nds.length ≤ 7 ∧ ys.length ≤ 7 ∧ -100000 ≤ s ∧ s ≤ 100000 ∧ Kept [] w w'

theorem results_tmp5 {fn : Func} {t u v x y : Tmp} (h : fn.results = #[.tmp t, .tmp u, .tmp v, .tmp x, .tmp y]) (tmps : Array Value) (P : Program) (w : World) :
    (results fn tmps).run P w = .ok (.tuple #[tmps.getD t undef, tmps.getD u undef, tmps.getD v undef, tmps.getD x undef, tmps.getD y undef]) w := by
  simp [results, h]

set_option maxHeartbeats 1000000 in
set_option maxRecDepth 100000 in
theorem drawNeedsOk_any (w : World) (v : Value) (ha : ArgB w v) : Calls Try.prog 11 #[v] w (DrawnNeeds w) := by
  have HA := Lib.hid ha
  obtain ⟨a, n, cap, rfl, _, _, _⟩ := ha
  go_enter Try.func11, Try.ntmps11
  go_wp2_with fail
  refine (open_any _ _ HA.out).mono ?_
  rintro e w1 ⟨rfl, hr, hk⟩
  have HR := Lib.hid hr
  have HK := Lib.hid hk
  clear hr hk
  go_wp2_with fail
  refine (net_any _ _ 0 (by omega) 6 (by omega) (by omega) _ HR.out).mono ?_
  rintro e w2 ⟨u, xs, rfl, hs, hl, hr2, hk2⟩
  obtain ⟨b, cap1, rfl, _, _, _⟩ := hs.any
  have HS2 := Lib.hid (hs.mono HK.out.size)
  have HSB := Lib.hid (fun g hg => (hs.block (g := g) hg).1)
  have HR2 := Lib.hid hr2
  have HK2 := Lib.hid (HK.out.trans hk2 (fun x hx => by right; simp at hx; omega))
  have hRlt := HR.out.lt
  clear hs hr2 hk2
  go_wp2_with fail
  refine (needs_any _ _ _ (by omega) xs.length (by omega) 4 (by omega) (by omega) _ HR2.out).mono ?_
  rintro e w3 ⟨u3, nds, rfl, hs3, hl3, hr3, hk3⟩
  have hl3' : nds.length ≤ 7 := by omega
  have HNB := Lib.hid (fun g hg => (hs3.block (g := g) hg).1)
  have hw2 := HR2.out.lt
  have HN3 := Lib.hid (hs3.mono HK2.out.size)
  have HR3 := Lib.hid hr3
  have HS3 := Lib.hid (HS2.out.kept hk3 (fun g hg hm => by have := HSB.out g hg; simp at hm; omega))
  have HK3 := Lib.hid (HK2.out.trans hk3 (fun x hx => by right; simp at hx; omega))
  clear hs3 hr3 hk3
  obtain ⟨b3, cap3, rfl, _, _, _⟩ := HN3.out.any
  go_wp2
  go_ret2
  exact ⟨_, xs, _, nds, rfl, HS3.out, HN3.out, hl, hl3', HK3.out⟩

set_option maxHeartbeats 1000000 in
set_option maxRecDepth 100000 in
theorem drawLeastSpark_any (w : World) (v : Value) (ha : ArgB w v) : Calls Try.prog 25 #[v] w (DrawnNeeds w) := by
  have HA := Lib.hid ha
  obtain ⟨a, n, cap, rfl, _, _, _⟩ := ha
  go_enter Try.func25, Try.ntmps25
  go_wp2_with fail
  refine (open_any _ _ HA.out).mono ?_
  rintro e w1 ⟨rfl, hr, hk⟩
  have HR := Lib.hid hr
  have HK := Lib.hid hk
  clear hr hk
  go_wp2_with fail
  refine (net_any _ _ 0 (by omega) 14 (by omega) (by omega) _ HR.out).mono ?_
  rintro e w2 ⟨u, xs, rfl, hs, hl, hr2, hk2⟩
  obtain ⟨b, cap1, rfl, _, _, _⟩ := hs.any
  have HS2 := Lib.hid (hs.mono HK.out.size)
  have HSB := Lib.hid (fun g hg => (hs.block (g := g) hg).1)
  have HR2 := Lib.hid hr2
  have HK2 := Lib.hid (HK.out.trans hk2 (fun x hx => by right; simp at hx; omega))
  have hRlt := HR.out.lt
  clear hs hr2 hk2
  go_wp2_with fail
  refine (needs_any _ _ _ (by omega) xs.length (by omega) 12 (by omega) (by omega) _ HR2.out).mono ?_
  rintro e w3 ⟨u3, nds, rfl, hs3, hl3, hr3, hk3⟩
  have hl3' : nds.length ≤ 7 := by omega
  have HNB := Lib.hid (fun g hg => (hs3.block (g := g) hg).1)
  have hw2 := HR2.out.lt
  have HN3 := Lib.hid (hs3.mono HK2.out.size)
  have HR3 := Lib.hid hr3
  have HS3 := Lib.hid (HS2.out.kept hk3 (fun g hg hm => by have := HSB.out g hg; simp at hm; omega))
  have HK3 := Lib.hid (HK2.out.trans hk3 (fun x hx => by right; simp at hx; omega))
  clear hs3 hr3 hk3
  obtain ⟨b3, cap3, rfl, _, _, _⟩ := HN3.out.any
  go_wp2
  go_ret2
  exact ⟨_, xs, _, nds, rfl, HS3.out, HN3.out, hl, hl3', HK3.out⟩

set_option maxHeartbeats 1000000 in
set_option maxRecDepth 100000 in
theorem drawSpreadSet_any (w : World) (v : Value) (ha : ArgB w v) : Calls Try.prog 22 #[v] w (DrawnSpread w) := by
  have HA := Lib.hid ha
  obtain ⟨a, n, cap, rfl, _, _, _⟩ := ha
  go_enter Try.func22, Try.ntmps22
  go_wp2_with fail
  refine (open_any _ _ HA.out).mono ?_
  rintro e w1 ⟨rfl, hr, hk⟩
  have HR := Lib.hid hr
  have HK := Lib.hid hk
  clear hr hk
  go_wp2_with fail
  refine (set_any _ _ 0 (by omega) 14 (by omega) (by omega) _ HR.out).mono ?_
  rintro e w2 ⟨u, xs, x0, rfl, hs, hl, hr2, hk2⟩
  obtain ⟨b, cap1, rfl, _, _, _⟩ := hs.any
  have HS2 := Lib.hid (hs.mono HK.out.size)
  have HSB := Lib.hid (fun g hg => (hs.block (g := g) hg).1)
  have HR2 := Lib.hid hr2
  have HK2 := Lib.hid (HK.out.trans hk2 (fun x hx => by right; simp at hx; omega))
  have hRlt := HR.out.lt
  clear hs hr2 hk2
  go_wp2_with fail
  refine (needs_any _ _ _ (by omega) xs.length (by omega) 14 (by omega) (by omega) _ HR2.out).mono ?_
  rintro e w3 ⟨u3, nds, rfl, hs3, hl3, hr3, hk3⟩
  have hl3' : nds.length ≤ 7 := by omega
  have HNB := Lib.hid (fun g hg => (hs3.block (g := g) hg).1)
  have hw2 := HR2.out.lt
  have HN3 := Lib.hid (hs3.mono HK2.out.size)
  have HR3 := Lib.hid hr3
  have HS3 := Lib.hid (HS2.out.kept hk3 (fun g hg hm => by have := HSB.out g hg; simp at hm; omega))
  have HK3 := Lib.hid (HK2.out.trans hk3 (fun x hx => by right; simp at hx; omega))
  clear hs3 hr3 hk3
  obtain ⟨b3, cap3, rfl, _, _, _⟩ := HN3.out.any
  go_wp2
  go_ret3
  exact ⟨_, xs, _, nds, _, rfl, HS3.out, HN3.out, hl, hl3', HK3.out⟩

set_option maxHeartbeats 1000000 in
set_option maxRecDepth 100000 in
theorem drawOneByOne_any (w : World) (v : Value) (ha : ArgB w v) : Calls Try.prog 29 #[v] w (DrawnOneB w) := by
  have HA := Lib.hid ha
  obtain ⟨a, n, cap, rfl, _, _, _⟩ := ha
  go_enter Try.func29, Try.ntmps29
  go_wp2_with fail
  refine (open_any _ _ HA.out).mono ?_
  rintro e w1 ⟨rfl, hr, hk⟩
  have HR := Lib.hid hr
  have HK := Lib.hid hk
  clear hr hk
  go_wp2_with fail
  refine (set_any _ _ 0 (by omega) 14 (by omega) (by omega) _ HR.out).mono ?_
  rintro e w2 ⟨u, xs, x0, rfl, hs, hl, hr2, hk2⟩
  obtain ⟨b, cap1, rfl, _, _, _⟩ := hs.any
  have HS2 := Lib.hid (hs.mono HK.out.size)
  have HSB := Lib.hid (fun g hg => (hs.block (g := g) hg).1)
  have HR2 := Lib.hid hr2
  have HK2 := Lib.hid (HK.out.trans hk2 (fun x hx => by right; simp at hx; omega))
  have hRlt := HR.out.lt
  clear hs hr2 hk2
  go_wp2_with fail
  refine (needs_any _ _ _ (by omega) xs.length (by omega) 14 (by omega) (by omega) _ HR2.out).mono ?_
  rintro e w3 ⟨u3, nds, rfl, hs3, hl3, hr3, hk3⟩
  have hl3' : nds.length ≤ 7 := by omega
  have HNB := Lib.hid (fun g hg => (hs3.block (g := g) hg).1)
  have hw2 := HR2.out.lt
  have HN3 := Lib.hid (hs3.mono HK2.out.size)
  have HR3 := Lib.hid hr3
  have HS3 := Lib.hid (HS2.out.kept hk3 (fun g hg hm => by have := HSB.out g hg; simp at hm; omega))
  have HK3 := Lib.hid (HK2.out.trans hk3 (fun x hx => by right; simp at hx; omega))
  clear hs3 hr3 hk3
  obtain ⟨b3, cap3, rfl, _, _, _⟩ := HN3.out.any
  go_wp2_with fail
  refine (order_any _ _ _ (by omega) xs.length (by omega) 14 (by omega) (by omega) _ HR3.out).mono ?_
  rintro e w4 ⟨u4, zs, rfl, hs4, hl4, _, hk4⟩
  have hl4' : zs.length ≤ 7 := by omega
  have HZ4 := Lib.hid (hs4.mono HK3.out.size)
  have HS4 := Lib.hid (HS3.out.kept hk4 (fun g hg hm => by have := HSB.out g hg; simp at hm; omega))
  have HN4 := Lib.hid (HN3.out.kept hk4 (fun g hg hm => by have := HNB.out g hg; simp at hm; omega))
  have HK4 := Lib.hid (HK3.out.trans hk4 (fun x hx => by right; simp at hx; omega))
  clear hs4 hk4
  obtain ⟨b4, cap4, rfl, _, _, _⟩ := HZ4.out.any
  go_wp2
  (try simp only [Exit.inBlock, Exit.then]); refine bodyPost_ret (results_tmp4 rfl _ _ _) rfl ?_
  exact ⟨_, xs, _, nds, _, _, zs, rfl, HS4.out, HN4.out, HZ4.out, hl, hl3', hl4', HK4.out⟩

set_option maxHeartbeats 1000000 in
set_option maxRecDepth 100000 in
theorem drawNeedStep_any (w : World) (v : Value) (ha : ArgB w v) : Calls Try.prog 16 #[v] w (DrawnNStep w) := by
  have HA := Lib.hid ha
  obtain ⟨a, n, cap, rfl, _, _, _⟩ := ha
  go_enter Try.func16, Try.ntmps16
  go_wp2_with fail
  refine (open_any _ _ HA.out).mono ?_
  rintro e w1 ⟨rfl, hr, hk⟩
  have HR := Lib.hid hr
  have HK := Lib.hid hk
  clear hr hk
  go_wp2_with fail
  refine (fire_any _ _ 0 (by omega) 14 (by omega) (by omega) _ HR.out).mono ?_
  rintro e w2 ⟨u, xs, v2, ys, c, rfl, hc3, hc5, hs, ht, hl, hl2, hr2, hk2⟩
  obtain ⟨b, cap1, rfl, _, _, _⟩ := hs.any
  obtain ⟨b2, cap2, rfl, _, _, _⟩ := ht.any
  have HS2 := Lib.hid (hs.mono HK.out.size)
  have HT2 := Lib.hid (ht.mono HK.out.size)
  have HSB := Lib.hid (fun g hg => (hs.block (g := g) hg).1)
  have HTB := Lib.hid (fun g hg => (ht.block (g := g) hg).1)
  have HR2 := Lib.hid hr2
  have HK2 := Lib.hid (HK.out.trans hk2 (fun x hx => by right; simp at hx; omega))
  have hRlt := HR.out.lt
  clear hs ht hr2 hk2
  go_wp2_with fail
  refine (needs_any _ _ _ (by omega) xs.length (by omega) 14 (by omega) (by omega) _ HR2.out).mono ?_
  rintro e w3 ⟨u3, nds, rfl, hs3, hl3, hr3, hk3⟩
  have hl3' : nds.length ≤ 7 := by omega
  have HNB := Lib.hid (fun g hg => (hs3.block (g := g) hg).1)
  have hw2 := HR2.out.lt
  have HN3 := Lib.hid (hs3.mono HK2.out.size)
  have HR3 := Lib.hid hr3
  have HS3 := Lib.hid (HS2.out.kept hk3 (fun g hg hm => by have := HSB.out g hg; simp at hm; omega))
  have HT3 := Lib.hid (HT2.out.kept hk3 (fun g hg hm => by have := HTB.out g hg; simp at hm; omega))
  have HK3 := Lib.hid (HK2.out.trans hk3 (fun x hx => by right; simp at hx; omega))
  clear hs3 hr3 hk3
  obtain ⟨b3, cap3, rfl, _, _, _⟩ := HN3.out.any
  go_wp2
  (try simp only [Exit.inBlock, Exit.then]); refine bodyPost_ret (results_tmp4 rfl _ _ _) rfl ?_
  exact ⟨_, xs, _, nds, _, ys, _, rfl, hc3, hc5, HS3.out, HN3.out, HT3.out, hl, hl3', hl2, HK3.out⟩

set_option maxHeartbeats 1000000 in
set_option maxRecDepth 100000 in
theorem drawNeedRun_any (w : World) (v : Value) (ha : ArgB w v) : Calls Try.prog 32 #[v] w (DrawnNRun w) := by
  have HA := Lib.hid ha
  obtain ⟨a, n, cap, rfl, _, _, _⟩ := ha
  go_enter Try.func32, Try.ntmps32
  go_wp2_with fail
  refine (open_any _ _ HA.out).mono ?_
  rintro e w1 ⟨rfl, hr, hk⟩
  have HR := Lib.hid hr
  have HK := Lib.hid hk
  clear hr hk
  go_wp2_with fail
  refine (fire_any _ _ 0 (by omega) 14 (by omega) (by omega) _ HR.out).mono ?_
  rintro e w2 ⟨u, xs, v2, ys, c, rfl, hc3, hc5, hs, ht, hl, hl2, hr2, hk2⟩
  obtain ⟨b, cap1, rfl, _, _, _⟩ := hs.any
  obtain ⟨b2, cap2, rfl, _, _, _⟩ := ht.any
  have HS2 := Lib.hid (hs.mono HK.out.size)
  have HT2 := Lib.hid (ht.mono HK.out.size)
  have HSB := Lib.hid (fun g hg => (hs.block (g := g) hg).1)
  have HTB := Lib.hid (fun g hg => (ht.block (g := g) hg).1)
  have HR2 := Lib.hid hr2
  have HK2 := Lib.hid (HK.out.trans hk2 (fun x hx => by right; simp at hx; omega))
  have hRlt := HR.out.lt
  clear hs ht hr2 hk2
  go_wp2_with fail
  refine (needs_any _ _ _ (by omega) xs.length (by omega) 14 (by omega) (by omega) _ HR2.out).mono ?_
  rintro e w3 ⟨u3, nds, rfl, hs3, hl3, hr3, hk3⟩
  have hl3' : nds.length ≤ 7 := by omega
  have HNB := Lib.hid (fun g hg => (hs3.block (g := g) hg).1)
  have hw2 := HR2.out.lt
  have HN3 := Lib.hid (hs3.mono HK2.out.size)
  have HR3 := Lib.hid hr3
  have HS3 := Lib.hid (HS2.out.kept hk3 (fun g hg hm => by have := HSB.out g hg; simp at hm; omega))
  have HT3 := Lib.hid (HT2.out.kept hk3 (fun g hg hm => by have := HTB.out g hg; simp at hm; omega))
  have HK3 := Lib.hid (HK2.out.trans hk3 (fun x hx => by right; simp at hx; omega))
  clear hs3 hr3 hk3
  obtain ⟨b3, cap3, rfl, _, _, _⟩ := HN3.out.any
  go_wp2_with fail
  refine (pick_any _ _ _ (by omega) 14 (by omega) _ HR3.out).mono ?_
  rintro e w4 ⟨x, rfl, hx0, hx, hr4, hk4⟩
  have hx14 : x < 14 := by omega
  have HR4 := Lib.hid hr4
  have HS4 := Lib.hid (HS3.out.kept hk4 (fun g hg hm => by have := HSB.out g hg; simp at hm; omega))
  have HT4 := Lib.hid (HT3.out.kept hk4 (fun g hg hm => by have := HTB.out g hg; simp at hm; omega))
  have HN4 := Lib.hid (HN3.out.kept hk4 (fun g hg hm => by have := HNB.out g hg; simp at hm; omega))
  have HK4 := Lib.hid (HK3.out.trans hk4 (fun x hx => by right; simp at hx; omega))
  clear hr4 hk4 hx
  go_wp2_with fail
  refine (pick_any _ _ _ (by omega) 40 (by omega) _ HR4.out).mono ?_
  rintro e w5 ⟨y, rfl, hy0, hy, _, hk5⟩
  obtain ⟨d0, d1⟩ := tdiv_small hy0 (by omega) (d := 39) (by omega)
  have HS5 := Lib.hid (HS4.out.kept hk5 (fun g hg hm => by have := HSB.out g hg; simp at hm; omega))
  have HT5 := Lib.hid (HT4.out.kept hk5 (fun g hg hm => by have := HTB.out g hg; simp at hm; omega))
  have HN5 := Lib.hid (HN4.out.kept hk5 (fun g hg hm => by have := HNB.out g hg; simp at hm; omega))
  have HK5 := Lib.hid (HK4.out.trans hk5 (fun x hx => by right; simp at hx; omega))
  clear hk5 hy
  go_wp2
  (try simp only [Exit.inBlock, Exit.then]); refine bodyPost_ret (results_tmp5 rfl _ _ _) rfl ?_
  exact ⟨_, xs, _, nds, _, ys, _, _, rfl, hc3, hc5, HS5.out, HN5.out, HT5.out, hl, hl3', hl2, by omega, by omega, HK5.out⟩
end Go.Proofs.Ytgibncpgdbldnaa
