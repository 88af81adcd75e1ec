/-
  Walks: scripts drawn.
  Walks: what the laws of scripts draw.
-/
import Derived.Test.YtilbdpcijdcffaaDoorDC
import Derived.Test.YtilbdpcijdcffaaDoorSN
import Derived.Test.YtilbdpcijdcffaaDoorDE
namespace Go.Proofs.YtilbdpcijdcffaaDoor
open Go.RowKit

/-- A script is drawn: at most seven lights. -/
def DrawsSc (w : World) (B R P : Nat) (e : Ending) (w' : World) : Prop :=
  ∃ u ls, e = .returned u ∧ Sg w' w.heap.size u ls ∧ ls.length ≤ 6 ∧ Rd w' B R (P + 40) ∧ Kept [R] w w'
theorem Sg.past {w w' : World} {base R : Nat} {v : Value} {xs : List (Int × Int)} (h : Sg w base v xs) (hk : Kept [R] w w') (hR : R < base) : Sg w' base v xs :=
  h.kept hk (fun g hg hm => by have := (h.block hg).1; simp at hm; omega)

set_option maxHeartbeats 4000000 in
set_option maxRecDepth 100000 in
theorem script_any (B R P : Nat) (hP : P ≤ 90000) (nodes : Int) (hn0 : 0 ≤ nodes) (hn1 : nodes ≤ 100) (m : Int) (hm : m ≤ 1000) (hm0 : 0 ≤ m) (w : World) (hr : Rd w B R P) :
    Calls Tryd.prog 16 #[.pointer (some ⟨R, 0, none⟩), .int .i64 nodes, .int .i64 m] w (DrawsSc w B R P) := by
  have HR := Lib.hid hr
  have hlt := hr.lt
  have hBR := hr.1
  clear hr
  go_enter Tryd.func16, Tryd.ntmps16
  go_wp2_with fail
  refine (pick_any B R P (by omega) 6 (by omega) _ (HR.out.kept ((Kept.refl [] w).alloc _) (by simp))).mono ?_
  rintro e w1 ⟨k0, rfl, hk0, hk6, hr1, hk1⟩
  obtain ⟨k0, rfl⟩ := Int.eq_ofNat_of_zero_le hk0
  have hk5 : k0 ≤ 5 := by omega
  have HR1 := Lib.hid hr1
  have HS1 := Lib.hid ((Sg.empty w).past hk1 hlt)
  have HK1 := Lib.hid (((Kept.refl [R] w).alloc (.cells #[] 41)).trans hk1 (by simp))
  clear hr1 hk1 hk0 hk6 HR
  go_wp2
  go_loopw [7, 8, 9, 10] (fun u ti no i wr => ∃ (j : Nat) (ls : List (Int × Int)) (t d : Int), i = .int .i64 j ∧ ti = .int .i64 t ∧ no = .int .i64 d ∧ Sg wr w.heap.size u ls ∧ ls.length + j ≤ 5 ∧ 0 ≤ t ∧ t ≤ 10 * (ls.length : Int) ∧ -1 ≤ d ∧ d ≤ 100 + 5 * (ls.length : Int) ∧ Rd wr B R (P + 1 + 4 * ls.length) ∧ Kept [R] w wr) (fun _ _ _ i _ => (intOf i).toNat)
  case atStart => exact ⟨k0, [], 0, -1, rfl, rfl, rfl, HS1.out, by simpa using hk5, by omega, by simp, by omega, by simp, HR1.out.mono (by simp), HK1.out⟩
  case round =>
    clear HS1 HR1 HK1
    obtain ⟨j, ls, t, d, rfl, rfl, rfl, hsl, hlen, ht0, ht1, hd0, hd1, hrd, hkept⟩ := hrel
    have HSL := Lib.hid hsl
    have HRD := Lib.hid hrd
    have HK := Lib.hid hkept
    have hll : ls.length ≤ 5 := by omega
    clear hsl hrd hkept
    by_cases hj : 0 < j
    · by_cases hnn : 0 < nodes
      · go_wp2_with fail
        refine (pick_any B R _ (by omega) 2 (by omega) _ HRD.out).mono ?_
        rintro e w2 ⟨y, rfl, h0y, h1y, hrx, hkx⟩
        have hy2 : y ≤ 2 := by omega
        have HR2 := Lib.hid hrx
        have HS2 := Lib.hid (HSL.out.past hkx hlt)
        have HK2 := Lib.hid (HK.out.trans hkx (by simp))
        clear hrx hkx
        by_cases hge : nodes ≤ d + 1 + y
        · go_wp2_with fail
          refine (pick_any B R _ (by omega) 4 (by omega) _ HR2.out).mono ?_
          rintro e w4 ⟨q, rfl, h0q, h1q, hrx, hkx⟩
          have hq4 : q ≤ 4 := by omega
          have HR4 := Lib.hid hrx
          have HS4 := Lib.hid (HS2.out.past hkx hlt)
          have HK4 := Lib.hid (HK2.out.trans hkx (by simp))
          clear hrx hkx
          go_wp2_with fail
          refine (pick_any B R _ (by omega) nodes (by omega) _ HR4.out).mono ?_
          rintro e w5 ⟨r, rfl, h0r, h1r, hrx, hkx⟩
          have hr5 : r ≤ 100 := by omega
          have HR5 := Lib.hid hrx
          have HS5 := Lib.hid (HS4.out.past hkx hlt)
          have HK5 := Lib.hid (HK4.out.trans hkx (by simp))
          clear hrx hkx
          have hsz9 := HK5.out.size
          go_wp2_with (at_builtin; refine app_light _ _ rfl _ _ rfl w.heap.size _ _ HS5.out rfl rfl (by omega) hsz9 ?_; intro u9 w9 hs9 hk9; have HS9 := Lib.hid hs9; have HK9 := Lib.hid hk9; clear hs9 hk9)
          go_roundw
          case rel => exact ⟨j - 1, _, _, _, by go_num, rfl, rfl, HS9.out, by rw [List.length_append]; show ls.length + 1 + (j - 1) ≤ 5; omega, by omega, by rw [List.length_append]; show _ ≤ 10 * ((ls.length + 1 : Nat) : Int); omega, by omega, by rw [List.length_append]; show _ ≤ 100 + 5 * ((ls.length + 1 : Nat) : Int); omega, by rw [List.length_append]; exact (HR5.out.own HK9.out (fun g hg => (HS5.out.block hg).1) hlt (by omega)).mono (by show _ ≤ P + 1 + 4 * (ls.length + 1); omega), HK5.out.ownR HK9.out (fun g hg => (HS5.out.block hg).1)⟩
          case measure => simp [intOf]; omega
        · go_wp2_with fail
          refine (pick_any B R _ (by omega) 3 (by omega) _ HR2.out).mono ?_
          rintro e w3 ⟨z, rfl, h0z, h1z, hrx, hkx⟩
          have hz3 : z ≤ 3 := by omega
          have HR3 := Lib.hid hrx
          have HS3 := Lib.hid (HS2.out.past hkx hlt)
          have HK3 := Lib.hid (HK2.out.trans hkx (by simp))
          clear hrx hkx
          by_cases hz : 0 < z
          · go_wp2_with fail
            refine (pick_any B R _ (by omega) 4 (by omega) _ HR3.out).mono ?_
            rintro e w4 ⟨q, rfl, h0q, h1q, hrx, hkx⟩
            have hq4 : q ≤ 4 := by omega
            have HR4 := Lib.hid hrx
            have HS4 := Lib.hid (HS3.out.past hkx hlt)
            have HK4 := Lib.hid (HK3.out.trans hkx (by simp))
            clear hrx hkx
            go_wp2_with fail
            refine (pick_any B R _ (by omega) nodes (by omega) _ HR4.out).mono ?_
            rintro e w5 ⟨r, rfl, h0r, h1r, hrx, hkx⟩
            have hr5 : r ≤ 100 := by omega
            have HR5 := Lib.hid hrx
            have HS5 := Lib.hid (HS4.out.past hkx hlt)
            have HK5 := Lib.hid (HK4.out.trans hkx (by simp))
            clear hrx hkx
            have hsz9 := HK5.out.size
            go_wp2_with (at_builtin; refine app_light _ _ rfl _ _ rfl w.heap.size _ _ HS5.out rfl rfl (by omega) hsz9 ?_; intro u9 w9 hs9 hk9; have HS9 := Lib.hid hs9; have HK9 := Lib.hid hk9; clear hs9 hk9)
            go_roundw
            case rel => exact ⟨j - 1, _, _, _, by go_num, rfl, rfl, HS9.out, by rw [List.length_append]; show ls.length + 1 + (j - 1) ≤ 5; omega, by omega, by rw [List.length_append]; show _ ≤ 10 * ((ls.length + 1 : Nat) : Int); omega, by omega, by rw [List.length_append]; show _ ≤ 100 + 5 * ((ls.length + 1 : Nat) : Int); omega, by rw [List.length_append]; exact (HR5.out.own HK9.out (fun g hg => (HS5.out.block hg).1) hlt (by omega)).mono (by show _ ≤ P + 1 + 4 * (ls.length + 1); omega), HK5.out.ownR HK9.out (fun g hg => (HS5.out.block hg).1)⟩
            case measure => simp [intOf]; omega
          · have hsz9 := HK3.out.size
            go_wp2_with (at_builtin; refine app_light _ _ rfl _ _ rfl w.heap.size _ _ HS3.out rfl rfl (by omega) hsz9 ?_; intro u9 w9 hs9 hk9; have HS9 := Lib.hid hs9; have HK9 := Lib.hid hk9; clear hs9 hk9)
            go_roundw
            case rel => exact ⟨j - 1, _, _, _, by go_num, rfl, rfl, HS9.out, by rw [List.length_append]; show ls.length + 1 + (j - 1) ≤ 5; omega, by omega, by rw [List.length_append]; show _ ≤ 10 * ((ls.length + 1 : Nat) : Int); omega, by omega, by rw [List.length_append]; show _ ≤ 100 + 5 * ((ls.length + 1 : Nat) : Int); omega, by rw [List.length_append]; exact (HR3.out.own HK9.out (fun g hg => (HS3.out.block hg).1) hlt (by omega)).mono (by show _ ≤ P + 1 + 4 * (ls.length + 1); omega), HK3.out.ownR HK9.out (fun g hg => (HS3.out.block hg).1)⟩
            case measure => simp [intOf]; omega
      · have d0 : decide (0 < nodes) = false := dec_not hnn
        go_wp2_with fail
        refine (odd_any B R _ (by omega) m (by omega) hm0 _ HRD.out).mono ?_
        rintro e w2 ⟨o, rfl, hr2, hk2⟩
        have HR2 := Lib.hid hr2
        have HS2 := Lib.hid (HSL.out.past hk2 hlt)
        have HK2 := Lib.hid (HK.out.trans hk2 (by simp))
        clear hr2 hk2 HRD HSL HK
        cases o
        · go_wp2
          go_ret
          exact ⟨_, ls, rfl, HS2.out, by omega, HR2.out.mono (by omega), HK2.out⟩
        · have hk3 : Kept [] w2 (w2.alloc (.cells #[.int .i64 (-1), .int .i64 0, .int .i64 60, .int .i64 0, .int .i64 59, .int .i64 6] 41)) := (Kept.refl [] w2).alloc _
          have HR3 := Lib.hid (HR2.out.kept hk3 (by simp))
          have HS3 := Lib.hid (HS2.out.stay hk3)
          have HK3 := Lib.hid (HK2.out.trans hk3 (by simp))
          have hrw : R < w2.heap.size := HR2.out.lt
          have HN := Lib.hid (fun (w' : World) (hk : Kept [R] (w2.alloc (.cells #[.int .i64 (-1), .int .i64 0, .int .i64 60, .int .i64 0, .int .i64 59, .int .i64 6] 41)) w') (i : Nat) => hk.cell (p := ⟨w2.heap.size, i, none⟩) (by simp) (by simp; omega))
          clear hk3 HR2 HS2 HK2
          go_wp2_with fail
          refine (pick_any B R _ (by omega) 3 (by omega) _ HR3.out).mono ?_
          rintro e w4 ⟨x, rfl, hx0, hx, hr4, hk4⟩
          obtain ⟨x, rfl⟩ := Int.eq_ofNat_of_zero_le hx0
          have hx3 : x < 3 := by omega
          have c0 := HN.out w4 hk4 0
          have c1 := HN.out w4 hk4 1
          have c2 := HN.out w4 hk4 2
          have c3 := HN.out w4 hk4 3
          have c4 := HN.out w4 hk4 4
          have c5 := HN.out w4 hk4 5
          simp at c0 c1 c2 c3 c4 c5
          have HR4 := Lib.hid hr4
          have HS4 := Lib.hid (HS3.out.past hk4 hlt)
          have HK4 := Lib.hid (HK3.out.trans hk4 (by simp))
          have hsz9 := HK4.out.size
          clear hr4 hk4 HR3 HS3 HK3 HN hx hx0
          have hcase : x = 0 ∨ x = 1 ∨ x = 2 := by omega
          rcases hcase with rfl | rfl | rfl
          all_goals
            go_wp2_with (at_builtin; refine app_light _ _ rfl _ _ rfl w.heap.size _ _ HS4.out rfl rfl (by omega) hsz9 ?_; intro u9 w9 hs9 hk9; have HS9 := Lib.hid hs9; have HK9 := Lib.hid hk9; clear hs9 hk9)
            go_ret
            exact ⟨_, _, rfl, HS9.out, by rw [List.length_append]; show ls.length + 1 ≤ 6; omega, (HR4.out.own HK9.out (fun g hg => (HS4.out.block hg).1) hlt (by omega)).mono (by omega), HK4.out.ownR HK9.out (fun g hg => (HS4.out.block hg).1)⟩
    · have hj0 : j = 0 := by omega
      subst hj0
      go_wp2_with fail
      refine (odd_any B R _ (by omega) m (by omega) hm0 _ HRD.out).mono ?_
      rintro e w2 ⟨o, rfl, hr2, hk2⟩
      have HR2 := Lib.hid hr2
      have HS2 := Lib.hid (HSL.out.past hk2 hlt)
      have HK2 := Lib.hid (HK.out.trans hk2 (by simp))
      clear hr2 hk2 HRD HSL HK
      cases o
      · go_wp2
        go_ret
        exact ⟨_, ls, rfl, HS2.out, by omega, HR2.out.mono (by omega), HK2.out⟩
      · have hk3 : Kept [] w2 (w2.alloc (.cells #[.int .i64 (-1), .int .i64 0, .int .i64 60, .int .i64 0, .int .i64 59, .int .i64 6] 41)) := (Kept.refl [] w2).alloc _
        have HR3 := Lib.hid (HR2.out.kept hk3 (by simp))
        have HS3 := Lib.hid (HS2.out.stay hk3)
        have HK3 := Lib.hid (HK2.out.trans hk3 (by simp))
        have hrw : R < w2.heap.size := HR2.out.lt
        have HN := Lib.hid (fun (w' : World) (hk : Kept [R] (w2.alloc (.cells #[.int .i64 (-1), .int .i64 0, .int .i64 60, .int .i64 0, .int .i64 59, .int .i64 6] 41)) w') (i : Nat) => hk.cell (p := ⟨w2.heap.size, i, none⟩) (by simp) (by simp; omega))
        clear hk3 HR2 HS2 HK2
        go_wp2_with fail
        refine (pick_any B R _ (by omega) 3 (by omega) _ HR3.out).mono ?_
        rintro e w4 ⟨x, rfl, hx0, hx, hr4, hk4⟩
        obtain ⟨x, rfl⟩ := Int.eq_ofNat_of_zero_le hx0
        have hx3 : x < 3 := by omega
        have c0 := HN.out w4 hk4 0
        have c1 := HN.out w4 hk4 1
        have c2 := HN.out w4 hk4 2
        have c3 := HN.out w4 hk4 3
        have c4 := HN.out w4 hk4 4
        have c5 := HN.out w4 hk4 5
        simp at c0 c1 c2 c3 c4 c5
        have HR4 := Lib.hid hr4
        have HS4 := Lib.hid (HS3.out.past hk4 hlt)
        have HK4 := Lib.hid (HK3.out.trans hk4 (by simp))
        have hsz9 := HK4.out.size
        clear hr4 hk4 HR3 HS3 HK3 HN hx hx0
        have hcase : x = 0 ∨ x = 1 ∨ x = 2 := by omega
        rcases hcase with rfl | rfl | rfl
        all_goals
          go_wp2_with (at_builtin; refine app_light _ _ rfl _ _ rfl w.heap.size _ _ HS4.out rfl rfl (by omega) hsz9 ?_; intro u9 w9 hs9 hk9; have HS9 := Lib.hid hs9; have HK9 := Lib.hid hk9; clear hs9 hk9)
          go_ret
          exact ⟨_, _, rfl, HS9.out, by rw [List.length_append]; show ls.length + 1 ≤ 6; omega, (HR4.out.own HK9.out (fun g hg => (HS4.out.block hg).1) hlt (by omega)).mono (by omega), HK4.out.ownR HK9.out (fun g hg => (HS4.out.block hg).1)⟩
end Go.Proofs.YtilbdpcijdcffaaDoor

namespace Go.Proofs.YtilbdpcijdcffaaDoor
open Go.RowKit

/-- A net, kinds, a state, a script and a number of steps are drawn. -/
def DrawnPlay (w : World) (e : Ending) (w' : World) : Prop :=
  ∃ u xs, ∃ v ys, ∃ r ls, ∃ c s : Int, e = .returned (.tuple #[u, .int .i64 c, v, r, .int .i64 s]) ∧ 3 ≤ c ∧ c ≤ 5 ∧ Sl w' w.heap.size u xs ∧ Sl w' w.heap.size v ys ∧ Sg w' w.heap.size r ls ∧ xs.length ≤ 6 ∧ ys.length ≤ 7 ∧ ls.length ≤ 6 ∧ -100000 ≤ s ∧ s ≤ 100000 ∧ Kept [] w w'
/-- A number of nodes and a script are drawn. -/
def DrawnSc (w : World) (e : Ending) (w' : World) : Prop :=
  ∃ (x : Int) (u : Value) (ls : List (Int × Int)), e = .returned (.tuple #[.int .i64 x, u]) ∧ 0 ≤ x ∧ x ≤ 1000 ∧ Sg w' w.heap.size u ls ∧ ls.length ≤ 6 ∧ Kept [] w w'

set_option maxHeartbeats 1000000 in
set_option maxRecDepth 100000 in
theorem drawScriptText_any (w : World) (v : Value) (ha : ArgB w v) : Calls Tryd.prog 5 #[v] w (DrawnSc w) := by
  have HA := Lib.hid ha
  obtain ⟨a, n, cap, rfl, _, _, _⟩ := ha
  go_enter Tryd.func5, Tryd.ntmps5
  go_wp2_with fail
  refine (open_any _ _ HA.out).mono ?_
  rintro e w1 ⟨rfl, hr, hk⟩
  have HR := Lib.hid hr
  have HK := Lib.hid hk
  have hRlt := hr.lt
  have hsw : w.heap.size ≤ w1.heap.size := hk.size
  clear hr hk
  go_wp2_with fail
  refine (pick_any _ _ _ (by omega) 6 (by omega) _ HR.out).mono ?_
  rintro e w2 ⟨x, rfl, h0x, h1x, hrx, hkx⟩
  have hbx : x ≤ 6 := by omega
  have HR2 := Lib.hid hrx
  have HK2 := Lib.hid (HK.out.trans hkx (fun x hx => by right; simp at hx; omega))
  clear hrx hkx h1x
  go_wp2_with fail
  refine (script_any _ _ _ (by omega) (1 + x) (by omega) (by omega) 9 (by omega) (by omega) _ HR2.out).mono ?_
  rintro e w5 ⟨u5, ls, rfl, hs5, hl5, _, hk5⟩
  have HG5 := Lib.hid (hs5.mono HK2.out.size)
  have HK5 := Lib.hid (HK2.out.trans hk5 (fun x hx => by right; simp at hx; omega))
  clear hs5 hk5
  go_wp2
  go_ret2
  exact ⟨_, _, ls, rfl, by omega, by omega, HG5.out, hl5, HK5.out⟩

end Go.Proofs.YtilbdpcijdcffaaDoor
