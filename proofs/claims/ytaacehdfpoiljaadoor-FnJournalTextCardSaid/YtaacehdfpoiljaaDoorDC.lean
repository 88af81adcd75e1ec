/-
  Walks: states drawn.
  Walks: what the laws of states draw.
  Walks: a lit state's numbers drawn; a state's number drawn.
  Walks: a state's number drawn.
  Walks: nets, kinds and states drawn.
  Walks: what the laws of firing draw.
-/
import Derived.Test.YtaacehdfpoiljaaDoorDB
import Derived.Test.YtaacehdfpoiljaaDoorNA
import Derived.Deep.RegionWith
import Derived.Deep.RegionHeld3
namespace Go.Proofs.YtaacehdfpoiljaaDoor
open Go.RowKit

/-- A list of at most six numbers is drawn. -/
def DrawsSt (w : World) (B R P : Nat) (e : Ending) (w' : World) : Prop :=
  ∃ u xs, e = .returned u ∧ Sl w' w.heap.size u xs ∧ xs.length ≤ 6 ∧ Rd w' B R (P + 20) ∧ Kept [R] w w'

theorem Sl.past {w w' : World} {base R : Nat} {v : Value} {xs : List Int} (h : Sl w base v xs) (hk : Kept [R] w w') (hR : R < base) : Sl w' base v xs :=
  h.kept hk (fun g hg hm => by have := (h.block hg).1; simp at hm; omega)
theorem Kept.ownR {R : Nat} {a b c : World} {v : Value} (h : Kept [R] a b) (k : Kept v.ownBlock.toList b c) (hv : ∀ g, v.ownBlock = some g → a.heap.size ≤ g) : Kept [R] a c :=
  h.trans k fun x hx => .inr (hv x (by simpa using hx))
theorem Rd.own {w w' : World} {B R P base : Nat} {v : Value} (h : Rd w B R P) (k : Kept v.ownBlock.toList w w') (hv : ∀ g, v.ownBlock = some g → base ≤ g) (hb : R < base) (hB : B ≤ base) : Rd w' B R P :=
  h.kept k fun x hx => by have := hv x (by simpa using hx); omega

set_option maxHeartbeats 2000000 in
set_option maxRecDepth 100000 in
theorem state_any (B R P : Nat) (hP : P ≤ 90000) (many : Nat) (h1 : 1 ≤ many) (h6 : many ≤ 6) (kinds : Int) (hk0 : 0 ≤ kinds) (hk1 : kinds ≤ 100) (m : Int) (hm : m ≤ 1000) (hm0 : 0 ≤ m) (w : World) (hr : Rd w B R P) :
    Calls Tryd.prog 81 #[.pointer (some ⟨R, 0, none⟩), .int .i64 (many : Int), .int .i64 kinds, .int .i64 m] w (DrawsSt w B R P) := by
  have HR := Lib.hid hr
  have hlt := hr.lt
  have hBR := hr.1
  clear hr
  go_enter Tryd.func81, Tryd.ntmps81
  go_wp2_with fail
  have hbase : w.heap.size ≤ (w.alloc (.cells #[] 3)).heap.size := by simp
  refine (pick_any B R P (by omega) 3 (by omega) _ (HR.out.kept ((Kept.refl [] w).alloc _) (by simp))).mono ?_
  rintro e w1 ⟨th, rfl, hth0, hth, hr1, hk1⟩
  have hth3 : th < 3 := by omega
  have HR1 := Lib.hid hr1
  have HS1 := Lib.hid ((Sl.empty3 w).past hk1 hlt)
  have HK1 := Lib.hid (((Kept.refl [R] w).alloc (.cells #[] 3)).trans hk1 (by simp))
  clear hr1 hk1 hth HR hbase
  go_wp2
  go_loopw [9, 11] (fun u i wr => ∃ (k : Nat) (xs : List Int), k ≤ many ∧ i = .int .i64 k ∧ Sl wr w.heap.size u xs ∧ xs.length = k ∧ Rd wr B R (P + 1 + 2 * k) ∧ Kept [R] w wr) (fun _ i _ => many - (intOf i).toNat)
  case atStart => exact ⟨0, [], Nat.zero_le _, rfl, HS1.out, rfl, HR1.out.mono (by omega), HK1.out⟩
  case round =>
    clear HS1 HR1 HK1
    obtain ⟨k, xs, hk, rfl, hsl, hxl, hrd, hkept⟩ := hrel
    have HSL := Lib.hid hsl
    have HRD := Lib.hid hrd
    have HK := Lib.hid hkept
    have HXL := Lib.hid hxl
    have hsz := hkept.size
    clear hsl hrd hkept hxl
    by_cases hlk : k < many
    · by_cases ht : 0 < th
      · go_wp2_with fail
        refine (pick_any B R _ (by omega) 3 (by omega) _ HRD.out).mono ?_
        rintro e w2 ⟨y, rfl, hy0, hy, hr2, hk2⟩
        have HR2 := Lib.hid hr2
        have HS2 := Lib.hid (HSL.out.past hk2 hlt)
        have HK2 := Lib.hid (HK.out.trans hk2 (by simp))
        have hsz2 := HK2.out.size
        clear hr2 hk2 hy HRD HSL HK
        by_cases hyt : y < th
        · go_wp2_with (at_builtin; refine app_int _ rfl _ _ rfl w.heap.size _ _ HS2.out rfl rfl (by rw [HXL.out]; omega) hsz2 ?_; intro u3 w3 hs3 hk3; have HS3 := Lib.hid hs3; have HK3 := Lib.hid hk3; clear hs3 hk3)
          go_roundw
          case rel => exact ⟨k + 1, _, by omega, by go_num, HS3.out, by rw [List.length_append, HXL.out]; rfl, (HR2.out.own HK3.out (fun g hg => (HS2.out.block hg).1) hlt (by omega)).mono (by omega), HK2.out.ownR HK3.out (fun g hg => (HS2.out.block hg).1)⟩
          case measure => simp [intOf]; omega
        · go_wp2_with fail
          refine (pick_any B R _ (by omega) kinds (by omega) _ HR2.out).mono ?_
          rintro e w3 ⟨z, rfl, hz0, hz, hr3, hk3⟩
          have HR3 := Lib.hid hr3
          have HS3 := Lib.hid (HS2.out.past hk3 hlt)
          have HK3 := Lib.hid (HK2.out.trans hk3 (by simp))
          have hsz3 := HK3.out.size
          clear hr3 hk3 hz HR2 HS2 HK2
          go_wp2_with (at_builtin; refine app_int _ rfl _ _ rfl w.heap.size _ _ HS3.out rfl rfl (by rw [HXL.out]; omega) hsz3 ?_; intro u4 w4 hs4 hk4; have HS4 := Lib.hid hs4; have HK4 := Lib.hid hk4; clear hs4 hk4)
          go_roundw
          case rel => exact ⟨k + 1, _, by omega, by go_num, HS4.out, by rw [List.length_append, HXL.out]; rfl, (HR3.out.own HK4.out (fun g hg => (HS3.out.block hg).1) hlt (by omega)).mono (by omega), HK3.out.ownR HK4.out (fun g hg => (HS3.out.block hg).1)⟩
          case measure => simp [intOf]; omega
      · go_wp2_with fail
        refine (pick_any B R _ (by omega) kinds (by omega) _ HRD.out).mono ?_
        rintro e w3 ⟨z, rfl, hz0, hz, hr3, hk3⟩
        have HR3 := Lib.hid hr3
        have HS3 := Lib.hid (HSL.out.past hk3 hlt)
        have HK3 := Lib.hid (HK.out.trans hk3 (by simp))
        have hsz3 := HK3.out.size
        clear hr3 hk3 hz HRD HSL HK
        go_wp2_with (at_builtin; refine app_int _ rfl _ _ rfl w.heap.size _ _ HS3.out rfl rfl (by rw [HXL.out]; omega) hsz3 ?_; intro u4 w4 hs4 hk4; have HS4 := Lib.hid hs4; have HK4 := Lib.hid hk4; clear hs4 hk4)
        go_roundw
        case rel => exact ⟨k + 1, _, by omega, by go_num, HS4.out, by rw [List.length_append, HXL.out]; rfl, (HR3.out.own HK4.out (fun g hg => (HS3.out.block hg).1) hlt (by omega)).mono (by omega), HK3.out.ownR HK4.out (fun g hg => (HS3.out.block hg).1)⟩
        case measure => simp [intOf]; omega
    · have hk' : k = many := by omega
      subst hk'
      go_wp2_with fail
      refine (odd_any B R _ (by omega) m (by omega) hm0 _ HRD.out).mono ?_
      rintro e w2 ⟨o, rfl, hr2, hk2⟩
      have HR2 := Lib.hid hr2
      have HS2 := Lib.hid (HSL.out.past hk2 hlt)
      have HK2 := Lib.hid (HK.out.trans hk2 (by simp))
      clear hr2 hk2 HRD HSL HK
      cases o
      · go_wp2
        go_ret
        exact ⟨_, xs, rfl, HS2.out, by rw [HXL.out]; exact h6, HR2.out.mono (by omega), HK2.out⟩
      · go_wp2_with fail
        refine (pick_any B R _ (by omega) 2 (by omega) _ HR2.out).mono ?_
        rintro e w3 ⟨z, rfl, hz0, hz, hr3, hk3⟩
        have HR3 := Lib.hid hr3
        have HS3 := Lib.hid (HS2.out.past hk3 hlt)
        have HK3 := Lib.hid (HK2.out.trans hk3 (by simp))
        have hsz3 := HK3.out.size
        obtain ⟨g, cap, rfl, hg, _⟩ := HS3.out.shape HXL.out (by omega)
        clear hr3 hk3 hz HR2 HS2 HK2
        by_cases z0 : z = 0
        · subst z0
          go_wp2
          go_ret
          exact ⟨_, [], rfl, (Sl.empty3 w3).mono hsz3, by simp, (HR3.out.kept ((Kept.refl [] _).alloc _) (by simp)).mono (by omega), HK3.out.alloc _⟩
        · have z0' : (z == 0) = false := by simpa using z0
          obtain ⟨c1, f1⟩ := HS3.out.at (k - 1) (by rw [HXL.out]; omega)
          generalize xs.getD (k - 1) 0 = v1 at *
          have e1 : (k : Int) - 1 = ((k - 1 : Nat) : Int) := by omega
          clear z0
          go_wp2
          go_ret
          exact ⟨_, _, rfl, HS3.out.set HXL.out.symm (k - 1) kinds, by rw [List.length_set, HXL.out]; exact h6, (HR3.out.kept ((Kept.refl [g] _).setCell (.inl (by simp)) _) (fun x hx => by simp at hx; omega)).mono (by omega), HK3.out.setCell (.inr (by show w.heap.size ≤ g; omega)) _⟩
end Go.Proofs.YtaacehdfpoiljaaDoor

namespace Go.Proofs.YtaacehdfpoiljaaDoor
open Go.RowKit

theorem tdiv_small {z d : Int} (h0 : 0 ≤ z) (h : z ≤ 100) (hd : 1 ≤ d) : 0 ≤ z.tdiv d ∧ z.tdiv d ≤ 100 := by
  rw [Int.tdiv_eq_ediv_of_nonneg h0]
  have h1 : 0 ≤ z / d := Int.ediv_nonneg h0 (by omega)
  have h2 : z / d ≤ z := Int.ediv_le_self d h0
  omega

/-- A number of kinds and a list of at most six numbers. -/
def DrawsKinds (w : World) (B R P : Nat) (e : Ending) (w' : World) : Prop :=
  ∃ u xs, ∃ c : Int, e = .returned (.tuple #[.int .i64 c, u]) ∧ 0 ≤ c ∧ c ≤ 1000 ∧ Sl w' w.heap.size u xs ∧ xs.length ≤ 6 ∧ Rd w' B R (P + 30) ∧ Kept [R] w w'

/-- Kinds and a state are drawn, and nothing else has turned. -/
def DrawnKinds (w : World) (e : Ending) (w' : World) : Prop :=
  ∃ u xs, ∃ c : Int, e = .returned (.tuple #[.int .i64 c, u]) ∧ -1000 ≤ c ∧ c ≤ 1000 ∧ Sl w' w.heap.size u xs ∧ xs.length ≤ 6 ∧ Kept [] w w'

/-- Kinds, a state and an order. -/
def DrawnThree (w : World) (e : Ending) (w' : World) : Prop :=
  ∃ u xs, ∃ v ys, ∃ c : Int, e = .returned (.tuple #[.int .i64 c, u, v]) ∧ Sl w' w.heap.size u xs ∧ Sl w' w.heap.size v ys ∧ xs.length ≤ 6 ∧ Kept [] w w'

end Go.Proofs.YtaacehdfpoiljaaDoor

namespace Go.Proofs.YtaacehdfpoiljaaDoor
open Go.RowKit

/-- A reader, and nothing else has turned since w0. -/
def RdQ (w0 w : World) (B R P : Nat) : Prop := Rd w B R P ∧ Kept [R] w0 w

theorem pickQ {w0 w : World} {B R P : Nat} (hr : RdQ w0 w B R P) (m : Int) (hm : m ≤ 1000000) (hP : P ≤ 100000) :
    Calls Tryd.prog 62 #[.pointer (some ⟨R, 0, none⟩), .int .i64 m] w fun e w' => ∃ x : Int, e = .returned (.int .i64 x) ∧ 0 ≤ x ∧ x ≤ 1000000 ∧ RdQ w0 w' B R (P + 1) :=
  (pick_any B R P hP m hm w hr.1).mono fun _ _ h => by
    obtain ⟨x, h1, h2, h3, h4, h5⟩ := h
    exact ⟨x, h1, h2, by omega, h4, hr.2.trans h5 (by simp)⟩

/-- Two numbers are drawn. -/
def DrawnTwoInts (w : World) (e : Ending) (w' : World) : Prop :=
  ∃ x y : Int, e = .returned (.tuple #[.int .i64 x, .int .i64 y]) ∧ Kept [] w w'

end Go.Proofs.YtaacehdfpoiljaaDoor

namespace Go.Proofs.YtaacehdfpoiljaaDoor
open Go.RowKit

theorem i64wrap_le (z : Int) : IntKind.i64.wrap z ≤ 9223372036854775807 := by
  rw [IntKind.wrap_i64]; omega

/-- Three numbers are drawn. -/
def DrawnInts (w : World) (e : Ending) (w' : World) : Prop :=
  ∃ x y z : Int, e = .returned (.tuple #[.int .i64 x, .int .i64 y, .int .i64 z]) ∧ z ≤ 9223372036854775807 ∧ Kept [] w w'

end Go.Proofs.YtaacehdfpoiljaaDoor

namespace Go.Proofs.YtaacehdfpoiljaaDoor
open Go.RowKit

/-- A net, kinds and a state are drawn: at most six numbers, three to five kinds, at most seven numbers. -/
def DrawsFire (w : World) (B R P : Nat) (e : Ending) (w' : World) : Prop :=
  ∃ u xs, ∃ v ys, ∃ c : Int, e = .returned (.tuple #[u, .int .i64 c, v]) ∧ 3 ≤ c ∧ c ≤ 5 ∧ Sl w' w.heap.size u xs ∧ Sl w' w.heap.size v ys ∧ xs.length ≤ 6 ∧ ys.length ≤ 7 ∧ Rd w' B R (P + 60) ∧ Kept [R] w w'

end Go.Proofs.YtaacehdfpoiljaaDoor

namespace Go.Proofs.YtaacehdfpoiljaaDoor
open Go.RowKit

/-- A net, kinds and a state are drawn, and nothing else has turned. -/
def DrawnFire (w : World) (e : Ending) (w' : World) : Prop :=
  ∃ u xs, ∃ v ys, ∃ c : Int, e = .returned (.tuple #[u, .int .i64 c, v]) ∧ 3 ≤ c ∧ c ≤ 5 ∧ Sl w' w.heap.size u xs ∧ Sl w' w.heap.size v ys ∧ xs.length ≤ 6 ∧ ys.length ≤ 7 ∧ Kept [] w w'

/-- A net, kinds, a state and a number of steps are drawn, and nothing else has turned. -/
def DrawnRun (w : World) (e : Ending) (w' : World) : Prop :=
  ∃ u xs, ∃ v ys, ∃ c s : Int, e = .returned (.tuple #[u, .int .i64 c, v, .int .i64 s]) ∧ 3 ≤ c ∧ c ≤ 5 ∧ Sl w' w.heap.size u xs ∧ Sl w' w.heap.size v ys ∧ xs.length ≤ 6 ∧ ys.length ≤ 7 ∧ -100000 ≤ s ∧ s ≤ 100000 ∧ Kept [] w w'

theorem results_tmp4 {fn : Func} {t u v x : Tmp} (h : fn.results = #[.tmp t, .tmp u, .tmp v, .tmp x]) (tmps : Array Value) (P : Program) (w : World) :
    (results fn tmps).run P w = .ok (.tuple #[tmps.getD t undef, tmps.getD u undef, tmps.getD v undef, tmps.getD x undef]) w := by
  simp [results, h]

end Go.Proofs.YtaacehdfpoiljaaDoor
