/-
  Walks: what the laws of turning wheels draw.
  Walks: tours that are drawn.
  Walks: what the laws of tours and windings draw.
  Walks: what the laws of rises, tours and best tours draw.
-/
import Derived.Test.YthhnhnfflmmmlaaDC
namespace Go.Proofs.Ythhnhnfflmmmlaa
open Go.RowKit

/-- A net and a state of three kinds are drawn. -/
def DrawsTurn (w : World) (B R P : Nat) (e : Ending) (w' : World) : Prop :=
  ∃ u xs, ∃ v ys, e = .returned (.tuple #[u, v]) ∧ Sl w' w.heap.size u xs ∧ Sl w' w.heap.size v ys ∧ xs.length ≤ 6 ∧ ys.length ≤ 7 ∧ Rd w' B R (P + 60) ∧ Kept [R] w w'

set_option maxHeartbeats 600000 in
theorem turn_any (B R P : Nat) (hP : P ≤ 80000) (m : Int) (hm : m ≤ 400) (hm0 : 0 ≤ m) (w : World) (hr : Rd w B R P) :
    Calls Try.prog 47 #[.pointer (some ⟨R, 0, none⟩), .int .i64 m] w (DrawsTurn w B R P) := by
  have HR := Lib.hid hr
  have hlt := hr.lt
  have hBR := hr.1
  clear hr
  go_enter Try.func47, Try.ntmps47
  go_wp2_with fail
  refine (net_any B R P (by omega) (m * 2) (by omega) (by omega) _ HR.out).mono ?_
  rintro e w1 ⟨u, xs, rfl, hs, hl, hr1, hk1⟩
  obtain ⟨b, cap1, rfl, _, _, _⟩ := hs.any
  have HS1 := Lib.hid hs
  have HR1 := Lib.hid hr1
  have HK1 := Lib.hid hk1
  obtain ⟨n, hn⟩ : ∃ n, n = xs.length := ⟨_, rfl⟩
  have HN := Lib.hid hn
  rw [← hn] at HS1 ⊢
  clear hs hr1 hk1 HR hn
  have hn6 : n ≤ 6 := by have := HN.out; omega
  go_wp2_with fail
  all_goals
    first
    | (with_reducible refine (state_any B R _ (by omega) n (by omega) (by omega) 3 (by omega) (by omega) (m * 2) (by omega) (by omega) _ HR1.out).mono ?_)
    | (refine (state_any B R _ (by omega) 1 (by omega) (by omega) 3 (by omega) (by omega) (m * 2) (by omega) (by omega) _ HR1.out).mono ?_)
    rintro e w3 ⟨v, ys, rfl, hs3, hl3, hr3, hk3⟩
    have HR3 := Lib.hid hr3
    have HS3 := Lib.hid (HS1.out.past hk3 hlt)
    have HT3 := Lib.hid (hs3.mono HK1.out.size)
    have HLT := Lib.hid (fun g hg => (HS1.out.block (g := g) hg).2)
    have HGE := Lib.hid (fun g hg => (hs3.block (g := g) hg).1)
    have HK3 := Lib.hid (HK1.out.trans hk3 (by simp))
    clear hs3 hr3 hk3 HR1 HS1 HK1
    go_wp2_with fail
    refine (odd_any B R _ (by omega) (m * 2) (by omega) (by omega) _ HR3.out).mono ?_
    rintro e w4 ⟨o, rfl, hr4, hk4⟩
    have HR4 := Lib.hid hr4
    have HS4 := Lib.hid (HS3.out.past hk4 hlt)
    have HT4 := Lib.hid (HT3.out.past hk4 hlt)
    have HK4 := Lib.hid (HK3.out.trans hk4 (by simp))
    have hsz4 := HK4.out.size
    obtain ⟨b2, cap2, rfl, _, _, _⟩ := HT4.out.any
    clear hr4 hk4 HR3 HS3 HK3 HT3
    cases o
    · go_wp2
      go_ret2
      exact ⟨_, xs, _, ys, rfl, HS4.out, HT4.out, by have := HN.out; omega, by omega, HR4.out.mono (by omega), HK4.out⟩
    · go_wp2_with (at_builtin; refine app_int _ rfl _ _ rfl w.heap.size _ _ HT4.out rfl rfl (by omega) hsz4 ?_; intro u5 w5 hs5 hk5; have HT5 := Lib.hid hs5; have HK5 := Lib.hid hk5; clear hs5 hk5)
      go_ret2
      exact ⟨_, xs, _, _, rfl, HS4.out.kept HK5.out (apart HLT.out HGE.out), HT5.out, by have := HN.out; omega, by simp; omega, (HR4.out.own HK5.out (fun g hg => (HT4.out.block hg).1) hlt (by omega)).mono (by omega), HK4.out.ownR HK5.out (fun g hg => (HT4.out.block hg).1)⟩

/-- A net and a state are drawn, and nothing else has turned. -/
def DrawnTurn (w : World) (e : Ending) (w' : World) : Prop :=
  ∃ u xs, ∃ v ys, e = .returned (.tuple #[u, v]) ∧ Sl w' w.heap.size u xs ∧ Sl w' w.heap.size v ys ∧ xs.length ≤ 6 ∧ ys.length ≤ 7 ∧ Kept [] w w'
/-- A net, a state and a number of turns are drawn, and nothing else has turned. -/
def DrawnTurns (w : World) (e : Ending) (w' : World) : Prop :=
  ∃ u xs, ∃ v ys, ∃ s : Int, e = .returned (.tuple #[u, v, .int .i64 s]) ∧ Sl w' w.heap.size u xs ∧ Sl w' w.heap.size v ys ∧ xs.length ≤ 6 ∧ ys.length ≤ 7 ∧ -100000 ≤ s ∧ s ≤ 100000 ∧ Kept [] w w'

set_option maxHeartbeats 1000000 in
theorem drawTurnRun_any (w : World) (v : Value) (ha : ArgB w v) : Calls Try.prog 50 #[v] w (DrawnTurns w) := by
  have HA := Lib.hid ha
  obtain ⟨a, n, cap, rfl, _, _, _⟩ := ha
  go_enter Try.func50, Try.ntmps50
  go_wp2_with fail
  refine (open_any _ _ HA.out).mono ?_
  rintro e w1 ⟨rfl, hr, hk⟩
  have HR := Lib.hid hr
  have HK := Lib.hid hk
  clear hr hk
  go_wp2_with fail
  refine (turn_any _ _ 0 (by omega) 14 (by omega) (by omega) _ HR.out).mono ?_
  rintro e w2 ⟨u, xs, v2, ys, rfl, hs, ht, hl1, hl2, hr2, hk2⟩
  have HSB := Lib.hid (fun g hg => (hs.block (g := g) hg).1)
  have HTB := Lib.hid (fun g hg => (ht.block (g := g) hg).1)
  have HS := Lib.hid (hs.mono HK.out.size)
  have HT := Lib.hid (ht.mono HK.out.size)
  have HR2 := Lib.hid hr2
  have HK2 := Lib.hid (HK.out.trans hk2 (fun x hx => by right; simp at hx; omega))
  obtain ⟨b1, cap1, rfl, _, _, _⟩ := hs.any
  obtain ⟨b2, cap2, rfl, _, _, _⟩ := ht.any
  have hRlt := HR.out.lt
  clear hs ht hr2 hk2
  go_wp2_with fail
  refine (pick_any _ _ _ (by omega) 12 (by omega) _ HR2.out).mono ?_
  rintro e w3 ⟨x, rfl, hx0, hx, hr3, hk3⟩
  have hx14 : x < 12 := by omega
  have HR3 := Lib.hid hr3
  have HS3 := Lib.hid (HS.out.kept hk3 (fun g hg hm => by have := HSB.out g hg; simp at hm; omega))
  have HT3 := Lib.hid (HT.out.kept hk3 (fun g hg hm => by have := HTB.out g hg; simp at hm; omega))
  have HK3 := Lib.hid (HK2.out.trans hk3 (fun x hx => by right; simp at hx; omega))
  clear hr3 hk3 HR2 HS HT HK2 hx
  go_wp2_with fail
  refine (pick_any _ _ _ (by omega) 40 (by omega) _ HR3.out).mono ?_
  rintro e w4 ⟨y, rfl, hy0, hy, hr4, hk4⟩
  have hy60 : y ≤ 100 := by omega
  obtain ⟨d0, d1⟩ := tdiv_small hy0 hy60 (d := 39) (by omega)
  have HR4 := Lib.hid hr4
  have HS4 := Lib.hid (HS3.out.kept hk4 (fun g hg hm => by have := HSB.out g hg; simp at hm; omega))
  have HT4 := Lib.hid (HT3.out.kept hk4 (fun g hg hm => by have := HTB.out g hg; simp at hm; omega))
  have HK4 := Lib.hid (HK3.out.trans hk4 (fun x hx => by right; simp at hx; omega))
  clear hr4 hk4 HR3 HS3 HT3 HK3 hy
  go_wp2_with fail
  refine (pick_any _ _ _ (by omega) 40 (by omega) _ HR4.out).mono ?_
  rintro e w5 ⟨z, rfl, hz0, hz, hr5, hk5⟩
  have hz60 : z ≤ 100 := by omega
  obtain ⟨e0, e1⟩ := tdiv_small hz0 hz60 (d := 39) (by omega)
  have HS5 := Lib.hid (HS4.out.kept hk5 (fun g hg hm => by have := HSB.out g hg; simp at hm; omega))
  have HT5 := Lib.hid (HT4.out.kept hk5 (fun g hg hm => by have := HTB.out g hg; simp at hm; omega))
  have HK5 := Lib.hid (HK4.out.trans hk5 (fun x hx => by right; simp at hx; omega))
  clear hr5 hk5 HR4 HS4 HT4 HK4 hz
  go_wp2
  go_ret3
  exact ⟨_, xs, _, ys, _, rfl, HS5.out, HT5.out, hl1, hl2, by omega, by omega, HK5.out⟩

end Go.Proofs.Ythhnhnfflmmmlaa

namespace Go.Proofs.Ythhnhnfflmmmlaa
open Go.RowKit

/-- A row of places is drawn. -/
def DrawsTour (w : World) (B R P : Nat) (e : Ending) (w' : World) : Prop :=
  ∃ u zs, e = .returned u ∧ Sl w' w.heap.size u zs ∧ 1 ≤ zs.length ∧ zs.length ≤ 11 ∧ Rd w' B R (P + 20) ∧ Kept [R] w w'

theorem tmod_two (y : Int) : -2 < y.tmod 2 ∧ y.tmod 2 < 2 := ⟨Int.lt_tmod_of_pos y (by decide), Int.tmod_lt_of_pos y (by decide)⟩
theorem last_of (zs : List Int) (x : Int) : (zs ++ [x]).getD zs.length 0 = x := by simp [List.getD_eq_getElem?_getD]

set_option maxHeartbeats 2000000 in
theorem tour_any (B R P : Nat) (hP : P ≤ 80000) (xs : List Int) (hx6 : xs.length ≤ 6) (w : World) (hr : Rd w B R P) (v : Value) (base : Nat) (hs : Sl w base v xs) (hb : R < base) :
    Calls Try.prog 44 #[.pointer (some ⟨R, 0, none⟩), v] w (DrawsTour w B R P) := by
  have HR := Lib.hid hr
  have HS := Lib.hid hs
  have hlt := hr.lt
  have hBR := hr.1
  by_cases hn0 : xs.length = 0
  · obtain ⟨a, cap, rfl, _, _, _⟩ := hs.any
    clear hr hs
    have HL : Hid (Sl (w.alloc (.cells #[.int .i64 0] 3)) w.heap.size (.slice (some ⟨w.heap.size, 0, none⟩) 1 1) [0]) := Lib.hid (Sl.lit w [0] (by simp))
    have HK : Hid (Kept [R] w (w.alloc (.cells #[.int .i64 0] 3))) := Lib.hid ((Kept.refl _ _).alloc _)
    have HRA : Hid (Rd (w.alloc (.cells #[.int .i64 0] 3)) B R P) := Lib.hid (HR.out.kept ((Kept.refl [] _).alloc _) (by simp))
    rw [hn0]
    go_enter Try.func44, Try.ntmps44
    go_wp2
    go_ret
    exact ⟨_, [0], rfl, HL.out, by simp, by simp, HRA.out.mono (by omega), HK.out⟩
  · obtain ⟨n, hn⟩ : ∃ n, n = xs.length := ⟨_, rfl⟩
    have hp : 0 < n := by omega
    have h6 : n ≤ 6 := by omega
    obtain ⟨g, cap, rfl, hgb, hg⟩ := hs.shape hn.symm hp
    have HC := Lib.hid (fun j (hj : j < n) => (hs.at j (by omega)).1)
    have hgR : ¬ g = R := by omega
    have HN := Lib.hid hn
    have hn0' : ((n : Int) == 0) = false := beq_eq_false_iff_ne.2 (by omega)
    clear hr hs hn hn0 hx6 HS
    go_enter Try.func44, Try.ntmps44
    go_wp2_with fail
    refine (pick_any B R P (by omega) (n : Int) (by omega) _ HR.out).mono ?_
    rintro e w1 ⟨x, rfl, hx0, hx, hr1, hk1⟩
    obtain ⟨x, rfl⟩ := Int.eq_ofNat_of_zero_le hx0
    have hxn : x < n := by omega
    have HL1 : Hid (Sl (w1.alloc (.cells #[.int .i64 (x : Int)] 3)) w1.heap.size (.slice (some ⟨w1.heap.size, 0, none⟩) 1 1) [(x : Int)]) := Lib.hid (Sl.lit w1 [(x : Int)] (by simp))
    have HK1 : Hid (Kept [R] w (w1.alloc (.cells #[.int .i64 (x : Int)] 3))) := Lib.hid (hk1.alloc _)
    have HR1 : Hid (Rd (w1.alloc (.cells #[.int .i64 (x : Int)] 3)) B R (P + 1)) := Lib.hid (hr1.kept ((Kept.refl [] _).alloc _) (by simp))
    have hsz : w.heap.size ≤ w1.heap.size := hk1.size
    clear hr1 hk1 hx hx0 HR
    go_wp2_with fail
    refine (pick_any B R (P + 1) (by omega) 9 (by omega) _ HR1.out).mono ?_
    rintro e w2 ⟨k0, rfl, hk0, hk9, hr2, hk2⟩
    obtain ⟨k0, rfl⟩ := Int.eq_ofNat_of_zero_le hk0
    have h8 : k0 ≤ 8 := by omega
    have HL2 := Lib.hid ((HL1.out.kept hk2 (fun g hg hm => by simp [Value.ownBlock] at hg hm; omega)).mono hsz)
    have HK2 := Lib.hid (HK1.out.trans hk2 (by simp))
    have HR2 := Lib.hid hr2
    clear hr2 hk2 hk0 hk9 HL1 HK1 HR1
    go_wp2_with fail
    go_loopw [5, 6] (fun u i wr => ∃ (k p gz cz at0 : Nat) (zs : List Int), k ≤ 8 ∧ i = .int .i64 k ∧ u = .slice (some ⟨gz, 0, none⟩) (p + 1) cz ∧ zs.length = p + 1 ∧ p + 1 + k ≤ 10 ∧ at0 < n ∧ zs.getD p 0 = (at0 : Int) ∧ w.heap.size ≤ gz ∧ Sl wr w.heap.size u zs ∧ Rd wr B R (P + (11 - k)) ∧ Kept [R] w wr) (fun _ i _ => (intOf i).toNat)
    case atStart => exact ⟨k0, 0, w1.heap.size, 1, x, [(x : Int)], h8, rfl, rfl, rfl, by omega, hxn, rfl, hsz, HL2.out, HR2.out.mono (by omega), HK2.out⟩
    case round =>
      clear HL2 HR2 HK2
      obtain ⟨k, p, gz, cz, at0, zs, hk8, rfl, rfl, hzl, hpk, hat, hla, hgz, hsl, hrd, hkept⟩ := hrel
      have hcz := (hsl.at p (by omega)).1
      rw [hla] at hcz
      have HSL := Lib.hid hsl
      have HRD := Lib.hid hrd
      have HK := Lib.hid hkept
      have HZL := Lib.hid hzl
      have HLA := Lib.hid hla
      have hgzR : ¬ gz = R := by omega
      clear hsl hrd hkept hla hzl
      by_cases hk0 : 0 < k
      · go_wp2_with fail
        refine (pick_any B R (P + (11 - k)) (by omega) (n : Int) (by omega) _ HRD.out).mono ?_
        rintro e w3 ⟨j, rfl, hj0, hj, hr3, hk3⟩
        obtain ⟨j, rfl⟩ := Int.eq_ofNat_of_zero_le hj0
        have hjn : j < n := by omega
        have HR3 := Lib.hid hr3
        have HS3 := Lib.hid (HSL.out.kept hk3 (fun g hg hm => by simp [Value.ownBlock] at hg hm; omega))
        have HK3 := Lib.hid (HK.out.trans hk3 (by simp))
        have hcn := (HK3.out.cell (p := ⟨g, at0, none⟩) hg (by simp; exact hgR)).trans (HC.out at0 hat)
        have hws : w.heap.size ≤ w3.heap.size := HK3.out.size
        clear hr3 hk3 hj hj0 hcz HRD HSL HK
        generalize xs.getD at0 0 = y at *
        go_wp2_with fail
        go_loopw [5, 9] (fun u i wx => ∃ q : Nat, q ≤ n ∧ i = .int .i64 q ∧ u = .slice (some ⟨gz, 0, none⟩) (p + 1) cz ∧ w3 = wx) (fun _ i _ => n - (intOf i).toNat)
        case atStart => exact ⟨0, Nat.zero_le _, rfl, rfl, rfl⟩
        case round =>
          obtain ⟨q, hq, rfl, rfl, rfl⟩ := hrel
          by_cases hlq : q < n
          · have f1 := tmod_nat (j + q) n
            rw [Int.natCast_add] at f1
            have ht : (j + q) % n < n := Nat.mod_lt _ hp
            generalize (j + q) % n = t at *
            obtain ⟨b1, b2⟩ := tmod_two (y / 2 ^ t)
            have ht6 : t ≤ 6 := by omega
            by_cases hbit : (y / 2 ^ t).tmod 2 = 1
            · have d1 : ((y / 2 ^ t).tmod 2 == 1) = true := by simp [hbit]
              go_wp2_with (at_builtin; refine app_int _ rfl _ _ rfl w.heap.size _ _ HS3.out rfl rfl (by rw [HZL.out]; omega) hws ?_; intro u4 w4 hs4 hk4; have HS4 := Lib.hid hs4; have HK4 := Lib.hid hk4; clear hs4 hk4)
              have hlen : (zs ++ [(t : Int)]).length = p + 1 + 1 := by rw [List.length_append, HZL.out]; rfl
              have hlast : (zs ++ [(t : Int)]).getD (p + 1) 0 = (t : Int) := by have h := last_of zs (t : Int); rw [HZL.out] at h; exact h
              obtain ⟨g5, cap5, rfl, hg5, hgs5⟩ := HS4.out.shape hlen (by omega)
              go_roundw
              case rel => exact ⟨k - 1, p + 1, g5, cap5, t, zs ++ [(t : Int)], by omega, by go_num, rfl, hlen, by omega, ht, hlast, hg5, HS4.out, (HR3.out.kept HK4.out (fun x hx => by simp [Value.ownBlock] at hx; omega)).mono (by omega), HK3.out.trans HK4.out (fun x hx => by right; simp [Value.ownBlock] at hx; omega)⟩
              case measure => simp [intOf]; omega
            · have d1 : ((y / 2 ^ t).tmod 2 == 1) = false := by simp [hbit]
              go_wp2
              go_roundw
              case rel => exact ⟨q + 1, by omega, by go_num, by first | rfl | trivial, by first | rfl | trivial⟩
              case measure => simp [intOf]; omega
          · go_wp2
            go_roundw
            case rel => exact ⟨k - 1, p, gz, cz, at0, zs, by omega, by go_num, rfl, HZL.out, by omega, hat, HLA.out, hgz, HS3.out, HR3.out.mono (by omega), HK3.out⟩
            case measure => simp [intOf]; omega
      · have hk' : k = 0 := by omega
        subst hk'
        go_wp2_with fail
        refine (odd_any B R (P + (11 - 0)) (by omega) 14 (by omega) (by omega) _ HRD.out).mono ?_
        rintro e w3 ⟨o, rfl, hr3, hk3⟩
        have HR3 := Lib.hid hr3
        have HS3 := Lib.hid (HSL.out.kept hk3 (fun g hg hm => by simp [Value.ownBlock] at hg hm; omega))
        have HK3 := Lib.hid (HK.out.trans hk3 (by simp))
        clear hr3 hk3 hcz HRD HSL HK
        cases o
        · go_wp2
          go_ret
          exact ⟨_, zs, rfl, HS3.out, by rw [HZL.out]; omega, by rw [HZL.out]; omega, HR3.out.mono (by omega), HK3.out⟩
        · go_wp2_with fail
          refine (pick_any B R _ (by omega) 7 (by omega) _ HR3.out).mono ?_
          rintro e w4 ⟨x4, rfl, _, _, hr4, hk4⟩
          have HR4 := Lib.hid hr4
          have HS4 := Lib.hid (HS3.out.kept hk4 (fun g hg hm => by simp [Value.ownBlock] at hg hm; omega))
          have HK4 := Lib.hid (HK3.out.trans hk4 (by simp))
          have hws : w.heap.size ≤ w4.heap.size := HK4.out.size
          clear hr4 hk4 HR3 HS3 HK3
          go_wp2_with (at_builtin; refine app_int _ rfl _ _ rfl w.heap.size _ _ HS4.out rfl rfl (by rw [HZL.out]; omega) hws ?_; intro u5 w5 hs5 hk5; have HS5 := Lib.hid hs5; have HK5 := Lib.hid hk5; clear hs5 hk5)
          go_ret
          exact ⟨_, _, rfl, HS5.out, by rw [List.length_append]; simp, by rw [List.length_append, HZL.out]; simp; omega, (HR4.out.kept HK5.out (fun x hx => by simp [Value.ownBlock] at hx; omega)).mono (by omega), HK4.out.trans HK5.out (fun x hx => by right; simp [Value.ownBlock] at hx; omega)⟩
end Go.Proofs.Ythhnhnfflmmmlaa

namespace Go.Proofs.Ythhnhnfflmmmlaa
open Go.RowKit

/-- A net, a state and a tour are drawn, and nothing else has turned. -/
def DrawnClimb (w : World) (e : Ending) (w' : World) : Prop :=
  ∃ u xs, ∃ v ys, ∃ z zs, e = .returned (.tuple #[u, v, z]) ∧ Sl w' w.heap.size u xs ∧ Sl w' w.heap.size v ys ∧ Sl w' w.heap.size z zs ∧ xs.length ≤ 6 ∧ ys.length ≤ 7 ∧ 1 ≤ zs.length ∧ zs.length ≤ 11 ∧ Kept [] w w'

set_option maxHeartbeats 1000000 in
theorem drawClimbOf_any (w : World) (v : Value) (ha : ArgB w v) : Calls Try.prog 20 #[v] w (DrawnClimb w) := by
  have HA := Lib.hid ha
  obtain ⟨a, n, cap, rfl, _, _, _⟩ := ha
  go_enter Try.func20, Try.ntmps20
  go_wp2_with fail
  refine (open_any _ _ HA.out).mono ?_
  rintro e w1 ⟨rfl, hr, hk⟩
  have HR := Lib.hid hr
  have HK := Lib.hid hk
  have hRlt := hr.lt
  clear hr hk
  go_wp2_with fail
  refine (turn_any _ _ 0 (by omega) 14 (by omega) (by omega) _ HR.out).mono ?_
  rintro e w2 ⟨u, xs, v2, ys, rfl, hs, ht, hl1, hl2, hr2, hk2⟩
  have HSL := Lib.hid (fun g (hg : u.ownBlock = some g) => (hs.block hg).2)
  have HTL := Lib.hid (fun g (hg : v2.ownBlock = some g) => (ht.block hg).2)
  have HSG := Lib.hid (fun g (hg : u.ownBlock = some g) => (hs.block hg).1)
  have HTG := Lib.hid (fun g (hg : v2.ownBlock = some g) => (ht.block hg).1)
  have HS := Lib.hid hs
  have HT := Lib.hid ht
  have HR2 := Lib.hid hr2
  have HK2 := Lib.hid (HK.out.trans hk2 (fun x hx => by right; simp at hx; omega))
  have hsz1 : w1.heap.size ≤ w2.heap.size := hk2.size
  obtain ⟨aS, cS, rfl, _, _, _⟩ := hs.any
  obtain ⟨aT, cT, rfl, _, _, _⟩ := ht.any
  clear hs ht hr2 hk2
  go_wp2_with fail
  refine (tour_any _ _ _ (by omega) xs hl1 _ HR2.out _ _ HS.out hRlt).mono ?_
  rintro e w3 ⟨z, zs, rfl, hz, hz1, hz2, hr3, hk3⟩
  have HZ3 := Lib.hid hz
  have HR3 := Lib.hid hr3
  have HS3 := Lib.hid ((HS.out.kept hk3 (fun g hg hm => by have := HSG.out g hg; simp at hm; omega)))
  have HT3 := Lib.hid ((HT.out.kept hk3 (fun g hg hm => by have := HTG.out g hg; simp at hm; omega)))
  have HK3 := Lib.hid (HK2.out.trans hk3 (fun x hx => by right; simp at hx; omega))
  have hsz2 : w2.heap.size ≤ w3.heap.size := hk3.size
  have hsw : w.heap.size ≤ w1.heap.size := HK.out.size
  clear hz hr3 hk3
  go_wp2
  go_ret3
  exact ⟨_, xs, _, ys, _, zs, rfl, HS3.out.mono hsw, HT3.out.mono hsw, HZ3.out.mono (by omega), hl1, hl2, hz1, hz2, HK3.out⟩

end Go.Proofs.Ythhnhnfflmmmlaa

namespace Go.Proofs.Ythhnhnfflmmmlaa
open Go.RowKit

/-- A state and two numbers are drawn, and nothing else has turned. -/
def DrawnRise (w : World) (e : Ending) (w' : World) : Prop :=
  ∃ u xs, ∃ a b : Int, e = .returned (.tuple #[u, .int .i64 a, .int .i64 b]) ∧ Sl w' w.heap.size u xs ∧ xs.length ≤ 6 ∧ Kept [] w w'
/-- A net and a row of places are drawn, and nothing else has turned. -/
def DrawnTour (w : World) (e : Ending) (w' : World) : Prop :=
  ∃ u xs, ∃ z zs, e = .returned (.tuple #[u, z]) ∧ Sl w' w.heap.size u xs ∧ Sl w' w.heap.size z zs ∧ xs.length ≤ 6 ∧ 1 ≤ zs.length ∧ zs.length ≤ 15 ∧ Kept [] w w'
/-- A net, a state and two numbers are drawn, and nothing else has turned. -/
def DrawnBest (w : World) (e : Ending) (w' : World) : Prop :=
  ∃ u xs, ∃ v ys, ∃ a b : Int, e = .returned (.tuple #[u, v, .int .i64 a, .int .i64 b]) ∧ Sl w' w.heap.size u xs ∧ Sl w' w.heap.size v ys ∧ xs.length ≤ 6 ∧ ys.length ≤ 7 ∧ Kept [] w w'

set_option maxHeartbeats 1000000 in
theorem drawMostClimb_any (w : World) (v : Value) (ha : ArgB w v) : Calls Try.prog 23 #[v] w (DrawnTurns w) := by
  have HA := Lib.hid ha
  obtain ⟨a, n, cap, rfl, _, _, _⟩ := ha
  go_enter Try.func23, Try.ntmps23
  go_wp2_with fail
  refine (drawTurnRun_any _ _ HA.out).mono ?_
  rintro e w2 ⟨u, xs, v2, ys, s, rfl, hs, ht, hl1, hl2, hs1, hs2, hk⟩
  have HS := Lib.hid hs
  have HT := Lib.hid ht
  have HK := Lib.hid hk
  clear hs ht hk
  go_wp2
  go_ret3
  exact ⟨_, xs, _, ys, _, rfl, HS.out, HT.out, hl1, hl2, hs1, hs2, HK.out⟩

set_option maxHeartbeats 1000000 in
theorem drawTourOk_any (w : World) (v : Value) (ha : ArgB w v) : Calls Try.prog 16 #[v] w (DrawnTour w) := by
  have HA := Lib.hid ha
  obtain ⟨a, n, cap, rfl, _, _, _⟩ := ha
  go_enter Try.func16, Try.ntmps16
  go_wp2_with fail
  refine (open_any _ _ HA.out).mono ?_
  rintro e w1 ⟨rfl, hr, hk⟩
  have HR := Lib.hid hr
  have HK := Lib.hid hk
  have hRlt := hr.lt
  clear hr hk
  go_wp2_with fail
  refine (net_any _ _ 0 (by omega) 14 (by omega) (by omega) _ HR.out).mono ?_
  rintro e w2 ⟨u, xs, rfl, hs, hl1, hr2, hk2⟩
  have HSG := Lib.hid (fun g (hg : u.ownBlock = some g) => (hs.block hg).1)
  have HS := Lib.hid hs
  have HR2 := Lib.hid hr2
  have HK2 := Lib.hid (HK.out.trans hk2 (fun x hx => by right; simp at hx; omega))
  have hsz1 : w1.heap.size ≤ w2.heap.size := hk2.size
  obtain ⟨aS, cS, rfl, _, _, _⟩ := hs.any
  clear hs hr2 hk2
  go_wp2_with fail
  refine (tour_any _ _ _ (by omega) xs hl1 _ HR2.out _ _ HS.out hRlt).mono ?_
  rintro e w3 ⟨z, zs, rfl, hz, hz1, hz2, hr3, hk3⟩
  have HZG := Lib.hid (fun g (hg : z.ownBlock = some g) => (hz.block hg).1)
  have HZ3 := Lib.hid hz
  have HR3 := Lib.hid hr3
  have HS3 := Lib.hid ((HS.out.kept hk3 (fun g hg hm => by have := HSG.out g hg; simp at hm; omega)))
  have HK3 := Lib.hid (HK2.out.trans hk3 (fun x hx => by right; simp at hx; omega))
  have hsz2 : w2.heap.size ≤ w3.heap.size := hk3.size
  have hsw : w.heap.size ≤ w1.heap.size := HK.out.size
  obtain ⟨L, hL⟩ : ∃ L, zs.length = L := ⟨_, rfl⟩
  obtain ⟨gz, cz, rfl, hgz, hgzl⟩ := hz.shape hL (by omega)
  have HSL := Lib.hid (fun g (hg : (Value.slice aS xs.length cS).ownBlock = some g) => (HS.out.block hg).2)
  clear hz hr3 hk3
  go_wp2_with fail
  refine (odd_any _ _ _ (by omega) 4 (by omega) (by omega) _ HR3.out).mono ?_
  rintro e w4 ⟨o, rfl, hr4, hk4⟩
  have HS4 := Lib.hid ((HS3.out.kept hk4 (fun g hg hm => by have := HSG.out g hg; simp at hm; omega)))
  have HZ4 := Lib.hid ((HZ3.out.kept hk4 (fun g hg hm => by simp [Value.ownBlock] at hg hm; omega)))
  have HK4 := Lib.hid (HK3.out.trans hk4 (fun x hx => by right; simp at hx; omega))
  have hsz3 : w3.heap.size ≤ w4.heap.size := hk4.size
  clear hr4 hk4
  have HL4 : Hid (Sl (w4.alloc (.cells #[.int .i64 0, .int .i64 1, .int .i64 0, .int .i64 1] 3)) w4.heap.size (.slice (some ⟨w4.heap.size, 0, none⟩) 4 4) [0, 1, 0, 1]) := Lib.hid (Sl.lit w4 [0, 1, 0, 1] (by simp))
  have hka : Kept [] w4 (w4.alloc (.cells #[.int .i64 0, .int .i64 1, .int .i64 0, .int .i64 1] 3)) := (Kept.refl _ _).alloc _
  have HZA := Lib.hid (HZ4.out.stay hka)
  have HSA := Lib.hid (HS4.out.stay hka)
  have HKA := Lib.hid (HK4.out.trans hka (by simp))
  have HLZ := Lib.hid hL
  have hL11 : L ≤ 11 := by omega
  clear hka hL
  cases o
  · go_wp2
    go_ret2
    exact ⟨_, xs, _, zs, rfl, HS4.out.mono hsw, HZ4.out.mono (by omega), hl1, hz1, by omega, HK4.out⟩
  · go_wp2_with (at_builtin; refine app_sl rfl _ _ rfl w2.heap.size _ zs HZA.out rfl _ _ [0, 1, 0, 1] HL4.out (by simp) rfl (by rw [HLZ.out]; simp; omega) (by simp; omega) ?_; intro u5 w5 hs5 hk5; have HS5 := Lib.hid hs5; have HK5 := Lib.hid hk5; clear hs5 hk5)
    go_ret2
    exact ⟨_, xs, _, _, rfl, (HSA.out.kept HK5.out (fun g hg hm => by have := HSL.out g hg; simp [Value.ownBlock] at hm; omega)).mono hsw, HS5.out.mono (by omega), hl1, by simp, by rw [List.length_append, HLZ.out]; simp; omega, HKA.out.own HK5.out (fun g hg => by simp [Value.ownBlock] at hg; omega)⟩

set_option maxHeartbeats 2000000 in
theorem drawRiseOf_any (w : World) (v : Value) (ha : ArgB w v) : Calls Try.prog 10 #[v] w (DrawnRise w) := by
  have HA := Lib.hid ha
  obtain ⟨a, n, cap, rfl, _, _, _⟩ := ha
  go_enter Try.func10, Try.ntmps10
  go_wp2_with fail
  refine (open_any _ _ HA.out).mono ?_
  rintro e w1 ⟨rfl, hr, hk⟩
  have HR := Lib.hid hr
  have HK := Lib.hid hk
  have hRlt := hr.lt
  clear hr hk
  go_wp2_with fail
  refine (pick_any _ _ _ (by omega) 6 (by omega) _ HR.out).mono ?_
  rintro e w2 ⟨x, rfl, hx0, hx, hr2, hk2⟩
  obtain ⟨x, rfl⟩ := Int.eq_ofNat_of_zero_le hx0
  have hx6 : x < 6 := by omega
  have HR2 := Lib.hid hr2
  have HK2 := Lib.hid (HK.out.trans hk2 (fun x hx => by right; simp at hx; omega))
  obtain ⟨m, hm⟩ : ∃ m, m = 1 + x := ⟨_, rfl⟩
  have e1 : (1 : Int) + (x : Int) = (m : Int) := by omega
  have hm1 : 1 ≤ m := by omega
  have hm6 : m ≤ 6 := by omega
  clear hr2 hk2 hx hm hx6 hx0
  go_wp2_with fail
  clear e1
  refine (state_any _ _ _ (by omega) m (by omega) (by omega) 3 (by omega) (by omega) 14 (by omega) (by omega) _ HR2.out).mono ?_
  rintro e w3 ⟨u, xs, rfl, hs, hl, hr3, hk3⟩
  obtain ⟨b, cap1, rfl, _, _, _⟩ := hs.any
  have hsz : w.heap.size ≤ w2.heap.size := HK2.out.size
  have HSG := Lib.hid (fun g (hg : (Value.slice b xs.length cap1).ownBlock = some g) => (hs.block hg).1)
  have hR2 : w.heap.size < w2.heap.size := HR2.out.lt
  have HS3 := Lib.hid (hs.mono hsz)
  have HR3 := Lib.hid hr3
  have HK3 := Lib.hid (HK2.out.trans hk3 (fun x hx => by right; simp at hx; omega))
  clear hs hr3 hk3 HR2 HK2
  by_cases h1 : 1 ≤ xs.length
  all_goals
    have h1' : (1 : Int) ≤ (xs.length : Int) ∨ (xs.length : Int) < 1 := by omega
    go_wp2_with fail
    (with_reducible refine (pick_any _ _ _ (by omega) _ (by omega) _ HR3.out).mono ?_)
    rintro e w4 ⟨x4, rfl, hx40, hx4, hr4, hk4⟩
    have hx47 : x4 < 7 := by omega
    have HR4 := Lib.hid hr4
    have HK4 := Lib.hid (HK3.out.trans hk4 (fun x hx => by right; simp at hx; omega))
    have HS4 := Lib.hid (HS3.out.kept hk4 (fun g hg hm => by have := HSG.out g hg; simp at hm; omega))
    clear hr4 hk4 hx4 h1' HR3 HK3 HS3
    go_wp2_with fail
    (with_reducible refine (pick_any _ _ _ (by omega) _ (by omega) _ HR4.out).mono ?_)
    rintro e w5 ⟨z5, rfl, hz50, hz5, hr5, hk5⟩
    have hz540 : z5 ≤ 40 := by omega
    have HR5 := Lib.hid hr5
    have HK5 := Lib.hid (HK4.out.trans hk5 (fun x hx => by right; simp at hx; omega))
    have HS5 := Lib.hid (HS4.out.kept hk5 (fun g hg hm => by have := HSG.out g hg; simp at hm; omega))
    obtain ⟨d0, d1⟩ := tdiv39 hz50 hz540
    have h1'' : (1 : Int) ≤ (xs.length : Int) ∨ (xs.length : Int) < 1 := by omega
    clear hr5 hk5 hz5 hz540 hz50 HR4 HK4 HS4
    go_wp2_with fail
    (with_reducible refine (pick_any _ _ _ (by omega) _ (by omega) _ HR5.out).mono ?_)
    rintro e w6 ⟨x6, rfl, hx60, hx6, hr6, hk6⟩
    have hx67 : x6 < 7 := by omega
    have HR6 := Lib.hid hr6
    have HK6 := Lib.hid (HK5.out.trans hk6 (fun x hx => by right; simp at hx; omega))
    have HS6 := Lib.hid (HS5.out.kept hk6 (fun g hg hm => by have := HSG.out g hg; simp at hm; omega))
    clear hr6 hk6 hx6 h1'' HR5 HK5 HS5
    go_wp2_with fail
    (with_reducible refine (pick_any _ _ _ (by omega) _ (by omega) _ HR6.out).mono ?_)
    rintro e w7 ⟨z7, rfl, hz70, hz7, hr7, hk7⟩
    have hz740 : z7 ≤ 40 := by omega
    have HK7 := Lib.hid (HK6.out.trans hk7 (fun x hx => by right; simp at hx; omega))
    have HS7 := Lib.hid (HS6.out.kept hk7 (fun g hg hm => by have := HSG.out g hg; simp at hm; omega))
    obtain ⟨d2, d3⟩ := tdiv39 hz70 hz740
    clear hr7 hk7 hz7 hz740 hz70 HR6 HK6 HS6
    go_wp2
    go_ret3
    exact ⟨_, xs, _, _, rfl, HS7.out, hl, HK7.out⟩

set_option maxHeartbeats 2000000 in
theorem drawBestTour_any (w : World) (v : Value) (ha : ArgB w v) : Calls Try.prog 28 #[v] w (DrawnBest w) := by
  have HA := Lib.hid ha
  obtain ⟨a, n, cap, rfl, _, _, _⟩ := ha
  go_enter Try.func28, Try.ntmps28
  go_wp2_with fail
  refine (open_any _ _ HA.out).mono ?_
  rintro e w1 ⟨rfl, hr, hk⟩
  have HR := Lib.hid hr
  have HK := Lib.hid hk
  have hRlt := hr.lt
  clear hr hk
  go_wp2_with fail
  refine (turn_any _ _ 0 (by omega) 14 (by omega) (by omega) _ HR.out).mono ?_
  rintro e w2 ⟨u, xs, v2, ys, rfl, hs, ht, hl1, hl2, hr2, hk2⟩
  have HSG := Lib.hid (fun g (hg : u.ownBlock = some g) => (hs.block hg).1)
  have HTG := Lib.hid (fun g (hg : v2.ownBlock = some g) => (ht.block hg).1)
  have HS3 := Lib.hid (hs.mono HK.out.size)
  have HT3 := Lib.hid (ht.mono HK.out.size)
  have HR3 := Lib.hid hr2
  have HK3 := Lib.hid (HK.out.trans hk2 (fun x hx => by right; simp at hx; omega))
  obtain ⟨aS, cS, rfl, _, _, _⟩ := hs.any
  obtain ⟨aT, cT, rfl, _, _, _⟩ := ht.any
  clear hs ht hr2 hk2
  by_cases h1 : 1 ≤ xs.length
  all_goals
    have h1' : (1 : Int) ≤ (xs.length : Int) ∨ (xs.length : Int) < 1 := by omega
    go_wp2_with fail
    (with_reducible refine (pick_any _ _ _ (by omega) _ (by omega) _ HR3.out).mono ?_)
    rintro e w4 ⟨x4, rfl, hx40, hx4, hr4, hk4⟩
    have hx47 : x4 < 7 := by omega
    have HR4 := Lib.hid hr4
    have HK4 := Lib.hid (HK3.out.trans hk4 (fun x hx => by right; simp at hx; omega))
    have HS4 := Lib.hid (HS3.out.kept hk4 (fun g hg hm => by have := HSG.out g hg; simp at hm; omega))
    have HT4 := Lib.hid (HT3.out.kept hk4 (fun g hg hm => by have := HTG.out g hg; simp at hm; omega))
    clear hr4 hk4 hx4 h1' HR3 HK3 HS3 HT3
    go_wp2_with fail
    (with_reducible refine (pick_any _ _ _ (by omega) _ (by omega) _ HR4.out).mono ?_)
    rintro e w5 ⟨z5, rfl, hz50, hz5, hr5, hk5⟩
    have hz540 : z5 ≤ 40 := by omega
    have HR5 := Lib.hid hr5
    have HK5 := Lib.hid (HK4.out.trans hk5 (fun x hx => by right; simp at hx; omega))
    have HS5 := Lib.hid (HS4.out.kept hk5 (fun g hg hm => by have := HSG.out g hg; simp at hm; omega))
    have HT5 := Lib.hid (HT4.out.kept hk5 (fun g hg hm => by have := HTG.out g hg; simp at hm; omega))
    obtain ⟨d0, d1⟩ := tdiv39 hz50 hz540
    clear hr5 hk5 hz5 hz540 hz50 HR4 HK4 HS4 HT4
    go_wp2_with fail
    (with_reducible refine (pick_any _ _ _ (by omega) _ (by omega) _ HR5.out).mono ?_)
    rintro e w6 ⟨x6, rfl, hx60, hx6, hr6, hk6⟩
    have hx67 : x6 < 9 := by omega
    have HR6 := Lib.hid hr6
    have HK6 := Lib.hid (HK5.out.trans hk6 (fun x hx => by right; simp at hx; omega))
    have HS6 := Lib.hid (HS5.out.kept hk6 (fun g hg hm => by have := HSG.out g hg; simp at hm; omega))
    have HT6 := Lib.hid (HT5.out.kept hk6 (fun g hg hm => by have := HTG.out g hg; simp at hm; omega))
    clear hr6 hk6 hx6 HR5 HK5 HS5 HT5
    go_wp2_with fail
    (with_reducible refine (pick_any _ _ _ (by omega) _ (by omega) _ HR6.out).mono ?_)
    rintro e w7 ⟨z7, rfl, hz70, hz7, hr7, hk7⟩
    have hz740 : z7 ≤ 40 := by omega
    have HK7 := Lib.hid (HK6.out.trans hk7 (fun x hx => by right; simp at hx; omega))
    have HS7 := Lib.hid (HS6.out.kept hk7 (fun g hg hm => by have := HSG.out g hg; simp at hm; omega))
    have HT7 := Lib.hid (HT6.out.kept hk7 (fun g hg hm => by have := HTG.out g hg; simp at hm; omega))
    obtain ⟨d2, d3⟩ := tdiv39 hz70 hz740
    clear hr7 hk7 hz7 hz740 hz70 HR6 HK6 HS6 HT6
    go_wp2
    (try simp only [Exit.inBlock, Exit.then]); refine bodyPost_ret (results_tmp4 rfl _ _ _) rfl ?_
    exact ⟨_, xs, _, ys, _, _, rfl, HS7.out, HT7.out, hl1, hl2, HK7.out⟩
end Go.Proofs.Ythhnhnfflmmmlaa
