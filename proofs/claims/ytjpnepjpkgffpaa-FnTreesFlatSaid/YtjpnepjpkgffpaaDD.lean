/-
  Walks: what the laws of turning wheels draw.
  Walks: tours that are drawn.
  Walks: what the laws of tours and windings draw.
  Walks: what the laws of rises, tours and best tours draw.
-/
import Derived.Test.YtjpnepjpkgffpaaDC
namespace Go.Proofs.Ytjpnepjpkgffpaa
open Go.RowKit

/-- A net and a state of three kinds are drawn. -/
def DrawsTurn (w : World) (B R P : Nat) (e : Ending) (w' : World) : Prop :=
  ∃ u xs, ∃ v ys, e = .returned (.tuple #[u, v]) ∧ Sl w' w.heap.size u xs ∧ Sl w' w.heap.size v ys ∧ xs.length ≤ 6 ∧ ys.length ≤ 7 ∧ Rd w' B R (P + 60) ∧ Kept [R] w w'

set_option maxHeartbeats 600000 in
set_option maxRecDepth 100000 in
theorem turn_any (B R P : Nat) (hP : P ≤ 80000) (m : Int) (hm : m ≤ 400) (hm0 : 0 ≤ m) (w : World) (hr : Rd w B R P) :
    Calls Try.prog 40 #[.pointer (some ⟨R, 0, none⟩), .int .i64 m] w (DrawsTurn w B R P) := by
  have HR := Lib.hid hr
  have hlt := hr.lt
  have hBR := hr.1
  clear hr
  go_enter Try.func40, Try.ntmps40
  go_wp2_with fail
  refine (net_any B R P (by omega) (m * 2) (by omega) (by omega) _ HR.out).mono ?_
  rintro e w1 ⟨u, xs, rfl, hs, hl, hr1, hk1⟩
  obtain ⟨b, cap1, rfl, _, _, _⟩ := hs.any
  have HS1 := Lib.hid hs
  have HR1 := Lib.hid hr1
  have HK1 := Lib.hid hk1
  obtain ⟨n, hn⟩ : ∃ n, n = xs.length := ⟨_, rfl⟩
  have HN := Lib.hid hn
  rw [← hn] at HS1 ⊢
  clear hs hr1 hk1 HR hn
  have hn6 : n ≤ 6 := by have := HN.out; omega
  go_wp2_with fail
  all_goals
    first
    | (with_reducible refine (state_any B R _ (by omega) n (by omega) (by omega) 3 (by omega) (by omega) (m * 2) (by omega) (by omega) _ HR1.out).mono ?_)
    | (refine (state_any B R _ (by omega) 1 (by omega) (by omega) 3 (by omega) (by omega) (m * 2) (by omega) (by omega) _ HR1.out).mono ?_)
    rintro e w3 ⟨v, ys, rfl, hs3, hl3, hr3, hk3⟩
    have HR3 := Lib.hid hr3
    have HS3 := Lib.hid (HS1.out.past hk3 hlt)
    have HT3 := Lib.hid (hs3.mono HK1.out.size)
    have HLT := Lib.hid (fun g hg => (HS1.out.block (g := g) hg).2)
    have HGE := Lib.hid (fun g hg => (hs3.block (g := g) hg).1)
    have HK3 := Lib.hid (HK1.out.trans hk3 (by simp))
    clear hs3 hr3 hk3 HR1 HS1 HK1
    go_wp2_with fail
    refine (odd_any B R _ (by omega) (m * 2) (by omega) (by omega) _ HR3.out).mono ?_
    rintro e w4 ⟨o, rfl, hr4, hk4⟩
    have HR4 := Lib.hid hr4
    have HS4 := Lib.hid (HS3.out.past hk4 hlt)
    have HT4 := Lib.hid (HT3.out.past hk4 hlt)
    have HK4 := Lib.hid (HK3.out.trans hk4 (by simp))
    have hsz4 := HK4.out.size
    obtain ⟨b2, cap2, rfl, _, _, _⟩ := HT4.out.any
    clear hr4 hk4 HR3 HS3 HK3 HT3
    cases o
    · go_wp2
      go_ret2
      exact ⟨_, xs, _, ys, rfl, HS4.out, HT4.out, by have := HN.out; omega, by omega, HR4.out.mono (by omega), HK4.out⟩
    · go_wp2_with (at_builtin; refine app_int _ rfl _ _ rfl w.heap.size _ _ HT4.out rfl rfl (by omega) hsz4 ?_; intro u5 w5 hs5 hk5; have HT5 := Lib.hid hs5; have HK5 := Lib.hid hk5; clear hs5 hk5)
      go_ret2
      exact ⟨_, xs, _, _, rfl, HS4.out.kept HK5.out (apart HLT.out HGE.out), HT5.out, by have := HN.out; omega, by simp; omega, (HR4.out.own HK5.out (fun g hg => (HT4.out.block hg).1) hlt (by omega)).mono (by omega), HK4.out.ownR HK5.out (fun g hg => (HT4.out.block hg).1)⟩

/-- A net and a state are drawn, and nothing else has turned. -/
def DrawnTurn (w : World) (e : Ending) (w' : World) : Prop :=
  ∃ u xs, ∃ v ys, e = .returned (.tuple #[u, v]) ∧ Sl w' w.heap.size u xs ∧ Sl w' w.heap.size v ys ∧ xs.length ≤ 6 ∧ ys.length ≤ 7 ∧ Kept [] w w'
/-- A net, a state and a number of turns are drawn, and nothing else has turned. -/
def DrawnTurns (w : World) (e : Ending) (w' : World) : Prop :=
  ∃ u xs, ∃ v ys, ∃ s : Int, e = .returned (.tuple #[u, v, .int .i64 s]) ∧ Sl w' w.heap.size u xs ∧ Sl w' w.heap.size v ys ∧ xs.length ≤ 6 ∧ ys.length ≤ 7 ∧ -100000 ≤ s ∧ s ≤ 100000 ∧ Kept [] w w'

end Go.Proofs.Ytjpnepjpkgffpaa

namespace Go.Proofs.Ytjpnepjpkgffpaa
open Go.RowKit

/-- A row of places is drawn. -/
def DrawsTour (w : World) (B R P : Nat) (e : Ending) (w' : World) : Prop :=
  ∃ u zs, e = .returned u ∧ Sl w' w.heap.size u zs ∧ 1 ≤ zs.length ∧ zs.length ≤ 11 ∧ Rd w' B R (P + 20) ∧ Kept [R] w w'

theorem tmod_two (y : Int) : -2 < y.tmod 2 ∧ y.tmod 2 < 2 := ⟨Int.lt_tmod_of_pos y (by decide), Int.tmod_lt_of_pos y (by decide)⟩
theorem last_of (zs : List Int) (x : Int) : (zs ++ [x]).getD zs.length 0 = x := by simp [List.getD_eq_getElem?_getD]

set_option maxHeartbeats 2000000 in
set_option maxRecDepth 100000 in
theorem tour_any (B R P : Nat) (hP : P ≤ 80000) (xs : List Int) (hx6 : xs.length ≤ 6) (w : World) (hr : Rd w B R P) (v : Value) (base : Nat) (hs : Sl w base v xs) (hb : R < base) :
    Calls Try.prog 41 #[.pointer (some ⟨R, 0, none⟩), v] w (DrawsTour w B R P) := by
  have HR := Lib.hid hr
  have HS := Lib.hid hs
  have hlt := hr.lt
  have hBR := hr.1
  by_cases hn0 : xs.length = 0
  · obtain ⟨a, cap, rfl, _, _, _⟩ := hs.any
    clear hr hs
    have HL : Hid (Sl (w.alloc (.cells #[.int .i64 0] 3)) w.heap.size (.slice (some ⟨w.heap.size, 0, none⟩) 1 1) [0]) := Lib.hid (Sl.lit w [0] (by simp))
    have HK : Hid (Kept [R] w (w.alloc (.cells #[.int .i64 0] 3))) := Lib.hid ((Kept.refl _ _).alloc _)
    have HRA : Hid (Rd (w.alloc (.cells #[.int .i64 0] 3)) B R P) := Lib.hid (HR.out.kept ((Kept.refl [] _).alloc _) (by simp))
    rw [hn0]
    go_enter Try.func41, Try.ntmps41
    go_wp2
    go_ret
    exact ⟨_, [0], rfl, HL.out, by simp, by simp, HRA.out.mono (by omega), HK.out⟩
  · obtain ⟨n, hn⟩ : ∃ n, n = xs.length := ⟨_, rfl⟩
    have hp : 0 < n := by omega
    have h6 : n ≤ 6 := by omega
    obtain ⟨g, cap, rfl, hgb, hg⟩ := hs.shape hn.symm hp
    have HC := Lib.hid (fun j (hj : j < n) => (hs.at j (by omega)).1)
    have hgR : ¬ g = R := by omega
    have HN := Lib.hid hn
    have hn0' : ((n : Int) == 0) = false := beq_eq_false_iff_ne.2 (by omega)
    clear hr hs hn hn0 hx6 HS
    go_enter Try.func41, Try.ntmps41
    go_wp2_with fail
    refine (pick_any B R P (by omega) (n : Int) (by omega) _ HR.out).mono ?_
    rintro e w1 ⟨x, rfl, hx0, hx, hr1, hk1⟩
    obtain ⟨x, rfl⟩ := Int.eq_ofNat_of_zero_le hx0
    have hxn : x < n := by omega
    have HL1 : Hid (Sl (w1.alloc (.cells #[.int .i64 (x : Int)] 3)) w1.heap.size (.slice (some ⟨w1.heap.size, 0, none⟩) 1 1) [(x : Int)]) := Lib.hid (Sl.lit w1 [(x : Int)] (by simp))
    have HK1 : Hid (Kept [R] w (w1.alloc (.cells #[.int .i64 (x : Int)] 3))) := Lib.hid (hk1.alloc _)
    have HR1 : Hid (Rd (w1.alloc (.cells #[.int .i64 (x : Int)] 3)) B R (P + 1)) := Lib.hid (hr1.kept ((Kept.refl [] _).alloc _) (by simp))
    have hsz : w.heap.size ≤ w1.heap.size := hk1.size
    clear hr1 hk1 hx hx0 HR
    go_wp2_with fail
    refine (pick_any B R (P + 1) (by omega) 9 (by omega) _ HR1.out).mono ?_
    rintro e w2 ⟨k0, rfl, hk0, hk9, hr2, hk2⟩
    obtain ⟨k0, rfl⟩ := Int.eq_ofNat_of_zero_le hk0
    have h8 : k0 ≤ 8 := by omega
    have HL2 := Lib.hid ((HL1.out.kept hk2 (fun g hg hm => by simp [Value.ownBlock] at hg hm; omega)).mono hsz)
    have HK2 := Lib.hid (HK1.out.trans hk2 (by simp))
    have HR2 := Lib.hid hr2
    clear hr2 hk2 hk0 hk9 HL1 HK1 HR1
    go_wp2_with fail
    go_loopw [5, 6] (fun u i wr => ∃ (k p gz cz at0 : Nat) (zs : List Int), k ≤ 8 ∧ i = .int .i64 k ∧ u = .slice (some ⟨gz, 0, none⟩) (p + 1) cz ∧ zs.length = p + 1 ∧ p + 1 + k ≤ 10 ∧ at0 < n ∧ zs.getD p 0 = (at0 : Int) ∧ w.heap.size ≤ gz ∧ Sl wr w.heap.size u zs ∧ Rd wr B R (P + (11 - k)) ∧ Kept [R] w wr) (fun _ i _ => (intOf i).toNat)
    case atStart => exact ⟨k0, 0, w1.heap.size, 1, x, [(x : Int)], h8, rfl, rfl, rfl, by omega, hxn, rfl, hsz, HL2.out, HR2.out.mono (by omega), HK2.out⟩
    case round =>
      clear HL2 HR2 HK2
      obtain ⟨k, p, gz, cz, at0, zs, hk8, rfl, rfl, hzl, hpk, hat, hla, hgz, hsl, hrd, hkept⟩ := hrel
      have hcz := (hsl.at p (by omega)).1
      rw [hla] at hcz
      have HSL := Lib.hid hsl
      have HRD := Lib.hid hrd
      have HK := Lib.hid hkept
      have HZL := Lib.hid hzl
      have HLA := Lib.hid hla
      have hgzR : ¬ gz = R := by omega
      clear hsl hrd hkept hla hzl
      by_cases hk0 : 0 < k
      · go_wp2_with fail
        refine (pick_any B R (P + (11 - k)) (by omega) (n : Int) (by omega) _ HRD.out).mono ?_
        rintro e w3 ⟨j, rfl, hj0, hj, hr3, hk3⟩
        obtain ⟨j, rfl⟩ := Int.eq_ofNat_of_zero_le hj0
        have hjn : j < n := by omega
        have HR3 := Lib.hid hr3
        have HS3 := Lib.hid (HSL.out.kept hk3 (fun g hg hm => by simp [Value.ownBlock] at hg hm; omega))
        have HK3 := Lib.hid (HK.out.trans hk3 (by simp))
        have hcn := (HK3.out.cell (p := ⟨g, at0, none⟩) hg (by simp; exact hgR)).trans (HC.out at0 hat)
        have hws : w.heap.size ≤ w3.heap.size := HK3.out.size
        clear hr3 hk3 hj hj0 hcz HRD HSL HK
        generalize xs.getD at0 0 = y at *
        go_wp2_with fail
        go_loopw [5, 9] (fun u i wx => ∃ q : Nat, q ≤ n ∧ i = .int .i64 q ∧ u = .slice (some ⟨gz, 0, none⟩) (p + 1) cz ∧ w3 = wx) (fun _ i _ => n - (intOf i).toNat)
        case atStart => exact ⟨0, Nat.zero_le _, rfl, rfl, rfl⟩
        case round =>
          obtain ⟨q, hq, rfl, rfl, rfl⟩ := hrel
          by_cases hlq : q < n
          · have f1 := tmod_nat (j + q) n
            rw [Int.natCast_add] at f1
            have ht : (j + q) % n < n := Nat.mod_lt _ hp
            generalize (j + q) % n = t at *
            obtain ⟨b1, b2⟩ := tmod_two (y / 2 ^ t)
            have ht6 : t ≤ 6 := by omega
            by_cases hbit : (y / 2 ^ t).tmod 2 = 1
            · have d1 : ((y / 2 ^ t).tmod 2 == 1) = true := by simp [hbit]
              go_wp2_with (at_builtin; refine app_int _ rfl _ _ rfl w.heap.size _ _ HS3.out rfl rfl (by rw [HZL.out]; omega) hws ?_; intro u4 w4 hs4 hk4; have HS4 := Lib.hid hs4; have HK4 := Lib.hid hk4; clear hs4 hk4)
              have hlen : (zs ++ [(t : Int)]).length = p + 1 + 1 := by rw [List.length_append, HZL.out]; rfl
              have hlast : (zs ++ [(t : Int)]).getD (p + 1) 0 = (t : Int) := by have h := last_of zs (t : Int); rw [HZL.out] at h; exact h
              obtain ⟨g5, cap5, rfl, hg5, hgs5⟩ := HS4.out.shape hlen (by omega)
              go_roundw
              case rel => exact ⟨k - 1, p + 1, g5, cap5, t, zs ++ [(t : Int)], by omega, by go_num, rfl, hlen, by omega, ht, hlast, hg5, HS4.out, (HR3.out.kept HK4.out (fun x hx => by simp [Value.ownBlock] at hx; omega)).mono (by omega), HK3.out.trans HK4.out (fun x hx => by right; simp [Value.ownBlock] at hx; omega)⟩
              case measure => simp [intOf]; omega
            · have d1 : ((y / 2 ^ t).tmod 2 == 1) = false := by simp [hbit]
              go_wp2
              go_roundw
              case rel => exact ⟨q + 1, by omega, by go_num, by first | rfl | trivial, by first | rfl | trivial⟩
              case measure => simp [intOf]; omega
          · go_wp2
            go_roundw
            case rel => exact ⟨k - 1, p, gz, cz, at0, zs, by omega, by go_num, rfl, HZL.out, by omega, hat, HLA.out, hgz, HS3.out, HR3.out.mono (by omega), HK3.out⟩
            case measure => simp [intOf]; omega
      · have hk' : k = 0 := by omega
        subst hk'
        go_wp2_with fail
        refine (odd_any B R (P + (11 - 0)) (by omega) 14 (by omega) (by omega) _ HRD.out).mono ?_
        rintro e w3 ⟨o, rfl, hr3, hk3⟩
        have HR3 := Lib.hid hr3
        have HS3 := Lib.hid (HSL.out.kept hk3 (fun g hg hm => by simp [Value.ownBlock] at hg hm; omega))
        have HK3 := Lib.hid (HK.out.trans hk3 (by simp))
        clear hr3 hk3 hcz HRD HSL HK
        cases o
        · go_wp2
          go_ret
          exact ⟨_, zs, rfl, HS3.out, by rw [HZL.out]; omega, by rw [HZL.out]; omega, HR3.out.mono (by omega), HK3.out⟩
        · go_wp2_with fail
          refine (pick_any B R _ (by omega) 7 (by omega) _ HR3.out).mono ?_
          rintro e w4 ⟨x4, rfl, _, _, hr4, hk4⟩
          have HR4 := Lib.hid hr4
          have HS4 := Lib.hid (HS3.out.kept hk4 (fun g hg hm => by simp [Value.ownBlock] at hg hm; omega))
          have HK4 := Lib.hid (HK3.out.trans hk4 (by simp))
          have hws : w.heap.size ≤ w4.heap.size := HK4.out.size
          clear hr4 hk4 HR3 HS3 HK3
          go_wp2_with (at_builtin; refine app_int _ rfl _ _ rfl w.heap.size _ _ HS4.out rfl rfl (by rw [HZL.out]; omega) hws ?_; intro u5 w5 hs5 hk5; have HS5 := Lib.hid hs5; have HK5 := Lib.hid hk5; clear hs5 hk5)
          go_ret
          exact ⟨_, _, rfl, HS5.out, by rw [List.length_append]; simp, by rw [List.length_append, HZL.out]; simp; omega, (HR4.out.kept HK5.out (fun x hx => by simp [Value.ownBlock] at hx; omega)).mono (by omega), HK4.out.trans HK5.out (fun x hx => by right; simp [Value.ownBlock] at hx; omega)⟩
end Go.Proofs.Ytjpnepjpkgffpaa

namespace Go.Proofs.Ytjpnepjpkgffpaa
open Go.RowKit

/-- A net, a state and a tour are drawn, and nothing else has turned. -/
def DrawnClimb (w : World) (e : Ending) (w' : World) : Prop :=
  ∃ u xs, ∃ v ys, ∃ z zs, e = .returned (.tuple #[u, v, z]) ∧ Sl w' w.heap.size u xs ∧ Sl w' w.heap.size v ys ∧ Sl w' w.heap.size z zs ∧ xs.length ≤ 6 ∧ ys.length ≤ 7 ∧ 1 ≤ zs.length ∧ zs.length ≤ 11 ∧ Kept [] w w'

set_option maxHeartbeats 4000000 in
set_option maxRecDepth 100000 in
theorem drawWindingOf_any (w : World) (v : Value) (ha : ArgB w v) : Calls Try.prog 10 #[v] w (DrawnClimb w) := by
  have HA := Lib.hid ha
  obtain ⟨a, n, cap, rfl, _, _, _⟩ := ha
  go_enter Try.func10, Try.ntmps10
  go_wp2_with fail
  refine (open_any _ _ HA.out).mono ?_
  rintro e w1 ⟨rfl, hr, hk⟩
  have HR := Lib.hid hr
  have HK := Lib.hid hk
  have hRlt := hr.lt
  clear hr hk
  go_wp2_with fail
  refine (turn_any _ _ 0 (by omega) 14 (by omega) (by omega) _ HR.out).mono ?_
  rintro e w2 ⟨u, xs, v2, ys, rfl, hs, ht, hl1, hl2, hr2, hk2⟩
  have HSL := Lib.hid (fun g (hg : u.ownBlock = some g) => (hs.block hg).2)
  have HTL := Lib.hid (fun g (hg : v2.ownBlock = some g) => (ht.block hg).2)
  have HSG := Lib.hid (fun g (hg : u.ownBlock = some g) => (hs.block hg).1)
  have HTG := Lib.hid (fun g (hg : v2.ownBlock = some g) => (ht.block hg).1)
  have HS := Lib.hid hs
  have HT := Lib.hid ht
  have HR2 := Lib.hid hr2
  have HK2 := Lib.hid (HK.out.trans hk2 (fun x hx => by right; simp at hx; omega))
  have hsz1 : w1.heap.size ≤ w2.heap.size := hk2.size
  obtain ⟨aS, cS, rfl, _, _, _⟩ := hs.any
  obtain ⟨aT, cT, rfl, _, _, _⟩ := ht.any
  clear hs ht hr2 hk2
  go_wp2_with fail
  refine (tour_any _ _ _ (by omega) xs hl1 _ HR2.out _ _ HS.out hRlt).mono ?_
  rintro e w3 ⟨z, zs, rfl, hz, hz1, hz2, hr3, hk3⟩
  have HZ3 := Lib.hid hz
  have HR3 := Lib.hid hr3
  have HS3 := Lib.hid ((HS.out.kept hk3 (fun g hg hm => by have := HSG.out g hg; simp at hm; omega)))
  have HT3 := Lib.hid ((HT.out.kept hk3 (fun g hg hm => by have := HTG.out g hg; simp at hm; omega)))
  have HK3 := Lib.hid (HK2.out.trans hk3 (fun x hx => by right; simp at hx; omega))
  have hsz2 : w2.heap.size ≤ w3.heap.size := hk3.size
  have hsw : w.heap.size ≤ w1.heap.size := HK.out.size
  obtain ⟨L, hL⟩ : ∃ L, zs.length = L := ⟨_, rfl⟩
  have HZL := Lib.hid hL
  rw [hL] at hz1 hz2
  obtain ⟨gz, cz, rfl, hgz, hgzl⟩ := hz.shape hL (by omega)
  have HZB : Hid (∀ g, (Value.slice (some ⟨gz, 0, none⟩) L cz).ownBlock = some g → w2.heap.size ≤ g) := Lib.hid (fun g hg => by simp [Value.ownBlock] at hg; omega)
  clear hz hr3 hk3 hL
  by_cases h3 : 3 ≤ xs.length
  · go_wp2_with fail
    refine (sNetOk_any xs _ _ _ HS3.out).mono ?_
    rintro e w4 ⟨rfl, hq⟩
    have HS4 := Lib.hid (hq.sl HS3.out)
    have HT4 := Lib.hid (hq.sl HT3.out)
    have HZ4 := Lib.hid (hq.sl HZ3.out)
    have HK4 := Lib.hid (HK3.out.trans hq.kept (by simp))
    have HR4 := Lib.hid (HR3.out.kept hq.kept (by simp))
    have hsz4 : w3.heap.size ≤ w4.heap.size := hq.kept.size
    clear hq HS3 HT3 HZ3 HK3 HR3
    cases hok : Nt.okB xs
    · go_wp2_with fail
      go_loopw [13, 14] (fun u i wr => ∃ (k gb cb : Nat) (vs : List Int), k ≤ L ∧ (L < 6 ∨ k = 0) ∧ i = .int .i64 k ∧ u = .slice (some ⟨gb, 0, none⟩) k cb ∧ vs.length = k ∧ Sl wr w4.heap.size u vs ∧ w4.heap.size ≤ gb ∧ gb < wr.heap.size ∧ Kept [] w4 wr) (fun _ i _ => L - (intOf i).toNat)
      case atStart => exact ⟨0, w4.heap.size, 0, [], Nat.zero_le _, .inr rfl, rfl, rfl, rfl, Sl.empty3 w4, Nat.le_refl _, by simp, (Kept.refl _ _).alloc _⟩
      case round =>
        obtain ⟨k, gb, cb, vs, hkL, hk5, rfl, rfl, hvl, hsl, hgb, hgl, hkept⟩ := hrel
        have HSL2 := Lib.hid hsl
        have HKW := Lib.hid hkept
        have HVL := Lib.hid hvl
        have ZR := Lib.hid (HZ4.out.stay hkept)
        have hws : w4.heap.size ≤ wr.heap.size := hkept.size
        clear hsl hkept hvl
        by_cases hlt : k + 1 < L ∧ L < 6
        · obtain ⟨hlt, hL6⟩ := hlt
          have hcz := (ZR.out.at k (by rw [HZL.out]; omega)).1
          generalize zs.getD k 0 = y at *
          have HL : Hid (Sl (wr.alloc (.cells #[.int .i64 y] 3)) wr.heap.size (.slice (some ⟨wr.heap.size, 0, none⟩) 1 1) [y]) := Lib.hid (Sl.lit wr [y] (by simp))
          have HCA : Hid (∀ j, j < k → (wr.alloc (.cells #[.int .i64 y] 3)).cell? ⟨gb, 0 + j, none⟩ = some (.int .i64 (vs.getD j 0))) := Lib.hid (fun j hj => by
            rw [Nat.zero_add]
            exact (((Kept.refl [] wr).alloc (.cells #[.int .i64 y] 3)).cell (p := ⟨gb, j, none⟩) hgl (by simp)).trans (HSL2.out.at j (by rw [HVL.out]; exact hj)).1)
          go_wp2_with (at_builtin; refine app_cut rfl _ _ rfl wr.heap.size _ [y] HL.out rfl gb 0 k cb vs HVL.out rfl HCA.out (by simp; omega) (by simp) ?_; intro v9 w9 hs9 hk9'; have HS9 := Lib.hid hs9; have HK9 := Lib.hid (((Kept.refl [] wr).alloc (.cells #[.int .i64 y] 3)).own hk9' (fun g' hg' => by simp [Value.ownBlock] at hg'; omega)); clear hs9 hk9')
          have hlen : ([y] ++ vs).length = k + 1 := by rw [List.length_append, HVL.out]; simp; omega
          obtain ⟨g5, cap5, rfl, hg5, hgs5⟩ := HS9.out.shape hlen (by omega)
          go_roundw
          case rel => exact ⟨k + 1, g5, cap5, [y] ++ vs, by omega, .inl hL6, by go_num, rfl, hlen, HS9.out.mono hws, by omega, hgs5, HKW.out.trans HK9.out (by simp)⟩
          case measure => simp [intOf]; omega
        · have HCA : Hid (∀ j, j < k → wr.cell? ⟨gb, 0 + j, none⟩ = some (.int .i64 (vs.getD j 0))) := Lib.hid (fun j hj => by
            rw [Nat.zero_add]
            exact (HSL2.out.at j (by rw [HVL.out]; exact hj)).1)
          have SR := Lib.hid (HS4.out.stay HKW.out)
          have TR := Lib.hid (HT4.out.stay HKW.out)
          by_cases hlt2 : k + 1 < L
          · have hL6 : ¬ L < 6 := fun h => hlt ⟨hlt2, h⟩
            clear hlt
            go_wp2_with (at_builtin; refine app_cut rfl _ _ rfl w2.heap.size _ zs ZR.out rfl gb 0 k cb vs HVL.out rfl HCA.out (by rw [HZL.out]; omega) (by omega) ?_; intro v9 w9 hs9 hk9'; have HS9 := Lib.hid hs9; have HK9 := Lib.hid hk9'; clear hs9 hk9')
            go_ret3
            exact ⟨_, xs, _, ys, _, zs ++ vs, rfl, (SR.out.kept HK9.out (apart HSL.out HZB.out)).mono hsw, (TR.out.kept HK9.out (apart HTL.out HZB.out)).mono hsw, HS9.out.mono (by omega), hl1, hl2, by rw [List.length_append, HZL.out]; omega, by rw [List.length_append, HZL.out, HVL.out]; omega, (HK4.out.trans HKW.out (by simp)).own HK9.out (fun g hg => by have := HZB.out g hg; omega)⟩
          · clear hlt
            go_wp2_with (at_builtin; refine app_cut rfl _ _ rfl w2.heap.size _ zs ZR.out rfl gb 0 k cb vs HVL.out rfl HCA.out (by rw [HZL.out]; omega) (by omega) ?_; intro v9 w9 hs9 hk9'; have HS9 := Lib.hid hs9; have HK9 := Lib.hid hk9'; clear hs9 hk9')
            go_ret3
            exact ⟨_, xs, _, ys, _, zs ++ vs, rfl, (SR.out.kept HK9.out (apart HSL.out HZB.out)).mono hsw, (TR.out.kept HK9.out (apart HTL.out HZB.out)).mono hsw, HS9.out.mono (by omega), hl1, hl2, by rw [List.length_append, HZL.out]; omega, by rw [List.length_append, HZL.out, HVL.out]; omega, (HK4.out.trans HKW.out (by simp)).own HK9.out (fun g hg => by have := HZB.out g hg; omega)⟩
    · go_wp2_with fail
      refine (pick_any _ _ _ (by omega) 2 (by omega) _ HR4.out).mono ?_
      rintro e w5 ⟨x, rfl, hx0, hx, hr5, hk5⟩
      obtain ⟨x, rfl⟩ := Int.eq_ofNat_of_zero_le hx0
      have HS5 := Lib.hid (HS4.out.kept hk5 (fun g hg hm => by have := HSG.out g hg; simp at hm; omega))
      have HT5 := Lib.hid (HT4.out.kept hk5 (fun g hg hm => by have := HTG.out g hg; simp at hm; omega))
      have HZ5 := Lib.hid (HZ4.out.kept hk5 (fun g hg hm => by simp [Value.ownBlock] at hg hm; omega))
      have HK5 := Lib.hid (HK4.out.trans hk5 (fun x hx => by right; simp at hx; omega))
      have hsz5 : w4.heap.size ≤ w5.heap.size := hk5.size
      clear hr5 hk5 hx hx0 HS4 HT4 HZ4 HK4 HR4
      by_cases hx1 : x = 0
      · subst hx1
        obtain ⟨ns, rfl, ok⟩ := Nt.okB_ok hok
        have HRO := Lib.hid (ringOf_yes ns.length ⟨by rw [Nt.nats_length] at h3; exact h3, ok.few⟩)
        obtain ⟨m, hm⟩ : ∃ m, m = ns.length := ⟨_, rfl⟩
        have HM := Lib.hid hm
        have hm3 : 3 ≤ m := by rw [Nt.nats_length] at h3; omega
        have hm6 : m ≤ 6 := by have := ok.few; omega
        obtain ⟨gS, capS, hvS, hgS, _⟩ := HS5.out.row hm.symm (by omega)
        have HNL : Hid ((Nt.nats ns).length = m) := Lib.hid (by rw [Nt.nats_length, hm])
        simp only [Value.slice.injEq] at hvS
        obtain ⟨rfl, hlm, rfl⟩ := hvS
        have HC5 := Lib.hid (fun j (hj : j < m) => ((HS5.out.at j (by rw [HNL.out]; exact hj)).1))
        rw [← hm] at HRO
        rw [hlm] at HS5 HSL ⊢
        clear ok hok hm h3
        go_wp2_with fail
        refine (sRing_any _ _).mono ?_
        rintro e w6 ⟨u6, rfl, hs6, hk6⟩
        rw [HRO.out] at hs6
        obtain ⟨g6, cap6, rfl, hg6, hc6⟩ := hs6.row (n := m) (Nt.ringN_length _) (by omega)
        have HC6 := Lib.hid hc6
        have HC7 := Lib.hid (fun j (hj : j < m) => (hk6.cell (p := ⟨gS, j, none⟩) hgS (by simp)).trans (HC5.out j hj))
        have HS6 := Lib.hid (HS5.out.stay hk6)
        have HT6 := Lib.hid (HT5.out.stay hk6)
        have HZ6 := Lib.hid (HZ5.out.stay hk6)
        have HK6 := Lib.hid (HK5.out.trans hk6 (by simp))
        have hsz6 : w5.heap.size ≤ w6.heap.size := hk6.size
        clear hs6 hk6 hc6 hg6 HS5 HT5 HZ5 HK5 HC5
        go_wp2_with fail
        go_loopw [10, 11] (fun b i wr => ∃ (k : Nat) (q : Bool), k ≤ m ∧ i = .int .i64 k ∧ b = .bool q ∧ Qt w6 wr) (fun _ i _ => m - (intOf i).toNat)
        case atStart => exact ⟨0, true, Nat.zero_le _, rfl, rfl, Qt.refl _⟩
        case round =>
          obtain ⟨k, q, hk, rfl, rfl, hq⟩ := hrel
          have HQ := Lib.hid hq
          by_cases hlt : k < m
          · have c6 := (hq.cell _).trans (HC6.out k hlt)
            have c7 := (hq.cell _).trans (HC7.out k hlt)
            clear hq
            generalize (Nt.ringN m).getD k 0 = r at *
            generalize (Nt.nats ns).getD k 0 = y at *
            generalize hbb : (bits .andNot .i64 (r : Int) y == 0) = bb at *
            have HBB := Lib.hid hbb
            cases q
            · go_wp2_with fail
              go_quiet (fail)
              go_wp2
              go_roundw
              case rel => exact ⟨k + 1, false, by omega, by go_num, rfl, HQ.out.draw _⟩
              case measure => simp [intOf]; omega
            · go_wp2_with fail
              go_quiet (fail)
              go_wp2
              go_roundw
              case rel => exact ⟨k + 1, bb, by omega, by go_num, rfl, HQ.out.draw _⟩
              case measure => simp [intOf]; omega
          · have SQ := Lib.hid (hq.sl HS6.out)
            have TQ := Lib.hid (hq.sl HT6.out)
            have ZQ := Lib.hid (hq.sl HZ6.out)
            have KQ := Lib.hid (HK6.out.trans hq.kept (by simp))
            have hszq : w6.heap.size ≤ wr.heap.size := hq.kept.size
            have hk' : k = m := by omega
            subst hk'
            clear hq HQ hlt hk
            generalize wr = w7 at *
            cases q
            · go_wp2_with fail
              go_loopw [13, 14] (fun u i wr => ∃ (k gb cb : Nat) (vs : List Int), k ≤ L ∧ (L < 6 ∨ k = 0) ∧ i = .int .i64 k ∧ u = .slice (some ⟨gb, 0, none⟩) k cb ∧ vs.length = k ∧ Sl wr w7.heap.size u vs ∧ w7.heap.size ≤ gb ∧ gb < wr.heap.size ∧ Kept [] w7 wr) (fun _ i _ => L - (intOf i).toNat)
              case atStart => exact ⟨0, w7.heap.size, 0, [], Nat.zero_le _, .inr rfl, rfl, rfl, rfl, Sl.empty3 w7, Nat.le_refl _, by simp, (Kept.refl _ _).alloc _⟩
              case round =>
                obtain ⟨k, gb, cb, vs, hkL, hk5, rfl, rfl, hvl, hsl, hgb, hgl, hkept⟩ := hrel
                have HSL2 := Lib.hid hsl
                have HKW := Lib.hid hkept
                have HVL := Lib.hid hvl
                have ZR := Lib.hid (ZQ.out.stay hkept)
                have hws : w7.heap.size ≤ wr.heap.size := hkept.size
                clear hsl hkept hvl
                by_cases hlt : k + 1 < L ∧ L < 6
                · obtain ⟨hlt, hL6⟩ := hlt
                  have hcz := (ZR.out.at k (by rw [HZL.out]; omega)).1
                  generalize zs.getD k 0 = y at *
                  have HL : Hid (Sl (wr.alloc (.cells #[.int .i64 y] 3)) wr.heap.size (.slice (some ⟨wr.heap.size, 0, none⟩) 1 1) [y]) := Lib.hid (Sl.lit wr [y] (by simp))
                  have HCA : Hid (∀ j, j < k → (wr.alloc (.cells #[.int .i64 y] 3)).cell? ⟨gb, 0 + j, none⟩ = some (.int .i64 (vs.getD j 0))) := Lib.hid (fun j hj => by
                    rw [Nat.zero_add]
                    exact (((Kept.refl [] wr).alloc (.cells #[.int .i64 y] 3)).cell (p := ⟨gb, j, none⟩) hgl (by simp)).trans (HSL2.out.at j (by rw [HVL.out]; exact hj)).1)
                  go_wp2_with (at_builtin; refine app_cut rfl _ _ rfl wr.heap.size _ [y] HL.out rfl gb 0 k cb vs HVL.out rfl HCA.out (by simp; omega) (by simp) ?_; intro v9 w9 hs9 hk9'; have HS9 := Lib.hid hs9; have HK9 := Lib.hid (((Kept.refl [] wr).alloc (.cells #[.int .i64 y] 3)).own hk9' (fun g' hg' => by simp [Value.ownBlock] at hg'; omega)); clear hs9 hk9')
                  have hlen : ([y] ++ vs).length = k + 1 := by rw [List.length_append, HVL.out]; simp; omega
                  obtain ⟨g5, cap5, rfl, hg5, hgs5⟩ := HS9.out.shape hlen (by omega)
                  go_roundw
                  case rel => exact ⟨k + 1, g5, cap5, [y] ++ vs, by omega, .inl hL6, by go_num, rfl, hlen, HS9.out.mono hws, by omega, hgs5, HKW.out.trans HK9.out (by simp)⟩
                  case measure => simp [intOf]; omega
                · have HCA : Hid (∀ j, j < k → wr.cell? ⟨gb, 0 + j, none⟩ = some (.int .i64 (vs.getD j 0))) := Lib.hid (fun j hj => by
                    rw [Nat.zero_add]
                    exact (HSL2.out.at j (by rw [HVL.out]; exact hj)).1)
                  have SR := Lib.hid (SQ.out.stay HKW.out)
                  have TR := Lib.hid (TQ.out.stay HKW.out)
                  by_cases hlt2 : k + 1 < L
                  · have hL6 : ¬ L < 6 := fun h => hlt ⟨hlt2, h⟩
                    clear hlt
                    go_wp2_with (at_builtin; refine app_cut rfl _ _ rfl w2.heap.size _ zs ZR.out rfl gb 0 k cb vs HVL.out rfl HCA.out (by rw [HZL.out]; omega) (by omega) ?_; intro v9 w9 hs9 hk9'; have HS9 := Lib.hid hs9; have HK9 := Lib.hid hk9'; clear hs9 hk9')
                    go_ret3
                    exact ⟨_, Nt.nats ns, _, ys, _, zs ++ vs, rfl, (SR.out.kept HK9.out (apart HSL.out HZB.out)).mono hsw, (TR.out.kept HK9.out (apart HTL.out HZB.out)).mono hsw, HS9.out.mono (by omega), hl1, hl2, by rw [List.length_append, HZL.out]; omega, by rw [List.length_append, HZL.out, HVL.out]; omega, (KQ.out.trans HKW.out (by simp)).own HK9.out (fun g hg => by have := HZB.out g hg; omega)⟩
                  · clear hlt
                    go_wp2_with (at_builtin; refine app_cut rfl _ _ rfl w2.heap.size _ zs ZR.out rfl gb 0 k cb vs HVL.out rfl HCA.out (by rw [HZL.out]; omega) (by omega) ?_; intro v9 w9 hs9 hk9'; have HS9 := Lib.hid hs9; have HK9 := Lib.hid hk9'; clear hs9 hk9')
                    go_ret3
                    exact ⟨_, Nt.nats ns, _, ys, _, zs ++ vs, rfl, (SR.out.kept HK9.out (apart HSL.out HZB.out)).mono hsw, (TR.out.kept HK9.out (apart HTL.out HZB.out)).mono hsw, HS9.out.mono (by omega), hl1, hl2, by rw [List.length_append, HZL.out]; omega, by rw [List.length_append, HZL.out, HVL.out]; omega, (KQ.out.trans HKW.out (by simp)).own HK9.out (fun g hg => by have := HZB.out g hg; omega)⟩
            · go_wp2_with fail
              go_loopw [8, 12] (fun u i wr => ∃ (j : Nat) (vs : List Int), j ≤ k + 1 ∧ i = .int .i64 j ∧ vs.length = j ∧ Sl wr w7.heap.size u vs ∧ Kept [] w7 wr) (fun _ i _ => k + 1 - (intOf i).toNat)
              case atStart => exact ⟨0, [], Nat.zero_le _, rfl, rfl, Sl.empty3 w7, (Kept.refl _ _).alloc _⟩
              case round =>
                obtain ⟨j, vs, hj, rfl, hvl, hsl, hkept⟩ := hrel
                have HSL2 := Lib.hid hsl
                have HKW := Lib.hid hkept
                have HVL := Lib.hid hvl
                have hws : w7.heap.size ≤ wr.heap.size := hkept.size
                clear hsl hkept hvl
                by_cases hlj : j ≤ k
                · have f1 := tmod_nat j k
                  generalize j % k = t at *
                  have hk0 : ¬ k = 0 := by omega
                  go_wp2_with (at_builtin; refine app_int _ rfl _ _ rfl w7.heap.size _ _ HSL2.out rfl rfl (by rw [HVL.out]; omega) hws ?_; intro u8 w8 hs8 hk8; have HS8 := Lib.hid hs8; have HK8 := Lib.hid hk8; clear hs8 hk8)
                  go_roundw
                  case rel => exact ⟨j + 1, _, by omega, by go_num, by rw [List.length_append, HVL.out]; rfl, HS8.out, HKW.out.own HK8.out (fun g hg => (HSL2.out.block hg).1)⟩
                  case measure => simp [intOf]; omega
                · have hj' : j = k + 1 := by omega
                  subst hj'
                  go_wp2
                  go_ret3
                  exact ⟨_, Nt.nats ns, _, ys, _, vs, rfl, (SQ.out.stay HKW.out).mono hsw, (TQ.out.stay HKW.out).mono hsw, HSL2.out.mono (by omega), hl1, hl2, by rw [HVL.out]; omega, by rw [HVL.out]; omega, KQ.out.trans HKW.out (by simp)⟩
      · have hx2 : ((x : Int) == 0) = false := by simp; omega
        go_wp2_with fail
        go_loopw [13, 14] (fun u i wr => ∃ (k gb cb : Nat) (vs : List Int), k ≤ L ∧ (L < 6 ∨ k = 0) ∧ i = .int .i64 k ∧ u = .slice (some ⟨gb, 0, none⟩) k cb ∧ vs.length = k ∧ Sl wr w5.heap.size u vs ∧ w5.heap.size ≤ gb ∧ gb < wr.heap.size ∧ Kept [] w5 wr) (fun _ i _ => L - (intOf i).toNat)
        case atStart => exact ⟨0, w5.heap.size, 0, [], Nat.zero_le _, .inr rfl, rfl, rfl, rfl, Sl.empty3 w5, Nat.le_refl _, by simp, (Kept.refl _ _).alloc _⟩
        case round =>
          obtain ⟨k, gb, cb, vs, hkL, hk5, rfl, rfl, hvl, hsl, hgb, hgl, hkept⟩ := hrel
          have HSL2 := Lib.hid hsl
          have HKW := Lib.hid hkept
          have HVL := Lib.hid hvl
          have ZR := Lib.hid (HZ5.out.stay hkept)
          have hws : w5.heap.size ≤ wr.heap.size := hkept.size
          clear hsl hkept hvl
          by_cases hlt : k + 1 < L ∧ L < 6
          · obtain ⟨hlt, hL6⟩ := hlt
            have hcz := (ZR.out.at k (by rw [HZL.out]; omega)).1
            generalize zs.getD k 0 = y at *
            have HL : Hid (Sl (wr.alloc (.cells #[.int .i64 y] 3)) wr.heap.size (.slice (some ⟨wr.heap.size, 0, none⟩) 1 1) [y]) := Lib.hid (Sl.lit wr [y] (by simp))
            have HCA : Hid (∀ j, j < k → (wr.alloc (.cells #[.int .i64 y] 3)).cell? ⟨gb, 0 + j, none⟩ = some (.int .i64 (vs.getD j 0))) := Lib.hid (fun j hj => by
              rw [Nat.zero_add]
              exact (((Kept.refl [] wr).alloc (.cells #[.int .i64 y] 3)).cell (p := ⟨gb, j, none⟩) hgl (by simp)).trans (HSL2.out.at j (by rw [HVL.out]; exact hj)).1)
            go_wp2_with (at_builtin; refine app_cut rfl _ _ rfl wr.heap.size _ [y] HL.out rfl gb 0 k cb vs HVL.out rfl HCA.out (by simp; omega) (by simp) ?_; intro v9 w9 hs9 hk9'; have HS9 := Lib.hid hs9; have HK9 := Lib.hid (((Kept.refl [] wr).alloc (.cells #[.int .i64 y] 3)).own hk9' (fun g' hg' => by simp [Value.ownBlock] at hg'; omega)); clear hs9 hk9')
            have hlen : ([y] ++ vs).length = k + 1 := by rw [List.length_append, HVL.out]; simp; omega
            obtain ⟨g5, cap5, rfl, hg5, hgs5⟩ := HS9.out.shape hlen (by omega)
            go_roundw
            case rel => exact ⟨k + 1, g5, cap5, [y] ++ vs, by omega, .inl hL6, by go_num, rfl, hlen, HS9.out.mono hws, by omega, hgs5, HKW.out.trans HK9.out (by simp)⟩
            case measure => simp [intOf]; omega
          · have HCA : Hid (∀ j, j < k → wr.cell? ⟨gb, 0 + j, none⟩ = some (.int .i64 (vs.getD j 0))) := Lib.hid (fun j hj => by
              rw [Nat.zero_add]
              exact (HSL2.out.at j (by rw [HVL.out]; exact hj)).1)
            have SR := Lib.hid (HS5.out.stay HKW.out)
            have TR := Lib.hid (HT5.out.stay HKW.out)
            by_cases hlt2 : k + 1 < L
            · have hL6 : ¬ L < 6 := fun h => hlt ⟨hlt2, h⟩
              clear hlt
              go_wp2_with (at_builtin; refine app_cut rfl _ _ rfl w2.heap.size _ zs ZR.out rfl gb 0 k cb vs HVL.out rfl HCA.out (by rw [HZL.out]; omega) (by omega) ?_; intro v9 w9 hs9 hk9'; have HS9 := Lib.hid hs9; have HK9 := Lib.hid hk9'; clear hs9 hk9')
              go_ret3
              exact ⟨_, xs, _, ys, _, zs ++ vs, rfl, (SR.out.kept HK9.out (apart HSL.out HZB.out)).mono hsw, (TR.out.kept HK9.out (apart HTL.out HZB.out)).mono hsw, HS9.out.mono (by omega), hl1, hl2, by rw [List.length_append, HZL.out]; omega, by rw [List.length_append, HZL.out, HVL.out]; omega, (HK5.out.trans HKW.out (by simp)).own HK9.out (fun g hg => by have := HZB.out g hg; omega)⟩
            · clear hlt
              go_wp2_with (at_builtin; refine app_cut rfl _ _ rfl w2.heap.size _ zs ZR.out rfl gb 0 k cb vs HVL.out rfl HCA.out (by rw [HZL.out]; omega) (by omega) ?_; intro v9 w9 hs9 hk9'; have HS9 := Lib.hid hs9; have HK9 := Lib.hid hk9'; clear hs9 hk9')
              go_ret3
              exact ⟨_, xs, _, ys, _, zs ++ vs, rfl, (SR.out.kept HK9.out (apart HSL.out HZB.out)).mono hsw, (TR.out.kept HK9.out (apart HTL.out HZB.out)).mono hsw, HS9.out.mono (by omega), hl1, hl2, by rw [List.length_append, HZL.out]; omega, by rw [List.length_append, HZL.out, HVL.out]; omega, (HK5.out.trans HKW.out (by simp)).own HK9.out (fun g hg => by have := HZB.out g hg; omega)⟩
  · go_wp2_with fail
    go_loopw [13, 14] (fun u i wr => ∃ (k gb cb : Nat) (vs : List Int), k ≤ L ∧ (L < 6 ∨ k = 0) ∧ i = .int .i64 k ∧ u = .slice (some ⟨gb, 0, none⟩) k cb ∧ vs.length = k ∧ Sl wr w3.heap.size u vs ∧ w3.heap.size ≤ gb ∧ gb < wr.heap.size ∧ Kept [] w3 wr) (fun _ i _ => L - (intOf i).toNat)
    case atStart => exact ⟨0, w3.heap.size, 0, [], Nat.zero_le _, .inr rfl, rfl, rfl, rfl, Sl.empty3 w3, Nat.le_refl _, by simp, (Kept.refl _ _).alloc _⟩
    case round =>
      obtain ⟨k, gb, cb, vs, hkL, hk5, rfl, rfl, hvl, hsl, hgb, hgl, hkept⟩ := hrel
      have HSL2 := Lib.hid hsl
      have HKW := Lib.hid hkept
      have HVL := Lib.hid hvl
      have ZR := Lib.hid (HZ3.out.stay hkept)
      have hws : w3.heap.size ≤ wr.heap.size := hkept.size
      clear hsl hkept hvl
      by_cases hlt : k + 1 < L ∧ L < 6
      · obtain ⟨hlt, hL6⟩ := hlt
        have hcz := (ZR.out.at k (by rw [HZL.out]; omega)).1
        generalize zs.getD k 0 = y at *
        have HL : Hid (Sl (wr.alloc (.cells #[.int .i64 y] 3)) wr.heap.size (.slice (some ⟨wr.heap.size, 0, none⟩) 1 1) [y]) := Lib.hid (Sl.lit wr [y] (by simp))
        have HCA : Hid (∀ j, j < k → (wr.alloc (.cells #[.int .i64 y] 3)).cell? ⟨gb, 0 + j, none⟩ = some (.int .i64 (vs.getD j 0))) := Lib.hid (fun j hj => by
          rw [Nat.zero_add]
          exact (((Kept.refl [] wr).alloc (.cells #[.int .i64 y] 3)).cell (p := ⟨gb, j, none⟩) hgl (by simp)).trans (HSL2.out.at j (by rw [HVL.out]; exact hj)).1)
        go_wp2_with (at_builtin; refine app_cut rfl _ _ rfl wr.heap.size _ [y] HL.out rfl gb 0 k cb vs HVL.out rfl HCA.out (by simp; omega) (by simp) ?_; intro v9 w9 hs9 hk9'; have HS9 := Lib.hid hs9; have HK9 := Lib.hid (((Kept.refl [] wr).alloc (.cells #[.int .i64 y] 3)).own hk9' (fun g' hg' => by simp [Value.ownBlock] at hg'; omega)); clear hs9 hk9')
        have hlen : ([y] ++ vs).length = k + 1 := by rw [List.length_append, HVL.out]; simp; omega
        obtain ⟨g5, cap5, rfl, hg5, hgs5⟩ := HS9.out.shape hlen (by omega)
        go_roundw
        case rel => exact ⟨k + 1, g5, cap5, [y] ++ vs, by omega, .inl hL6, by go_num, rfl, hlen, HS9.out.mono hws, by omega, hgs5, HKW.out.trans HK9.out (by simp)⟩
        case measure => simp [intOf]; omega
      · have HCA : Hid (∀ j, j < k → wr.cell? ⟨gb, 0 + j, none⟩ = some (.int .i64 (vs.getD j 0))) := Lib.hid (fun j hj => by
          rw [Nat.zero_add]
          exact (HSL2.out.at j (by rw [HVL.out]; exact hj)).1)
        have SR := Lib.hid (HS3.out.stay HKW.out)
        have TR := Lib.hid (HT3.out.stay HKW.out)
        by_cases hlt2 : k + 1 < L
        · have hL6 : ¬ L < 6 := fun h => hlt ⟨hlt2, h⟩
          clear hlt
          go_wp2_with (at_builtin; refine app_cut rfl _ _ rfl w2.heap.size _ zs ZR.out rfl gb 0 k cb vs HVL.out rfl HCA.out (by rw [HZL.out]; omega) (by omega) ?_; intro v9 w9 hs9 hk9'; have HS9 := Lib.hid hs9; have HK9 := Lib.hid hk9'; clear hs9 hk9')
          go_ret3
          exact ⟨_, xs, _, ys, _, zs ++ vs, rfl, (SR.out.kept HK9.out (apart HSL.out HZB.out)).mono hsw, (TR.out.kept HK9.out (apart HTL.out HZB.out)).mono hsw, HS9.out.mono (by omega), hl1, hl2, by rw [List.length_append, HZL.out]; omega, by rw [List.length_append, HZL.out, HVL.out]; omega, (HK3.out.trans HKW.out (by simp)).own HK9.out (fun g hg => by have := HZB.out g hg; omega)⟩
        · clear hlt
          go_wp2_with (at_builtin; refine app_cut rfl _ _ rfl w2.heap.size _ zs ZR.out rfl gb 0 k cb vs HVL.out rfl HCA.out (by rw [HZL.out]; omega) (by omega) ?_; intro v9 w9 hs9 hk9'; have HS9 := Lib.hid hs9; have HK9 := Lib.hid hk9'; clear hs9 hk9')
          go_ret3
          exact ⟨_, xs, _, ys, _, zs ++ vs, rfl, (SR.out.kept HK9.out (apart HSL.out HZB.out)).mono hsw, (TR.out.kept HK9.out (apart HTL.out HZB.out)).mono hsw, HS9.out.mono (by omega), hl1, hl2, by rw [List.length_append, HZL.out]; omega, by rw [List.length_append, HZL.out, HVL.out]; omega, (HK3.out.trans HKW.out (by simp)).own HK9.out (fun g hg => by have := HZB.out g hg; omega)⟩
end Go.Proofs.Ytjpnepjpkgffpaa

namespace Go.Proofs.Ytjpnepjpkgffpaa
open Go.RowKit

/-- A state and two numbers are drawn, and nothing else has turned. -/
def DrawnRise (w : World) (e : Ending) (w' : World) : Prop :=
  ∃ u xs, ∃ a b : Int, e = .returned (.tuple #[u, .int .i64 a, .int .i64 b]) ∧ Sl w' w.heap.size u xs ∧ xs.length ≤ 6 ∧ Kept [] w w'
/-- A net and a row of places are drawn, and nothing else has turned. -/
def DrawnTour (w : World) (e : Ending) (w' : World) : Prop :=
  ∃ u xs, ∃ z zs, e = .returned (.tuple #[u, z]) ∧ Sl w' w.heap.size u xs ∧ Sl w' w.heap.size z zs ∧ xs.length ≤ 6 ∧ 1 ≤ zs.length ∧ zs.length ≤ 15 ∧ Kept [] w w'
/-- A net, a state and two numbers are drawn, and nothing else has turned. -/
def DrawnBest (w : World) (e : Ending) (w' : World) : Prop :=
  ∃ u xs, ∃ v ys, ∃ a b : Int, e = .returned (.tuple #[u, v, .int .i64 a, .int .i64 b]) ∧ Sl w' w.heap.size u xs ∧ Sl w' w.heap.size v ys ∧ xs.length ≤ 6 ∧ ys.length ≤ 7 ∧ Kept [] w w'

end Go.Proofs.Ytjpnepjpkgffpaa
