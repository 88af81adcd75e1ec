/-
  Walks: nets, kinds and states drawn.
-/
import Derived.Test.YtahjplaidkibpaaD8
import Derived.Test.YtahjplaidkibpaaD11
namespace Go.Proofs.Ytahjplaidkibpaa
open Go.RowKit

/-- A net, kinds and a state are drawn: at most six numbers, three to five kinds, at most seven numbers. -/
def DrawsFire (w : World) (B R P : Nat) (e : Ending) (w' : World) : Prop :=
  ∃ u xs, ∃ v ys, ∃ c : Int, e = .returned (.tuple #[u, .int .i64 c, v]) ∧ 3 ≤ c ∧ c ≤ 5 ∧ Sl w' w.heap.size u xs ∧ Sl w' w.heap.size v ys ∧ xs.length ≤ 6 ∧ ys.length ≤ 7 ∧ Rd w' B R (P + 60) ∧ Kept [R] w w'

set_option maxHeartbeats 600000 in
theorem fire_any (B R P : Nat) (hP : P ≤ 80000) (m : Int) (hm : m ≤ 400) (hm0 : 0 ≤ m) (w : World) (hr : Rd w B R P) :
    Calls Try.prog 34 #[.pointer (some ⟨R, 0, none⟩), .int .i64 m] w (DrawsFire w B R P) := by
  have HR := Lib.hid hr
  have hlt := hr.lt
  have hBR := hr.1
  clear hr
  go_enter Try.func34, Try.ntmps34
  go_wp2_with fail
  refine (net_any B R P (by omega) (m * 2) (by omega) (by omega) _ HR.out).mono ?_
  rintro e w1 ⟨u, xs, rfl, hs, hl, hr1, hk1⟩
  obtain ⟨b, cap1, rfl, _, _, _⟩ := hs.any
  have HS1 := Lib.hid hs
  have HR1 := Lib.hid hr1
  have HK1 := Lib.hid hk1
  obtain ⟨n, hn⟩ : ∃ n, n = xs.length := ⟨_, rfl⟩
  have HN := Lib.hid hn
  rw [← hn] at HS1 ⊢
  clear hs hr1 hk1 HR hn
  go_wp2_with fail
  refine (pick_any B R _ (by omega) 3 (by omega) _ HR1.out).mono ?_
  rintro e w2 ⟨x, rfl, hx0, hx, hr2, hk2⟩
  have hx3 : x < 3 := by omega
  have HR2 := Lib.hid hr2
  have HS2 := Lib.hid (HS1.out.past hk2 hlt)
  have HK2 := Lib.hid (HK1.out.trans hk2 (by simp))
  clear hr2 hk2 HR1 HS1 HK1 hx
  have hn6 : n ≤ 6 := by have := HN.out; omega
  go_wp2_with fail
  all_goals
    first
    | (with_reducible refine (state_any B R _ (by omega) n (by omega) (by omega) (3 + x) (by omega) (by omega) (m * 2) (by omega) (by omega) _ HR2.out).mono ?_)
    | (refine (state_any B R _ (by omega) 1 (by omega) (by omega) (3 + x) (by omega) (by omega) (m * 2) (by omega) (by omega) _ HR2.out).mono ?_)
    rintro e w3 ⟨v, ys, rfl, hs3, hl3, hr3, hk3⟩
    have HR3 := Lib.hid hr3
    have HS3 := Lib.hid (HS2.out.past hk3 hlt)
    have HT3 := Lib.hid (hs3.mono HK2.out.size)
    have HLT := Lib.hid (fun g hg => (HS2.out.block (g := g) hg).2)
    have HGE := Lib.hid (fun g hg => (hs3.block (g := g) hg).1)
    have HK3 := Lib.hid (HK2.out.trans hk3 (by simp))
    clear hs3 hr3 hk3 HR2 HS2 HK2
    go_wp2_with fail
    refine (odd_any B R _ (by omega) (m * 2) (by omega) (by omega) _ HR3.out).mono ?_
    rintro e w4 ⟨o, rfl, hr4, hk4⟩
    have HR4 := Lib.hid hr4
    have HS4 := Lib.hid (HS3.out.past hk4 hlt)
    have HT4 := Lib.hid (HT3.out.past hk4 hlt)
    have HK4 := Lib.hid (HK3.out.trans hk4 (by simp))
    have hsz4 := HK4.out.size
    obtain ⟨b2, cap2, rfl, _, _, _⟩ := HT4.out.any
    clear hr4 hk4 HR3 HS3 HK3 HT3
    cases o
    · go_wp2
      go_ret3
      exact ⟨_, xs, _, ys, _, rfl, by omega, by omega, HS4.out, HT4.out, by have := HN.out; omega, by omega, HR4.out.mono (by omega), HK4.out⟩
    · go_wp2_with (at_builtin; refine app_int _ rfl _ _ rfl w.heap.size _ _ HT4.out rfl rfl (by omega) hsz4 ?_; intro u5 w5 hs5 hk5; have HT5 := Lib.hid hs5; have HK5 := Lib.hid hk5; clear hs5 hk5)
      go_ret3
      exact ⟨_, xs, _, _, _, rfl, by omega, by omega, HS4.out.kept HK5.out (apart HLT.out HGE.out), HT5.out, by have := HN.out; omega, by simp; omega, (HR4.out.own HK5.out (fun g hg => (HT4.out.block hg).1) hlt (by omega)).mono (by omega), HK4.out.ownR HK5.out (fun g hg => (HT4.out.block hg).1)⟩
end Go.Proofs.Ytahjplaidkibpaa
