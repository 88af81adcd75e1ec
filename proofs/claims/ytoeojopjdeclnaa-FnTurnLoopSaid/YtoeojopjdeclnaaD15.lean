/-
  Walks: what the laws of turning wheels draw.
-/
import Derived.Test.YtoeojopjdeclnaaDC
namespace Go.Proofs.Ytoeojopjdeclnaa
open Go.RowKit

/-- A net and a state of three kinds are drawn. -/
def DrawsTurn (w : World) (B R P : Nat) (e : Ending) (w' : World) : Prop :=
  ∃ u xs, ∃ v ys, e = .returned (.tuple #[u, v]) ∧ Sl w' w.heap.size u xs ∧ Sl w' w.heap.size v ys ∧ xs.length ≤ 6 ∧ ys.length ≤ 7 ∧ Rd w' B R (P + 60) ∧ Kept [R] w w'

set_option maxHeartbeats 600000 in
theorem turn_any (B R P : Nat) (hP : P ≤ 80000) (m : Int) (hm : m ≤ 400) (hm0 : 0 ≤ m) (w : World) (hr : Rd w B R P) :
    Calls Try.prog 31 #[.pointer (some ⟨R, 0, none⟩), .int .i64 m] w (DrawsTurn w B R P) := by
  have HR := Lib.hid hr
  have hlt := hr.lt
  have hBR := hr.1
  clear hr
  go_enter Try.func31, Try.ntmps31
  go_wp2_with fail
  refine (net_any B R P (by omega) (m * 2) (by omega) (by omega) _ HR.out).mono ?_
  rintro e w1 ⟨u, xs, rfl, hs, hl, hr1, hk1⟩
  obtain ⟨b, cap1, rfl, _, _, _⟩ := hs.any
  have HS1 := Lib.hid hs
  have HR1 := Lib.hid hr1
  have HK1 := Lib.hid hk1
  obtain ⟨n, hn⟩ : ∃ n, n = xs.length := ⟨_, rfl⟩
  have HN := Lib.hid hn
  rw [← hn] at HS1 ⊢
  clear hs hr1 hk1 HR hn
  have hn6 : n ≤ 6 := by have := HN.out; omega
  go_wp2_with fail
  all_goals
    first
    | (with_reducible refine (state_any B R _ (by omega) n (by omega) (by omega) 3 (by omega) (by omega) (m * 2) (by omega) (by omega) _ HR1.out).mono ?_)
    | (refine (state_any B R _ (by omega) 1 (by omega) (by omega) 3 (by omega) (by omega) (m * 2) (by omega) (by omega) _ HR1.out).mono ?_)
    rintro e w3 ⟨v, ys, rfl, hs3, hl3, hr3, hk3⟩
    have HR3 := Lib.hid hr3
    have HS3 := Lib.hid (HS1.out.past hk3 hlt)
    have HT3 := Lib.hid (hs3.mono HK1.out.size)
    have HLT := Lib.hid (fun g hg => (HS1.out.block (g := g) hg).2)
    have HGE := Lib.hid (fun g hg => (hs3.block (g := g) hg).1)
    have HK3 := Lib.hid (HK1.out.trans hk3 (by simp))
    clear hs3 hr3 hk3 HR1 HS1 HK1
    go_wp2_with fail
    refine (odd_any B R _ (by omega) (m * 2) (by omega) (by omega) _ HR3.out).mono ?_
    rintro e w4 ⟨o, rfl, hr4, hk4⟩
    have HR4 := Lib.hid hr4
    have HS4 := Lib.hid (HS3.out.past hk4 hlt)
    have HT4 := Lib.hid (HT3.out.past hk4 hlt)
    have HK4 := Lib.hid (HK3.out.trans hk4 (by simp))
    have hsz4 := HK4.out.size
    obtain ⟨b2, cap2, rfl, _, _, _⟩ := HT4.out.any
    clear hr4 hk4 HR3 HS3 HK3 HT3
    cases o
    · go_wp2
      go_ret2
      exact ⟨_, xs, _, ys, rfl, HS4.out, HT4.out, by have := HN.out; omega, by omega, HR4.out.mono (by omega), HK4.out⟩
    · go_wp2_with (at_builtin; refine app_int _ rfl _ _ rfl w.heap.size _ _ HT4.out rfl rfl (by omega) hsz4 ?_; intro u5 w5 hs5 hk5; have HT5 := Lib.hid hs5; have HK5 := Lib.hid hk5; clear hs5 hk5)
      go_ret2
      exact ⟨_, xs, _, _, rfl, HS4.out.kept HK5.out (apart HLT.out HGE.out), HT5.out, by have := HN.out; omega, by simp; omega, (HR4.out.own HK5.out (fun g hg => (HT4.out.block hg).1) hlt (by omega)).mono (by omega), HK4.out.ownR HK5.out (fun g hg => (HT4.out.block hg).1)⟩

/-- A net and a state are drawn, and nothing else has turned. -/
def DrawnTurn (w : World) (e : Ending) (w' : World) : Prop :=
  ∃ u xs, ∃ v ys, e = .returned (.tuple #[u, v]) ∧ Sl w' w.heap.size u xs ∧ Sl w' w.heap.size v ys ∧ xs.length ≤ 6 ∧ ys.length ≤ 7 ∧ Kept [] w w'
/-- A net, a state and a number of turns are drawn, and nothing else has turned. -/
def DrawnTurns (w : World) (e : Ending) (w' : World) : Prop :=
  ∃ u xs, ∃ v ys, ∃ s : Int, e = .returned (.tuple #[u, v, .int .i64 s]) ∧ Sl w' w.heap.size u xs ∧ Sl w' w.heap.size v ys ∧ xs.length ≤ 6 ∧ ys.length ≤ 7 ∧ -100000 ≤ s ∧ s ≤ 100000 ∧ Kept [] w w'

set_option maxHeartbeats 1000000 in
theorem drawTurnStep_any (w : World) (v : Value) (ha : ArgB w v) : Calls Try.prog 10 #[v] w (DrawnTurn w) := by
  have HA := Lib.hid ha
  obtain ⟨a, n, cap, rfl, _, _, _⟩ := ha
  go_enter Try.func10, Try.ntmps10
  go_wp2_with fail
  refine (open_any _ _ HA.out).mono ?_
  rintro e w1 ⟨rfl, hr, hk⟩
  have HR := Lib.hid hr
  have HK := Lib.hid hk
  clear hr hk
  go_wp2_with fail
  refine (turn_any _ _ 0 (by omega) 12 (by omega) (by omega) _ HR.out).mono ?_
  rintro e w2 ⟨u, xs, v2, ys, rfl, hs, ht, hl1, hl2, hr2, hk2⟩
  have HS := Lib.hid (hs.mono HK.out.size)
  have HT := Lib.hid (ht.mono HK.out.size)
  have HK2 := Lib.hid (HK.out.trans hk2 (fun x hx => by right; simp at hx; omega))
  clear hs ht hr2 hk2
  go_wp2
  go_ret2
  exact ⟨_, xs, _, ys, rfl, HS.out, HT.out, hl1, hl2, HK2.out⟩

set_option maxHeartbeats 1000000 in
theorem drawTurnLoop_any (w : World) (v : Value) (ha : ArgB w v) : Calls Try.prog 25 #[v] w (DrawnTurn w) := by
  have HA := Lib.hid ha
  obtain ⟨a, n, cap, rfl, _, _, _⟩ := ha
  go_enter Try.func25, Try.ntmps25
  go_wp2_with fail
  refine (open_any _ _ HA.out).mono ?_
  rintro e w1 ⟨rfl, hr, hk⟩
  have HR := Lib.hid hr
  have HK := Lib.hid hk
  clear hr hk
  go_wp2_with fail
  refine (turn_any _ _ 0 (by omega) 12 (by omega) (by omega) _ HR.out).mono ?_
  rintro e w2 ⟨u, xs, v2, ys, rfl, hs, ht, hl1, hl2, hr2, hk2⟩
  have HS := Lib.hid (hs.mono HK.out.size)
  have HT := Lib.hid (ht.mono HK.out.size)
  have HK2 := Lib.hid (HK.out.trans hk2 (fun x hx => by right; simp at hx; omega))
  clear hs ht hr2 hk2
  go_wp2
  go_ret2
  exact ⟨_, xs, _, ys, rfl, HS.out, HT.out, hl1, hl2, HK2.out⟩

set_option maxHeartbeats 1000000 in
theorem drawTurnRun_any (w : World) (v : Value) (ha : ArgB w v) : Calls Try.prog 16 #[v] w (DrawnTurns w) := by
  have HA := Lib.hid ha
  obtain ⟨a, n, cap, rfl, _, _, _⟩ := ha
  go_enter Try.func16, Try.ntmps16
  go_wp2_with fail
  refine (open_any _ _ HA.out).mono ?_
  rintro e w1 ⟨rfl, hr, hk⟩
  have HR := Lib.hid hr
  have HK := Lib.hid hk
  clear hr hk
  go_wp2_with fail
  refine (turn_any _ _ 0 (by omega) 14 (by omega) (by omega) _ HR.out).mono ?_
  rintro e w2 ⟨u, xs, v2, ys, rfl, hs, ht, hl1, hl2, hr2, hk2⟩
  have HSB := Lib.hid (fun g hg => (hs.block (g := g) hg).1)
  have HTB := Lib.hid (fun g hg => (ht.block (g := g) hg).1)
  have HS := Lib.hid (hs.mono HK.out.size)
  have HT := Lib.hid (ht.mono HK.out.size)
  have HR2 := Lib.hid hr2
  have HK2 := Lib.hid (HK.out.trans hk2 (fun x hx => by right; simp at hx; omega))
  obtain ⟨b1, cap1, rfl, _, _, _⟩ := hs.any
  obtain ⟨b2, cap2, rfl, _, _, _⟩ := ht.any
  have hRlt := HR.out.lt
  clear hs ht hr2 hk2
  go_wp2_with fail
  refine (pick_any _ _ _ (by omega) 12 (by omega) _ HR2.out).mono ?_
  rintro e w3 ⟨x, rfl, hx0, hx, hr3, hk3⟩
  have hx14 : x < 12 := by omega
  have HR3 := Lib.hid hr3
  have HS3 := Lib.hid (HS.out.kept hk3 (fun g hg hm => by have := HSB.out g hg; simp at hm; omega))
  have HT3 := Lib.hid (HT.out.kept hk3 (fun g hg hm => by have := HTB.out g hg; simp at hm; omega))
  have HK3 := Lib.hid (HK2.out.trans hk3 (fun x hx => by right; simp at hx; omega))
  clear hr3 hk3 HR2 HS HT HK2 hx
  go_wp2_with fail
  refine (pick_any _ _ _ (by omega) 40 (by omega) _ HR3.out).mono ?_
  rintro e w4 ⟨y, rfl, hy0, hy, hr4, hk4⟩
  have hy60 : y ≤ 100 := by omega
  obtain ⟨d0, d1⟩ := tdiv_small hy0 hy60 (d := 39) (by omega)
  have HR4 := Lib.hid hr4
  have HS4 := Lib.hid (HS3.out.kept hk4 (fun g hg hm => by have := HSB.out g hg; simp at hm; omega))
  have HT4 := Lib.hid (HT3.out.kept hk4 (fun g hg hm => by have := HTB.out g hg; simp at hm; omega))
  have HK4 := Lib.hid (HK3.out.trans hk4 (fun x hx => by right; simp at hx; omega))
  clear hr4 hk4 HR3 HS3 HT3 HK3 hy
  go_wp2_with fail
  refine (pick_any _ _ _ (by omega) 40 (by omega) _ HR4.out).mono ?_
  rintro e w5 ⟨z, rfl, hz0, hz, hr5, hk5⟩
  have hz60 : z ≤ 100 := by omega
  obtain ⟨e0, e1⟩ := tdiv_small hz0 hz60 (d := 39) (by omega)
  have HS5 := Lib.hid (HS4.out.kept hk5 (fun g hg hm => by have := HSB.out g hg; simp at hm; omega))
  have HT5 := Lib.hid (HT4.out.kept hk5 (fun g hg hm => by have := HTB.out g hg; simp at hm; omega))
  have HK5 := Lib.hid (HK4.out.trans hk5 (fun x hx => by right; simp at hx; omega))
  clear hr5 hk5 HR4 HS4 HT4 HK4 hz
  go_wp2
  go_ret3
  exact ⟨_, xs, _, ys, _, rfl, HS5.out, HT5.out, hl1, hl2, by omega, by omega, HK5.out⟩

set_option maxHeartbeats 1000000 in
theorem drawTurnedRow_any (w : World) (v : Value) (ha : ArgB w v) : Calls Try.prog 19 #[v] w (DrawnTurns w) := by
  have HA := Lib.hid ha
  obtain ⟨a, n, cap, rfl, _, _, _⟩ := ha
  go_enter Try.func19, Try.ntmps19
  go_wp2_with fail
  refine (drawTurnRun_any _ _ HA.out).mono ?_
  rintro e w2 ⟨u, xs, v2, ys, s, rfl, hs, ht, hl1, hl2, hs1, hs2, hk⟩
  have HS := Lib.hid hs
  have HT := Lib.hid ht
  have HK := Lib.hid hk
  clear hs ht hk
  go_wp2
  go_ret3
  exact ⟨_, xs, _, ys, _, rfl, HS.out, HT.out, hl1, hl2, hs1, hs2, HK.out⟩
end Go.Proofs.Ytoeojopjdeclnaa
