/-
  Walks: what the laws of firing draw.
-/
import Derived.Test.YtahjplaidkibpaaD13
namespace Go.Proofs.Ytahjplaidkibpaa
open Go.RowKit

/-- A net, kinds and a state are drawn, and nothing else has turned. -/
def DrawnFire (w : World) (e : Ending) (w' : World) : Prop :=
  ∃ u xs, ∃ v ys, ∃ c : Int, e = .returned (.tuple #[u, .int .i64 c, v]) ∧ 3 ≤ c ∧ c ≤ 5 ∧ Sl w' w.heap.size u xs ∧ Sl w' w.heap.size v ys ∧ xs.length ≤ 6 ∧ ys.length ≤ 7 ∧ Kept [] w w'

set_option maxHeartbeats 1000000 in
theorem drawFireStep_any (w : World) (v : Value) (ha : ArgB w v) : Calls Try.prog 11 #[v] w (DrawnFire w) := by
  have HA := Lib.hid ha
  obtain ⟨a, n, cap, rfl, _, _, _⟩ := ha
  go_enter Try.func11, Try.ntmps11
  go_wp2_with fail
  refine (open_any _ _ HA.out).mono ?_
  rintro e w1 ⟨rfl, hr, hk⟩
  have HR := Lib.hid hr
  have HK := Lib.hid hk
  clear hr hk
  go_wp2_with fail
  refine (fire_any _ _ 0 (by omega) 12 (by omega) (by omega) _ HR.out).mono ?_
  rintro e w2 ⟨u, xs, v2, ys, c, rfl, hc3, hc5, hs, ht, hl1, hl2, hr2, hk2⟩
  have HS := Lib.hid (hs.mono HK.out.size)
  have HT := Lib.hid (ht.mono HK.out.size)
  have HK2 := Lib.hid (HK.out.trans hk2 (fun x hx => by right; simp at hx; omega))
  clear hs ht hr2 hk2
  go_wp2
  go_ret3
  exact ⟨_, xs, _, ys, _, rfl, hc3, hc5, HS.out, HT.out, hl1, hl2, HK2.out⟩

set_option maxHeartbeats 1000000 in
theorem drawLoopOf_any (w : World) (v : Value) (ha : ArgB w v) : Calls Try.prog 26 #[v] w (DrawnFire w) := by
  have HA := Lib.hid ha
  obtain ⟨a, n, cap, rfl, _, _, _⟩ := ha
  go_enter Try.func26, Try.ntmps26
  go_wp2_with fail
  refine (open_any _ _ HA.out).mono ?_
  rintro e w1 ⟨rfl, hr, hk⟩
  have HR := Lib.hid hr
  have HK := Lib.hid hk
  clear hr hk
  go_wp2_with fail
  refine (fire_any _ _ 0 (by omega) 12 (by omega) (by omega) _ HR.out).mono ?_
  rintro e w2 ⟨u, xs, v2, ys, c, rfl, hc3, hc5, hs, ht, hl1, hl2, hr2, hk2⟩
  have HS := Lib.hid (hs.mono HK.out.size)
  have HT := Lib.hid (ht.mono HK.out.size)
  have HK2 := Lib.hid (HK.out.trans hk2 (fun x hx => by right; simp at hx; omega))
  clear hs ht hr2 hk2
  go_wp2
  go_ret3
  exact ⟨_, xs, _, ys, _, rfl, hc3, hc5, HS.out, HT.out, hl1, hl2, HK2.out⟩

set_option maxHeartbeats 1000000 in
theorem drawEndsAt_any (w : World) (v : Value) (ha : ArgB w v) : Calls Try.prog 29 #[v] w (DrawnFire w) := by
  have HA := Lib.hid ha
  obtain ⟨a, n, cap, rfl, _, _, _⟩ := ha
  go_enter Try.func29, Try.ntmps29
  go_wp2_with fail
  refine (open_any _ _ HA.out).mono ?_
  rintro e w1 ⟨rfl, hr, hk⟩
  have HR := Lib.hid hr
  have HK := Lib.hid hk
  clear hr hk
  go_wp2_with fail
  refine (fire_any _ _ 0 (by omega) 12 (by omega) (by omega) _ HR.out).mono ?_
  rintro e w2 ⟨u, xs, v2, ys, c, rfl, hc3, hc5, hs, ht, hl1, hl2, hr2, hk2⟩
  have HS := Lib.hid (hs.mono HK.out.size)
  have HT := Lib.hid (ht.mono HK.out.size)
  have HK2 := Lib.hid (HK.out.trans hk2 (fun x hx => by right; simp at hx; omega))
  clear hs ht hr2 hk2
  go_wp2
  go_ret3
  exact ⟨_, xs, _, ys, _, rfl, hc3, hc5, HS.out, HT.out, hl1, hl2, HK2.out⟩

/-- A net, kinds, a state and a number of steps are drawn, and nothing else has turned. -/
def DrawnRun (w : World) (e : Ending) (w' : World) : Prop :=
  ∃ u xs, ∃ v ys, ∃ c s : Int, e = .returned (.tuple #[u, .int .i64 c, v, .int .i64 s]) ∧ 3 ≤ c ∧ c ≤ 5 ∧ Sl w' w.heap.size u xs ∧ Sl w' w.heap.size v ys ∧ xs.length ≤ 6 ∧ ys.length ≤ 7 ∧ -100000 ≤ s ∧ s ≤ 100000 ∧ Kept [] w w'

theorem results_tmp4 {fn : Func} {t u v x : Tmp} (h : fn.results = #[.tmp t, .tmp u, .tmp v, .tmp x]) (tmps : Array Value) (P : Program) (w : World) :
    (results fn tmps).run P w = .ok (.tuple #[tmps.getD t undef, tmps.getD u undef, tmps.getD v undef, tmps.getD x undef]) w := by
  simp [results, h]

set_option maxHeartbeats 1000000 in
theorem drawFireRun_any (w : World) (v : Value) (ha : ArgB w v) : Calls Try.prog 20 #[v] w (DrawnRun w) := by
  have HA := Lib.hid ha
  obtain ⟨a, n, cap, rfl, _, _, _⟩ := ha
  go_enter Try.func20, Try.ntmps20
  go_wp2_with fail
  refine (open_any _ _ HA.out).mono ?_
  rintro e w1 ⟨rfl, hr, hk⟩
  have HR := Lib.hid hr
  have HK := Lib.hid hk
  clear hr hk
  go_wp2_with fail
  refine (fire_any _ _ 0 (by omega) 14 (by omega) (by omega) _ HR.out).mono ?_
  rintro e w2 ⟨u, xs, v2, ys, c, rfl, hc3, hc5, hs, ht, hl1, hl2, hr2, hk2⟩
  have HSB := Lib.hid (fun g hg => (hs.block (g := g) hg).1)
  have HTB := Lib.hid (fun g hg => (ht.block (g := g) hg).1)
  have HS := Lib.hid (hs.mono HK.out.size)
  have HT := Lib.hid (ht.mono HK.out.size)
  have HR2 := Lib.hid hr2
  have HK2 := Lib.hid (HK.out.trans hk2 (fun x hx => by right; simp at hx; omega))
  obtain ⟨b1, cap1, rfl, _, _, _⟩ := hs.any
  obtain ⟨b2, cap2, rfl, _, _, _⟩ := ht.any
  have hRlt := HR.out.lt
  clear hs ht hr2 hk2
  go_wp2_with fail
  refine (pick_any _ _ _ (by omega) 14 (by omega) _ HR2.out).mono ?_
  rintro e w3 ⟨x, rfl, hx0, hx, hr3, hk3⟩
  have hx14 : x < 14 := by omega
  have HR3 := Lib.hid hr3
  have HS3 := Lib.hid (HS.out.kept hk3 (fun g hg hm => by have := HSB.out g hg; simp at hm; omega))
  have HT3 := Lib.hid (HT.out.kept hk3 (fun g hg hm => by have := HTB.out g hg; simp at hm; omega))
  have HK3 := Lib.hid (HK2.out.trans hk3 (fun x hx => by right; simp at hx; omega))
  clear hr3 hk3 HR2 HS HT HK2 hx
  go_wp2_with fail
  refine (pick_any _ _ _ (by omega) 40 (by omega) _ HR3.out).mono ?_
  rintro e w4 ⟨y, rfl, hy0, hy, hr4, hk4⟩
  have hy60 : y ≤ 100 := by omega
  obtain ⟨d0, d1⟩ := tdiv_small hy0 hy60 (d := 39) (by omega)
  have HR4 := Lib.hid hr4
  have HS4 := Lib.hid (HS3.out.kept hk4 (fun g hg hm => by have := HSB.out g hg; simp at hm; omega))
  have HT4 := Lib.hid (HT3.out.kept hk4 (fun g hg hm => by have := HTB.out g hg; simp at hm; omega))
  have HK4 := Lib.hid (HK3.out.trans hk4 (fun x hx => by right; simp at hx; omega))
  clear hr4 hk4 HR3 HS3 HT3 HK3 hy
  go_wp2_with fail
  refine (pick_any _ _ _ (by omega) 40 (by omega) _ HR4.out).mono ?_
  rintro e w5 ⟨z, rfl, hz0, hz, hr5, hk5⟩
  have hz60 : z ≤ 100 := by omega
  obtain ⟨e0, e1⟩ := tdiv_small hz0 hz60 (d := 39) (by omega)
  have HS5 := Lib.hid (HS4.out.kept hk5 (fun g hg hm => by have := HSB.out g hg; simp at hm; omega))
  have HT5 := Lib.hid (HT4.out.kept hk5 (fun g hg hm => by have := HTB.out g hg; simp at hm; omega))
  have HK5 := Lib.hid (HK4.out.trans hk5 (fun x hx => by right; simp at hx; omega))
  clear hr5 hk5 HR4 HS4 HT4 HK4 hz
  go_wp2
  (try simp only [Exit.inBlock, Exit.then]); refine bodyPost_ret (results_tmp4 rfl _ _ _) rfl ?_
  exact ⟨_, xs, _, ys, _, _, rfl, hc3, hc5, HS5.out, HT5.out, hl1, hl2, by omega, by omega, HK5.out⟩

set_option maxHeartbeats 1000000 in
theorem drawFiredRow_any (w : World) (v : Value) (ha : ArgB w v) : Calls Try.prog 23 #[v] w (DrawnRun w) := by
  have HA := Lib.hid ha
  obtain ⟨a, n, cap, rfl, _, _, _⟩ := ha
  go_enter Try.func23, Try.ntmps23
  go_wp2_with fail
  refine (drawFireRun_any _ _ HA.out).mono ?_
  rintro e w2 ⟨u, xs, v2, ys, c, s, rfl, hc3, hc5, hs, ht, hl1, hl2, hs1, hs2, hk⟩
  have HS := Lib.hid hs
  have HT := Lib.hid ht
  have HK := Lib.hid hk
  clear hs ht hk
  go_wp2
  (try simp only [Exit.inBlock, Exit.then]); refine bodyPost_ret (results_tmp4 rfl _ _ _) rfl ?_
  exact ⟨_, xs, _, ys, _, _, rfl, hc3, hc5, HS.out, HT.out, hl1, hl2, hs1, hs2, HK.out⟩
end Go.Proofs.Ytahjplaidkibpaa
