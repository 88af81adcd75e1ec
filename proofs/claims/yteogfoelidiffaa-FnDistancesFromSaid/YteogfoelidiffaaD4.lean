/-
  Walks: what the laws draw.
-/
import Derived.Test.YteogfoelidiffaaD3
namespace Go.Proofs.Yteogfoelidiffaa
open Go.RowKit

/-- A list of at most six numbers, and nothing else has turned. -/
def DrawnNet (w : World) (e : Ending) (w' : World) : Prop :=
  ∃ u xs, e = .returned u ∧ Sl w' w.heap.size u xs ∧ xs.length ≤ 6 ∧ Kept [] w w'

set_option maxHeartbeats 400000 in
theorem drawNetOk_any (w : World) (v : Value) (ha : ArgB w v) : Calls Try.prog 13 #[v] w (DrawnNet w) := by
  have HA := Lib.hid ha
  obtain ⟨a, n, cap, rfl, _, _, _⟩ := ha
  go_enter Try.func13, Try.ntmps13
  go_wp2_with fail
  refine (open_any _ _ HA.out).mono ?_
  rintro e w1 ⟨rfl, hr, hk⟩
  have HR := Lib.hid hr
  have HK := Lib.hid hk
  clear hr hk
  go_wp2_with fail
  refine (net_any _ _ 0 (by omega) 2 (by omega) (by omega) _ HR.out).mono ?_
  rintro e w2 ⟨u, xs, rfl, hs, hl, _, hk2⟩
  have HS := Lib.hid hs
  have HL := Lib.hid hl
  have HK2 := Lib.hid (HK.out.trans hk2 (fun x hx => by right; simp at hx; omega))
  have hz := HK.out.size
  clear hs hl hk2
  go_wp2
  go_ret
  exact ⟨u, xs, rfl, HS.out.mono hz, HL.out, HK2.out⟩

set_option maxHeartbeats 400000 in
theorem drawPartsOf_any (w : World) (v : Value) (ha : ArgB w v) : Calls Try.prog 24 #[v] w (DrawnNet w) := by
  have HA := Lib.hid ha
  obtain ⟨a, n, cap, rfl, _, _, _⟩ := ha
  go_enter Try.func24, Try.ntmps24
  go_wp2_with fail
  refine (open_any _ _ HA.out).mono ?_
  rintro e w1 ⟨rfl, hr, hk⟩
  have HR := Lib.hid hr
  have HK := Lib.hid hk
  clear hr hk
  go_wp2_with fail
  refine (net_any _ _ 0 (by omega) 9 (by omega) (by omega) _ HR.out).mono ?_
  rintro e w2 ⟨u, xs, rfl, hs, hl, _, hk2⟩
  have HS := Lib.hid hs
  have HL := Lib.hid hl
  have HK2 := Lib.hid (HK.out.trans hk2 (fun x hx => by right; simp at hx; omega))
  have hz := HK.out.size
  clear hs hl hk2
  go_wp2
  go_ret
  exact ⟨u, xs, rfl, HS.out.mono hz, HL.out, HK2.out⟩

set_option maxHeartbeats 400000 in
theorem drawWiresOf_any (w : World) (v : Value) (ha : ArgB w v) : Calls Try.prog 39 #[v] w (DrawnNet w) := by
  have HA := Lib.hid ha
  obtain ⟨a, n, cap, rfl, _, _, _⟩ := ha
  go_enter Try.func39, Try.ntmps39
  go_wp2_with fail
  refine (open_any _ _ HA.out).mono ?_
  rintro e w1 ⟨rfl, hr, hk⟩
  have HR := Lib.hid hr
  have HK := Lib.hid hk
  clear hr hk
  go_wp2_with fail
  refine (net_any _ _ 0 (by omega) 9 (by omega) (by omega) _ HR.out).mono ?_
  rintro e w2 ⟨u, xs, rfl, hs, hl, _, hk2⟩
  have HS := Lib.hid hs
  have HL := Lib.hid hl
  have HK2 := Lib.hid (HK.out.trans hk2 (fun x hx => by right; simp at hx; omega))
  have hz := HK.out.size
  clear hs hl hk2
  go_wp2
  go_ret
  exact ⟨u, xs, rfl, HS.out.mono hz, HL.out, HK2.out⟩

/-- A small number is drawn. -/
def DrawnInt (lo hi : Int) (w : World) (e : Ending) (w' : World) : Prop :=
  ∃ x : Int, e = .returned (.int .i64 x) ∧ lo ≤ x ∧ x ≤ hi ∧ Kept [] w w'

set_option maxHeartbeats 400000 in
theorem drawRingNet_any (w : World) (v : Value) (ha : ArgB w v) : Calls Try.prog 27 #[v] w (DrawnInt (-1) 8 w) := by
  have HA := Lib.hid ha
  obtain ⟨a, n, cap, rfl, _, _, _⟩ := ha
  go_enter Try.func27, Try.ntmps27
  go_wp2_with fail
  refine (open_any _ _ HA.out).mono ?_
  rintro e w1 ⟨rfl, hr, hk⟩
  have HR := Lib.hid hr
  have HK := Lib.hid hk
  clear hr hk
  go_wp2_with fail
  refine (pick_any _ _ 0 (by omega) 9 (by omega) _ HR.out).mono ?_
  rintro e w2 ⟨x, rfl, hx0, hx, _, hk2⟩
  have hx9 : x < 9 := by omega
  have HK2 := Lib.hid (HK.out.trans hk2 (fun x hx => by right; simp at hx; omega))
  clear hk2 hx
  go_wp2
  go_ret
  exact ⟨x - 1, rfl, by omega, by omega, HK2.out⟩

set_option maxHeartbeats 400000 in
theorem drawPathNet_any (w : World) (v : Value) (ha : ArgB w v) : Calls Try.prog 30 #[v] w (DrawnInt (-1) 8 w) := by
  have HA := Lib.hid ha
  obtain ⟨a, n, cap, rfl, _, _, _⟩ := ha
  go_enter Try.func30, Try.ntmps30
  go_wp2_with fail
  refine (open_any _ _ HA.out).mono ?_
  rintro e w1 ⟨rfl, hr, hk⟩
  have HR := Lib.hid hr
  have HK := Lib.hid hk
  clear hr hk
  go_wp2_with fail
  refine (pick_any _ _ 0 (by omega) 9 (by omega) _ HR.out).mono ?_
  rintro e w2 ⟨x, rfl, hx0, hx, _, hk2⟩
  have hx9 : x < 9 := by omega
  have HK2 := Lib.hid (HK.out.trans hk2 (fun x hx => by right; simp at hx; omega))
  clear hk2 hx
  go_wp2
  go_ret
  exact ⟨x - 1, rfl, by omega, by omega, HK2.out⟩
end Go.Proofs.Yteogfoelidiffaa
