/-
  Walks: what the laws draw.
-/
import Derived.Test.YtjogkppgmomggacD3
namespace Go.Proofs.Ytjogkppgmomggac
open Go.RowKit

/-- A list of at most six numbers, and nothing else has turned. -/
def DrawnNet (w : World) (e : Ending) (w' : World) : Prop :=
  ∃ u xs, e = .returned u ∧ Sl w' w.heap.size u xs ∧ xs.length ≤ 6 ∧ Kept [] w w'

set_option maxHeartbeats 400000 in
theorem drawPartsOf_any (w : World) (v : Value) (ha : ArgB w v) : Calls Try.prog 10 #[v] w (DrawnNet w) := by
  have HA := Lib.hid ha
  obtain ⟨a, n, cap, rfl, _, _, _⟩ := ha
  go_enter Try.func10, Try.ntmps10
  go_wp2_with fail
  refine (open_any _ _ HA.out).mono ?_
  rintro e w1 ⟨rfl, hr, hk⟩
  have HR := Lib.hid hr
  have HK := Lib.hid hk
  clear hr hk
  go_wp2_with fail
  refine (net_any _ _ 0 (by omega) 9 (by omega) (by omega) _ HR.out).mono ?_
  rintro e w2 ⟨u, xs, rfl, hs, hl, _, hk2⟩
  have HS := Lib.hid hs
  have HL := Lib.hid hl
  have HK2 := Lib.hid (HK.out.trans hk2 (fun x hx => by right; simp at hx; omega))
  have hz := HK.out.size
  clear hs hl hk2
  go_wp2
  go_ret
  exact ⟨u, xs, rfl, HS.out.mono hz, HL.out, HK2.out⟩

set_option maxHeartbeats 400000 in
theorem drawWiresOf_any (w : World) (v : Value) (ha : ArgB w v) : Calls Try.prog 23 #[v] w (DrawnNet w) := by
  have HA := Lib.hid ha
  obtain ⟨a, n, cap, rfl, _, _, _⟩ := ha
  go_enter Try.func23, Try.ntmps23
  go_wp2_with fail
  refine (open_any _ _ HA.out).mono ?_
  rintro e w1 ⟨rfl, hr, hk⟩
  have HR := Lib.hid hr
  have HK := Lib.hid hk
  clear hr hk
  go_wp2_with fail
  refine (net_any _ _ 0 (by omega) 9 (by omega) (by omega) _ HR.out).mono ?_
  rintro e w2 ⟨u, xs, rfl, hs, hl, _, hk2⟩
  have HS := Lib.hid hs
  have HL := Lib.hid hl
  have HK2 := Lib.hid (HK.out.trans hk2 (fun x hx => by right; simp at hx; omega))
  have hz := HK.out.size
  clear hs hl hk2
  go_wp2
  go_ret
  exact ⟨u, xs, rfl, HS.out.mono hz, HL.out, HK2.out⟩

/-- A small number is drawn. -/
def DrawnInt (lo hi : Int) (w : World) (e : Ending) (w' : World) : Prop :=
  ∃ x : Int, e = .returned (.int .i64 x) ∧ lo ≤ x ∧ x ≤ hi ∧ Kept [] w w'

end Go.Proofs.Ytjogkppgmomggac
