/-
  Places by the program: whether a place is one, copies of places.
-/
import Derived.Test.YtaacehdfpoiljaaDoorPV1
namespace Go.Proofs.YtaacehdfpoiljaaDoor
open Go.RowKit

set_option maxHeartbeats 1000000 in
set_option maxRecDepth 100000 in
theorem iPlaceOk_any (p : Nt.Pi) (w : World) (x : Value) (base : Nat) (h : Pv w base x p) :
    Calls Tryd.prog 17 #[x] w fun e w' => e = .returned (.bool (Nt.plB p)) ∧ Kept [] w w' := by
  obtain ⟨v, u, rfl, h1, h2⟩ := h
  have HK : Hid (Kept [] w (w.alloc (.cells #[v, .int .i64 p.c, u] 25))) := Lib.hid ((Kept.refl [] w).alloc _)
  have H1 := Lib.hid (h1.stay HK.out)
  have H2 := Lib.hid (h2.stay HK.out)
  obtain ⟨a, cap, rfl, _, _, _⟩ := h1.any
  obtain ⟨b, cap2, rfl, _, _, _⟩ := h2.any
  clear h1 h2
  go_enter Tryd.func17, Tryd.ntmps17
  go_wp2_with fail
  refine (firingOk_any p.ns p.c p.ks _ _ _ _ _ H1.out H2.out).mono ?_
  rintro e w1 ⟨rfl, rfl⟩
  go_wp2
  go_ret
  exact ⟨rfl, HK.out⟩

end Go.Proofs.YtaacehdfpoiljaaDoor
