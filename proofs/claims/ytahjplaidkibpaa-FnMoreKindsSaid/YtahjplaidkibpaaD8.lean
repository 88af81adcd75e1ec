/-
  Walks: a net and an order drawn.
-/
import Derived.Test.YtahjplaidkibpaaD6
import Derived.Test.YtahjplaidkibpaaD7
namespace Go.Proofs.Ytahjplaidkibpaa
open Go.RowKit

set_option maxHeartbeats 1000000 in
theorem drawNamedNet_any (w : World) (v : Value) (ha : ArgB w v) : Calls Try.prog 17 #[v] w (DrawnPair w) := by
  have HA := Lib.hid ha
  obtain ⟨a, n, cap, rfl, _, _, _⟩ := ha
  go_enter Try.func17, Try.ntmps17
  go_wp2_with fail
  refine (open_any _ _ HA.out).mono ?_
  rintro e w1 ⟨rfl, hr, hk⟩
  have HR := Lib.hid hr
  have HK := Lib.hid hk
  clear hr hk
  go_wp2_with fail
  refine (net_any _ _ 0 (by omega) 14 (by omega) (by omega) _ HR.out).mono ?_
  rintro e w2 ⟨u, xs, rfl, hs, hl, hr2, hk2⟩
  obtain ⟨b, cap1, rfl, _, _, _⟩ := hs.any
  have HS := Lib.hid (hs.mono HK.out.size)
  have HSB := Lib.hid (fun g hg => (hs.block (g := g) hg).1)
  have HR2 := Lib.hid hr2
  have HK2 := Lib.hid (HK.out.trans hk2 (fun x hx => by right; simp at hx; omega))
  have hRlt := HR.out.lt
  clear hs hr2 hk2
  go_wp2_with fail
  refine (order_any _ _ _ (by omega) xs.length (by omega) 14 (by omega) (by omega) _ HR2.out).mono ?_
  rintro e w3 ⟨u3, ys, rfl, hs3, hl3, hr3, hk3⟩
  have HK3 := Lib.hid (HK2.out.trans hk3 (fun x hx => by right; simp at hx; omega))
  have HS3 := Lib.hid (HS.out.kept hk3 (fun g hg hm => by have := HSB.out g hg; simp at hm; omega))
  have HT3 := Lib.hid (hs3.mono HK2.out.size)
  clear hs3 hr3 hk3
  go_wp2
  go_ret2
  exact ⟨_, xs, _, ys, rfl, HS3.out, HT3.out, hl, HK3.out⟩
end Go.Proofs.Ytahjplaidkibpaa
