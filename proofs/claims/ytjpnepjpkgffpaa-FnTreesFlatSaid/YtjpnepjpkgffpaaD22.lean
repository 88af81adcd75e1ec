/-
  Walks: what the laws of heights draw.
-/
import Derived.Test.YtjpnepjpkgffpaaDD
namespace Go.Proofs.Ytjpnepjpkgffpaa
open Go.RowKit

set_option maxHeartbeats 1000000 in
set_option maxRecDepth 100000 in
theorem drawHeightRow_any (w : World) (v : Value) (ha : ArgB w v) : Calls Try.prog 17 #[v] w (DrawnTurn w) := by
  have HA := Lib.hid ha
  obtain ⟨a, n, cap, rfl, _, _, _⟩ := ha
  go_enter Try.func17, Try.ntmps17
  go_wp2_with fail
  refine (open_any _ _ HA.out).mono ?_
  rintro e w1 ⟨rfl, hr, hk⟩
  have HR := Lib.hid hr
  have HK := Lib.hid hk
  clear hr hk
  go_wp2_with fail
  refine (turn_any _ _ 0 (by omega) 12 (by omega) (by omega) _ HR.out).mono ?_
  rintro e w2 ⟨u, xs, v2, ys, rfl, hs, ht, hl1, hl2, hr2, hk2⟩
  have HS := Lib.hid (hs.mono HK.out.size)
  have HT := Lib.hid (ht.mono HK.out.size)
  have HK2 := Lib.hid (HK.out.trans hk2 (fun x hx => by right; simp at hx; omega))
  clear hs ht hr2 hk2
  go_wp2
  go_ret2
  exact ⟨_, xs, _, ys, rfl, HS.out, HT.out, hl1, hl2, HK2.out⟩

set_option maxHeartbeats 1000000 in
set_option maxRecDepth 100000 in
theorem drawFlatOk_any (w : World) (v : Value) (ha : ArgB w v) : Calls Try.prog 25 #[v] w (DrawnTurn w) := by
  have HA := Lib.hid ha
  obtain ⟨a, n, cap, rfl, _, _, _⟩ := ha
  go_enter Try.func25, Try.ntmps25
  go_wp2_with fail
  refine (open_any _ _ HA.out).mono ?_
  rintro e w1 ⟨rfl, hr, hk⟩
  have HR := Lib.hid hr
  have HK := Lib.hid hk
  clear hr hk
  go_wp2_with fail
  refine (turn_any _ _ 0 (by omega) 12 (by omega) (by omega) _ HR.out).mono ?_
  rintro e w2 ⟨u, xs, v2, ys, rfl, hs, ht, hl1, hl2, hr2, hk2⟩
  have HS := Lib.hid (hs.mono HK.out.size)
  have HT := Lib.hid (ht.mono HK.out.size)
  have HK2 := Lib.hid (HK.out.trans hk2 (fun x hx => by right; simp at hx; omega))
  clear hs ht hr2 hk2
  go_wp2
  go_ret2
  exact ⟨_, xs, _, ys, rfl, HS.out, HT.out, hl1, hl2, HK2.out⟩

set_option maxHeartbeats 1000000 in
set_option maxRecDepth 100000 in
theorem drawStandsAt_any (w : World) (v : Value) (ha : ArgB w v) : Calls Try.prog 29 #[v] w (DrawnTurn w) := by
  have HA := Lib.hid ha
  obtain ⟨a, n, cap, rfl, _, _, _⟩ := ha
  go_enter Try.func29, Try.ntmps29
  go_wp2_with fail
  refine (open_any _ _ HA.out).mono ?_
  rintro e w1 ⟨rfl, hr, hk⟩
  have HR := Lib.hid hr
  have HK := Lib.hid hk
  clear hr hk
  go_wp2_with fail
  refine (turn_any _ _ 0 (by omega) 12 (by omega) (by omega) _ HR.out).mono ?_
  rintro e w2 ⟨u, xs, v2, ys, rfl, hs, ht, hl1, hl2, hr2, hk2⟩
  have HS := Lib.hid (hs.mono HK.out.size)
  have HT := Lib.hid (ht.mono HK.out.size)
  have HK2 := Lib.hid (HK.out.trans hk2 (fun x hx => by right; simp at hx; omega))
  clear hs ht hr2 hk2
  go_wp2
  go_ret2
  exact ⟨_, xs, _, ys, rfl, HS.out, HT.out, hl1, hl2, HK2.out⟩

set_option maxHeartbeats 1000000 in
set_option maxRecDepth 100000 in
theorem drawPeakRow_any (w : World) (v : Value) (ha : ArgB w v) : Calls Try.prog 33 #[v] w (DrawnTurn w) := by
  have HA := Lib.hid ha
  obtain ⟨a, n, cap, rfl, _, _, _⟩ := ha
  go_enter Try.func33, Try.ntmps33
  go_wp2_with fail
  refine (open_any _ _ HA.out).mono ?_
  rintro e w1 ⟨rfl, hr, hk⟩
  have HR := Lib.hid hr
  have HK := Lib.hid hk
  clear hr hk
  go_wp2_with fail
  refine (turn_any _ _ 0 (by omega) 12 (by omega) (by omega) _ HR.out).mono ?_
  rintro e w2 ⟨u, xs, v2, ys, rfl, hs, ht, hl1, hl2, hr2, hk2⟩
  have HS := Lib.hid (hs.mono HK.out.size)
  have HT := Lib.hid (ht.mono HK.out.size)
  have HK2 := Lib.hid (HK.out.trans hk2 (fun x hx => by right; simp at hx; omega))
  clear hs ht hr2 hk2
  go_wp2
  go_ret2
  exact ⟨_, xs, _, ys, rfl, HS.out, HT.out, hl1, hl2, HK2.out⟩
end Go.Proofs.Ytjpnepjpkgffpaa
