/-
  Walks: the place that is drawn for what writes texts of places.
-/
import Derived.Test.YtaacehdfpoiljaaDoorD32
namespace Go.Proofs.YtaacehdfpoiljaaDoor
open Go.RowKit

set_option maxHeartbeats 400000 in
set_option maxRecDepth 100000 in
theorem drawPlaceText_any (w : World) (v : Value) (ha : ArgB w v) : Calls Tryd.prog 14 #[v] w (DrawnPl w) := by
  have hka : Kept [] w (w.alloc (.cells #[.slice none 0 0, .int .i64 0, .slice none 0 0] 25)) := (Kept.refl _ _).alloc _
  have HB0 := Lib.hid (Bk.new w 25 #[.slice none 0 0, .int .i64 0, .slice none 0 0])
  have HA := Lib.hid (ha.stay hka)
  have HK0 := Lib.hid hka
  clear hka
  obtain ⟨a, n, cap, rfl, _, _, _⟩ := ha
  go_enter Tryd.func14, Tryd.ntmps14
  go_wp2_with fail
  generalize w.alloc (.cells #[.slice none 0 0, .int .i64 0, .slice none 0 0] 25) = W0 at *
  refine (open_any _ _ HA.out).mono ?_
  rintro e w1 ⟨rfl, hr, hk⟩
  have HR := Lib.hid hr
  have HK := Lib.hid (HK0.out.trans hk (by simp))
  have HB1 := Lib.hid (HB0.out.stay hk)
  have HZ : Hid (w.heap.size < W0.heap.size) := Lib.hid HB0.out.lt
  have HZ2 : Hid (W0.heap.size ≤ w1.heap.size) := Lib.hid hk.size
  clear hr hk HB0
  go_wp2_with fail
  refine (place_any _ _ 0 (by omega) 9 (by omega) (by omega) _ HR.out).mono ?_
  rintro e w2 ⟨y, p, rfl, hs, hl, _, hk2⟩
  obtain ⟨v1, u1, rfl, h1, h2⟩ := hs
  obtain ⟨b1, c1, rfl, _, _, _⟩ := h1.any
  obtain ⟨b2, c2, rfl, _, _, _⟩ := h2.any
  have H1 := Lib.hid h1
  have H2 := Lib.hid h2
  have HL := Lib.hid hl
  have HB2 := Lib.hid (HB1.out.kept hk2 (by have := HZ.out; simp; omega))
  have HK2 := Lib.hid (HK.out.trans hk2 (fun x hx => by have := HZ.out; right; simp at hx; omega))
  obtain ⟨r0, r1, r2⟩ := HB2.out.three
  have f0 := HB2.out.frozen 0
  have f1 := HB2.out.frozen 1
  have f2 := HB2.out.frozen 2
  have hzr := HB2.out.lt
  clear h1 h2 hl hk2
  go_wp2
  (try simp only [Exit.inBlock, Exit.then])
  refine bodyPost_ret (results_cell_row rfl _ _ w.heap.size 25 #[.slice b1 p.ns.length c1, .int .i64 p.c, .slice b2 p.ks.length c2] (0, 0) _ rfl (HB2.out.set3 _ _ _) Tryd.underlying25 rfl (by kernel_rfl)) rfl ?_
  exact ⟨_, p, rfl, ⟨_, _, rfl, (H1.out.kept (Kept.rows3 _ w.heap.size _ _ _) (fun g hg hm => by have := (H1.out.block hg).1; have := HZ.out; have := HZ2.out; simp at hm; omega)).mono HK.out.size, (H2.out.kept (Kept.rows3 _ w.heap.size _ _ _) (fun g hg hm => by have := (H2.out.block hg).1; have := HZ.out; have := HZ2.out; simp at hm; omega)).mono HK.out.size⟩, HL.out, HK2.out.set3 (Nat.le_refl _) _ _ _⟩
end Go.Proofs.YtaacehdfpoiljaaDoor
