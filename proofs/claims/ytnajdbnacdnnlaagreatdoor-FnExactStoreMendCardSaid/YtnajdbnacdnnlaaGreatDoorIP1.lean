/-
  Places by the program: whether a place is one, copies of places.
-/
import Derived.Test.YtnajdbnacdnnlaaGreatDoorPV1
namespace Go.Proofs.YtnajdbnacdnnlaaGreatDoor
open Go.RowKit

set_option maxHeartbeats 1000000 in
set_option maxRecDepth 100000 in
theorem iPlaceOk_any (p : Nt.Pi) (w : World) (x : Value) (base : Nat) (h : Pv w base x p) :
    Calls Tryz.prog 78 #[x] w fun e w' => e = .returned (.bool (Nt.plB p)) ∧ Kept [] w w' := by
  obtain ⟨v, u, rfl, h1, h2⟩ := h
  have HK : Hid (Kept [] w (w.alloc (.cells #[v, .int .i64 p.c, u] 30))) := Lib.hid ((Kept.refl [] w).alloc _)
  have H1 := Lib.hid (h1.stay HK.out)
  have H2 := Lib.hid (h2.stay HK.out)
  obtain ⟨a, cap, rfl, _, _, _⟩ := h1.any
  obtain ⟨b, cap2, rfl, _, _, _⟩ := h2.any
  clear h1 h2
  go_enter Tryz.func78, Tryz.ntmps78
  go_wp2_with fail
  refine (firingOk_any p.ns p.c p.ks _ _ _ _ _ H1.out H2.out).mono ?_
  rintro e w1 ⟨rfl, rfl⟩
  go_wp2
  go_ret
  exact ⟨rfl, HK.out⟩

set_option maxHeartbeats 1000000 in
set_option maxRecDepth 100000 in
/-- A copy of a place: two slices, one behind the other. -/
theorem copiedPlace_any (p : Nt.Pi) (hn : 0 < p.ns.length ∧ p.ns.length ≤ 100) (hk : 0 < p.ks.length ∧ p.ks.length ≤ 100) (w : World) (x : Value) (base : Nat) (h : Pv w base x p) :
    Calls Tryz.prog 115 #[x] w fun e w' => ∃ g1 q1 g2 q2, e = .returned (.agg #[.slice (some ⟨g1, 0, none⟩) p.ns.length q1, .int .i64 p.c, .slice (some ⟨g2, 0, none⟩) p.ks.length q2]) ∧
      Sl w' w.heap.size (.slice (some ⟨g1, 0, none⟩) p.ns.length q1) p.ns ∧ Sl w' w.heap.size (.slice (some ⟨g2, 0, none⟩) p.ks.length q2) p.ks ∧ g1 < g2 ∧ Kept [] w w' := by
  obtain ⟨v, u, rfl, h1, h2⟩ := h
  obtain ⟨hk0, hb0, hr0⟩ := two_new w 30 30 #[v, .int .i64 p.c, u] #[.slice none 0 0, .int .i64 0, .slice none 0 0]
  have H1 := Lib.hid (h1.stay hk0)
  have H2 := Lib.hid (h2.stay hk0)
  obtain ⟨a, cap, rfl, _, _, _⟩ := h1.any
  obtain ⟨b, cap2, rfl, _, _, _⟩ := h2.any
  have HB := Lib.hid hb0
  have HR := Lib.hid hr0
  have HK0 := Lib.hid hk0
  have hzz := hb0.lt
  have hzr := hr0.lt
  obtain ⟨c0, c1, c2⟩ := hb0.three
  clear h1 h2 hb0 hr0 hk0
  go_enter Tryz.func115, Tryz.ntmps115
  go_wp2_with fail
  generalize ((w.alloc (.cells #[.slice a p.ns.length cap, .int .i64 p.c, .slice b p.ks.length cap2] 30)).alloc (.cells #[.slice none 0 0, .int .i64 0, .slice none 0 0] 30)) = W0 at *
  have HSB : Hid (∀ w', Kept [w.heap.size + 1] W0 w' → w'.cell? ⟨w.heap.size, 0, none⟩ = some (.slice a p.ns.length cap) ∧ w'.cell? ⟨w.heap.size, 1, none⟩ = some (.int .i64 p.c) ∧ w'.cell? ⟨w.heap.size, 2, none⟩ = some (.slice b p.ks.length cap2)) := Lib.hid (fun w' k => (HB.out.kept k (by simp)).three)
  have HC1 : Hid (∀ W, Kept [] W0 W → Calls Tryz.prog 167 #[.slice a p.ns.length cap] W fun e w' => ∃ g q, e = .returned (.slice (some ⟨g, 0, none⟩) p.ns.length q) ∧ Hid (Sl w' W0.heap.size (.slice (some ⟨g, 0, none⟩) p.ns.length q) p.ns) ∧ Kept [] W0 w') := Lib.hid (fun W k => (cloneInts_any p.ns hn.1 (by omega) W _ base (H1.out.stay k)).mono (by
    rintro e w' ⟨z, rfl, hs, hk'⟩
    obtain ⟨g, q, rfl, _, _⟩ := hs.shape rfl hn.1
    exact ⟨g, q, rfl, hs.mono k.size, k.trans hk' (by simp)⟩))
  have HC2 : Hid (∀ W, Kept [] W0 W → Calls Tryz.prog 167 #[.slice b p.ks.length cap2] W fun e w' => ∃ g q, e = .returned (.slice (some ⟨g, 0, none⟩) p.ks.length q) ∧ Hid (Sl w' W0.heap.size (.slice (some ⟨g, 0, none⟩) p.ks.length q) p.ks ∧ Kept [] W w' ∧ W.heap.size ≤ g) ∧ Kept [] W0 w') := Lib.hid (fun W k => (cloneInts_any p.ks hk.1 (by omega) W _ base (H2.out.stay k)).mono (by
    rintro e w' ⟨z, rfl, hs, hk'⟩
    obtain ⟨g, q, rfl, _, _⟩ := hs.shape rfl hk.1
    exact ⟨g, q, rfl, ⟨hs.mono k.size, hk', (hs.block rfl).1⟩, k.trans hk' (by simp)⟩))
  clear hn hk
  go_region_held3 (fun w' => w'.cell? ⟨w.heap.size, 0, none⟩ = some (.slice a p.ns.length cap) ∧ w'.cell? ⟨w.heap.size, 1, none⟩ = some (.int .i64 p.c) ∧ w'.cell? ⟨w.heap.size, 2, none⟩ = some (.slice b p.ks.length cap2))
    ((refine HSB.out _ ?_; repeat (first | exact Kept.refl _ _ | (refine Kept.weak _ ?_; assumption) | (refine Kept.setCell ?_ (.inl (by simp)) _) | apply Kept.alloc | apply Kept.drew)))
    (first
    | (go_simp; go_at_call 167; refine (HC1.out _ (by repeat (first | exact Kept.refl _ _ | assumption | apply Kept.alloc | apply Kept.drew))).mono ?_; rintro e w1 ⟨g1, q1, rfl, HS1, k1⟩; have z1 := (HR.out.stay k1).lt; obtain ⟨r0, r1, r2⟩ := (HR.out.stay k1).three; have f0 := (HR.out.stay k1).frozen 0; have f1 := (HR.out.stay k1).frozen 1; have f2 := (HR.out.stay k1).frozen 2)
    | (go_simp; go_at_call 167; refine (HC2.out _ (by repeat (first | exact Kept.refl _ _ | assumption | apply Kept.alloc | apply Kept.drew))).mono ?_; rintro e w2 ⟨g2, q2, rfl, HS2, k2⟩; have z2 := (HR.out.stay k2).lt; obtain ⟨s0, s1, s2⟩ := (HR.out.stay k2).three; have t0 := (HR.out.stay k2).frozen 0; have t1 := (HR.out.stay k2).frozen 1; have t2 := (HR.out.stay k2).frozen 2))
  all_goals
    go_wp2
    (try simp only [Exit.inBlock, Exit.then])
    refine bodyPost_ret (results_cell_row rfl _ _ (w.heap.size + 1) 30 #[.slice (some ⟨g1, 0, none⟩) p.ns.length q1, .int .i64 p.c, .slice (some ⟨g2, 0, none⟩) p.ks.length q2] (0, 0) _ rfl ((HR.out.stay k2).set3 _ _ _) Tryz.underlying30 rfl (by kernel_rfl)) rfl ?_
    have hsz := HK0.out.size
    have hk12 : Kept [] w1 w2 := Kept.trans (rows' := []) (by repeat (first | exact Kept.refl _ _ | apply Kept.alloc | apply Kept.drew)) HS2.out.2.1 (by simp)
    refine ⟨_, _, _, _, rfl, ((HS1.out.stay hk12).kept (Kept.rows3 w2 _ _ _ _) ?_).mono hsz, (HS2.out.1.kept (Kept.rows3 w2 _ _ _ _) ?_).mono hsz, Nat.lt_of_lt_of_le (HS1.out.block rfl).2 (Nat.le_trans (Kept.size (rows := []) (by repeat (first | exact Kept.refl _ _ | apply Kept.alloc | apply Kept.drew))) HS2.out.2.2), (HK0.out.trans k2 (by simp)).set3 (by omega) _ _ _⟩
    · intro g hg; have h1 := (HS1.out.block hg).1; have h2 := HR.out.lt; simp; omega
    · intro g hg; have h1 := (HS2.out.1.block hg).1; have h2 := HR.out.lt; simp; omega
end Go.Proofs.YtnajdbnacdnnlaaGreatDoor
