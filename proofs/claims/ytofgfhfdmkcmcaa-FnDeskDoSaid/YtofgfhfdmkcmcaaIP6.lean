/-
  A place after a deed, a desk before, by the program.
-/
import Derived.Test.YtofgfhfdmkcmcaaIP5
namespace Go.Proofs.Ytofgfhfdmkcmcaa
open Go.RowKit

theorem afterI_join {q : Nt.Pl} (a b : Int) : Nt.afterI q ⟨0, a, b⟩ = ⟨Nt.nats (switched q.ns a b), q.c, Nt.nats q.ks⟩ := by
  unfold Nt.afterI switched
  rw [if_pos rfl]
  by_cases h : (0 ≤ a ∧ a < q.ns.length) ∧ (0 ≤ b ∧ b < q.ns.length)
  · rw [if_pos h]
    by_cases hab : a = b
    · subst hab
      rw [if_neg (fun h => h.2.2 rfl)]
      obtain ⟨m, rfl⟩ := Int.eq_ofNat_of_zero_le h.1.1
      rw [Int.toNat_natCast, tog_self q.ns (by omega)]; rfl
    · rw [if_pos ⟨h.1, h.2, hab⟩]
  · rw [if_neg h, if_neg (fun h2 => h ⟨h2.1, h2.2.1⟩)]; rfl
theorem afterI_light {q : Nt.Pl} (hl : q.ks.length = q.ns.length) (a b : Int) : Nt.afterI q ⟨1, a, b⟩ = ⟨Nt.nats q.ns, q.c, Nt.nats (litK q.ks a)⟩ := by
  unfold Nt.afterI litK
  rw [if_neg (by simp), if_pos rfl, hl]
  split <;> rfl
theorem afterI_step (q : Nt.Pl) (a b : Int) : Nt.afterI q ⟨2, a, b⟩ = ⟨Nt.nats q.ns, q.c, Nt.nats (Nt.step q.ns q.c q.ks)⟩ := by
  unfold Nt.afterI
  rw [if_neg (by simp), if_neg (by simp), if_pos rfl]
theorem afterI_kinds (q : Nt.Pl) (a b : Int) : Nt.afterI q ⟨3, a, b⟩ = ⟨Nt.nats q.ns, a, Nt.nats q.ks⟩ := by
  unfold Nt.afterI
  rw [if_neg (by simp), if_neg (by simp), if_neg (by simp), if_pos rfl]
/-- What lies in the result in the end. -/
theorem after_fin {w W : World} {r : Nat} {v u : Value} {c : Int} {p : Nt.Pi} (hv : Sl W 0 v p.ns) (hu : Sl W 0 u p.ks) (hc : c = p.c) (hvn : ∀ g, v.ownBlock = some g → g ≠ r) (hun : ∀ g, u.ownBlock = some g → g ≠ r) (hk : Kept [] w W) (hw : w.heap.size ≤ r) :
    Pv (((W.setCell ⟨r, 0, none⟩ v).setCell ⟨r, 1, none⟩ (.int .i64 c)).setCell ⟨r, 2, none⟩ u) 0 (.agg #[v, .int .i64 c, u]) p ∧ Kept [] w (((W.setCell ⟨r, 0, none⟩ v).setCell ⟨r, 1, none⟩ (.int .i64 c)).setCell ⟨r, 2, none⟩ u) := by
  subst hc
  refine ⟨⟨v, u, rfl, hv.kept (Kept.rows3 W r _ _ _) ?_, hu.kept (Kept.rows3 W r _ _ _) ?_⟩, hk.set3 hw _ _ _⟩
  · intro g hg; have := hvn g hg; simp; exact this
  · intro g hg; have := hun g hg; simp; exact this

set_option maxHeartbeats 4000000 in
set_option maxRecDepth 100000 in
theorem placeAfter_any (q : Nt.Pl) (hq : Nt.POk q) (k a b : Int) (hk4 : k = 0 ∨ k = 1 ∨ k = 2 ∨ k = 3) (w : World) (x : Value) (base : Nat) (h : Pv w base x q.i) :
    Calls Try.prog 94 #[x, .agg #[.int .i64 k, .int .i64 a, .int .i64 b]] w fun e w' => ∃ y, e = .returned y ∧ Pv w' 0 y (Nt.afterI q ⟨k, a, b⟩) ∧ Kept [] w w' := by
  obtain ⟨v, u, rfl, h1, h2⟩ := h
  obtain ⟨hk0, hb0, hd0, hr0⟩ := three_new w 25 40 25 #[v, .int .i64 q.i.c, u] #[.int .i64 k, .int .i64 a, .int .i64 b] #[.slice none 0 0, .int .i64 0, .slice none 0 0]
  obtain ⟨n, hn⟩ : ∃ n, n = q.ns.length := ⟨_, rfl⟩
  have hns : q.i.ns.length = n := by rw [hn]; exact Nt.nats_length _
  have hks : q.i.ks.length = n := by rw [hn, ← hq.len]; exact Nt.nats_length _
  have hn0 : 0 < n := by rw [hn]; exact hq.ok.some
  have HQ := Lib.hid hq
  have HB := Lib.hid hb0
  have HD := Lib.hid hd0
  have HR := Lib.hid hr0
  have HK0 := Lib.hid hk0
  have HPN := Lib.hid ((h1.stay hk0).mono (Nat.zero_le base))
  have HPU := Lib.hid ((h2.stay hk0).mono (Nat.zero_le base))
  have HVB := Lib.hid (fun g hg => (h1.block (g := g) hg).2)
  have HUB := Lib.hid (fun g hg => (h2.block (g := g) hg).2)
  obtain ⟨a1, cap, rfl, _, _⟩ := h1.shape hns hn0
  obtain ⟨b1, cap2, rfl, _, _⟩ := h2.shape hks hn0
  have H10 := Lib.hid (h1.mono (Nat.zero_le base))
  have H20 := Lib.hid (h2.mono (Nat.zero_le base))
  have HA1 : Hid (a1 < w.heap.size) := Lib.hid (HVB.out a1 rfl)
  have HB1 : Hid (b1 < w.heap.size) := Lib.hid (HUB.out b1 rfl)
  obtain ⟨c0, c1, c2⟩ := hb0.three
  obtain ⟨d0, d1, d2⟩ := hd0.three
  have hzb := hb0.lt
  have hzd := hd0.lt
  have hzr := hr0.lt
  have HNL := Lib.hid (And.intro hns hks)
  have HN := Lib.hid hn
  clear h1 h2 hk0 hb0 hd0 hr0 hq hns hks hn
  rcases hk4 with hk | hk | hk | hk
  · have e00 : (k == 0) = true := by simp [hk]
    have HKK := Lib.hid hk
    clear hk
    go_enter Try.func94, Try.ntmps94
    go_wp2_with fail
    generalize hW : (((w.alloc (.cells #[.slice (some ⟨a1, 0, none⟩) n cap, .int .i64 q.i.c, .slice (some ⟨b1, 0, none⟩) n cap2] 25)).alloc (.cells #[.int .i64 k, .int .i64 a, .int .i64 b] 40)).alloc (.cells #[.slice none 0 0, .int .i64 0, .slice none 0 0] 25)) = W0 at *
    clear hW
    have HWZ : Hid (w.heap.size + 1 + 1 < W0.heap.size) := Lib.hid hzr
    refine (switchedNet_any q.ns HQ.out.ok a b _ _ 0 HPN.out).mono ?_
    rintro e w4 ⟨z, rfl, hz, hk4⟩
    have HZ4 := Lib.hid (hz.mono (Nat.zero_le _))
    have HZB := Lib.hid (fun g hg => (hz.block (g := g) hg).1)
    have HB4 := Lib.hid (HB.out.stay hk4)
    have HR4 := Lib.hid (HR.out.stay hk4)
    have HU4 := Lib.hid (HPU.out.stay hk4)
    have HK4 := Lib.hid (HK0.out.trans hk4 (by simp))
    clear c0 c1 c2 d0 d1 d2 hzb hzd hzr hz hk4
    have hks : Kept [w.heap.size] w4 (w4.setCell ⟨w.heap.size, 0, none⟩ z) := (Kept.refl _ _).setCell (.inl (by simp)) _
    have HB5 := Lib.hid (HB4.out.set 0 z)
    have HR5 := Lib.hid (HR4.out.other ⟨w.heap.size, 0, none⟩ z (by show w.heap.size + 1 + 1 ≠ w.heap.size; omega))
    have HZ5 := Lib.hid (HZ4.out.kept hks (fun g hg => by have := HZB.out g hg; have := HWZ.out; simp; omega))
    have HU5 := Lib.hid (HU4.out.kept hks (fun g hg => by simp [Value.ownBlock] at hg; subst hg; have := HB1.out; simp; omega))
    have HK5 := Lib.hid (HK4.out.setCell (.inr (Nat.le_refl _)) z (p := ⟨w.heap.size, 0, none⟩))
    have hp0 := HB4.out.frozen 0
    have hl0 := HB4.out.lt
    obtain ⟨e0, e1, e2⟩ := HB4.out.three
    obtain ⟨gz, cz, rfl, _, _⟩ := HZ4.out.shape (n := n) (by rw [Nt.nats_length]; unfold switched; split <;> first | rw [Nt.tog_length, ← HN.out] | rw [← HN.out]) hn0
    have f0 := HR4.out.frozen 0
    have f1 := HR4.out.frozen 1
    have f2 := HR4.out.frozen 2
    obtain ⟨r0, r1, r2⟩ := HR4.out.three
    have hlr := HR4.out.lt
    have hne : w.heap.size + 1 + 1 ≠ w.heap.size := by omega
    have hne2 : w.heap.size ≠ w.heap.size + 1 + 1 := by omega
    clear hks
    go_wp2
    (try simp only [Exit.inBlock, Exit.then])
    refine bodyPost_ret (results_cell_row rfl _ _ (w.heap.size + 1 + 1) 25 #[.slice (some ⟨gz, 0, none⟩) n cz, .int .i64 q.i.c, .slice (some ⟨b1, 0, none⟩) n cap2] (0, 0) _ rfl (HR5.out.set3 _ _ _) Try.underlying25 rfl (by kernel_rfl)) rfl ?_
    obtain ⟨F1, F2⟩ := after_fin (w := w) (p := ⟨Nt.nats (switched q.ns a b), q.c, Nt.nats q.ks⟩) HZ5.out HU5.out (rfl : q.i.c = _) (fun g hg => by have := HZB.out g hg; have := HWZ.out; omega) (fun g hg => by simp [Value.ownBlock] at hg; subst hg; have := HB1.out; omega) HK5.out (show w.heap.size ≤ w.heap.size + 1 + 1 by omega)
    exact ⟨_, rfl, by rw [show Nt.afterI q ⟨k, a, b⟩ = ⟨Nt.nats (switched q.ns a b), q.c, Nt.nats q.ks⟩ from by rw [HKK.out, afterI_join]]; exact F1, F2⟩
  · have e10 : (k == 0) = false := by simp [hk]
    have e11 : (k == 1) = true := by simp [hk]
    have HKK := Lib.hid hk
    clear hk
    go_enter Try.func94, Try.ntmps94
    go_wp2_with fail
    generalize hW : (((w.alloc (.cells #[.slice (some ⟨a1, 0, none⟩) n cap, .int .i64 q.i.c, .slice (some ⟨b1, 0, none⟩) n cap2] 25)).alloc (.cells #[.int .i64 k, .int .i64 a, .int .i64 b] 40)).alloc (.cells #[.slice none 0 0, .int .i64 0, .slice none 0 0] 25)) = W0 at *
    clear hW
    have HWZ : Hid (w.heap.size + 1 + 1 < W0.heap.size) := Lib.hid hzr
    refine (litState_any q.c q.ks HQ.out.st a _ _ 0 HPU.out).mono ?_
    rintro e w4 ⟨z, rfl, hz, hk4⟩
    have HZ4 := Lib.hid (hz.mono (Nat.zero_le _))
    have HZB := Lib.hid (fun g hg => (hz.block (g := g) hg).1)
    have HB4 := Lib.hid (HB.out.stay hk4)
    have HR4 := Lib.hid (HR.out.stay hk4)
    have HU4 := Lib.hid (HPN.out.stay hk4)
    have HK4 := Lib.hid (HK0.out.trans hk4 (by simp))
    clear c0 c1 c2 d0 d1 d2 hzb hzd hzr hz hk4
    have hks : Kept [w.heap.size] w4 (w4.setCell ⟨w.heap.size, 2, none⟩ z) := (Kept.refl _ _).setCell (.inl (by simp)) _
    have HB5 := Lib.hid (HB4.out.set 2 z)
    have HR5 := Lib.hid (HR4.out.other ⟨w.heap.size, 2, none⟩ z (by show w.heap.size + 1 + 1 ≠ w.heap.size; omega))
    have HZ5 := Lib.hid (HZ4.out.kept hks (fun g hg => by have := HZB.out g hg; have := HWZ.out; simp; omega))
    have HU5 := Lib.hid (HU4.out.kept hks (fun g hg => by simp [Value.ownBlock] at hg; subst hg; have := HA1.out; simp; omega))
    have HK5 := Lib.hid (HK4.out.setCell (.inr (Nat.le_refl _)) z (p := ⟨w.heap.size, 2, none⟩))
    have hp0 := HB4.out.frozen 2
    have hl0 := HB4.out.lt
    obtain ⟨e0, e1, e2⟩ := HB4.out.three
    obtain ⟨gz, cz, rfl, _, _⟩ := HZ4.out.shape (n := n) (by rw [Nt.nats_length]; unfold litK; rw [HN.out, ← HQ.out.len]; split <;> simp) hn0
    have f0 := HR4.out.frozen 0
    have f1 := HR4.out.frozen 1
    have f2 := HR4.out.frozen 2
    obtain ⟨r0, r1, r2⟩ := HR4.out.three
    have hlr := HR4.out.lt
    have hne : w.heap.size + 1 + 1 ≠ w.heap.size := by omega
    have hne2 : w.heap.size ≠ w.heap.size + 1 + 1 := by omega
    clear hks
    go_wp2
    (try simp only [Exit.inBlock, Exit.then])
    refine bodyPost_ret (results_cell_row rfl _ _ (w.heap.size + 1 + 1) 25 #[.slice (some ⟨a1, 0, none⟩) n cap, .int .i64 q.i.c, .slice (some ⟨gz, 0, none⟩) n cz] (0, 0) _ rfl (HR5.out.set3 _ _ _) Try.underlying25 rfl (by kernel_rfl)) rfl ?_
    obtain ⟨F1, F2⟩ := after_fin (w := w) (p := ⟨Nt.nats q.ns, q.c, Nt.nats (litK q.ks a)⟩) HU5.out HZ5.out (rfl : q.i.c = _) (fun g hg => by simp [Value.ownBlock] at hg; subst hg; have := HA1.out; omega) (fun g hg => by have := HZB.out g hg; have := HWZ.out; omega) HK5.out (show w.heap.size ≤ w.heap.size + 1 + 1 by omega)
    exact ⟨_, rfl, by rw [show Nt.afterI q ⟨k, a, b⟩ = ⟨Nt.nats q.ns, q.c, Nt.nats (litK q.ks a)⟩ from by rw [HKK.out, afterI_light HQ.out.len]]; exact F1, F2⟩
  · have e20 : (k == 0) = false := by simp [hk]
    have e21 : (k == 1) = false := by simp [hk]
    have e22 : (k == 2) = true := by simp [hk]
    have HKK := Lib.hid hk
    clear hk
    go_enter Try.func94, Try.ntmps94
    go_wp2_with fail
    generalize hW : (((w.alloc (.cells #[.slice (some ⟨a1, 0, none⟩) n cap, .int .i64 q.i.c, .slice (some ⟨b1, 0, none⟩) n cap2] 25)).alloc (.cells #[.int .i64 k, .int .i64 a, .int .i64 b] 40)).alloc (.cells #[.slice none 0 0, .int .i64 0, .slice none 0 0] 25)) = W0 at *
    clear hW
    have HWZ : Hid (w.heap.size + 1 + 1 < W0.heap.size) := Lib.hid hzr
    refine (firedState_any q.ns q.c q.ks HQ.out.ok HQ.out.st HQ.out.len _ _ 0 _ 0 HPN.out HPU.out).mono ?_
    rintro e w4 ⟨z, rfl, hz, hk4⟩
    have HZ4 := Lib.hid (hz.mono (Nat.zero_le _))
    have HZB := Lib.hid (fun g hg => (hz.block (g := g) hg).1)
    have HB4 := Lib.hid (HB.out.stay hk4)
    have HR4 := Lib.hid (HR.out.stay hk4)
    have HU4 := Lib.hid (HPN.out.stay hk4)
    have HK4 := Lib.hid (HK0.out.trans hk4 (by simp))
    clear c0 c1 c2 d0 d1 d2 hzb hzd hzr hz hk4
    have hks : Kept [w.heap.size] w4 (w4.setCell ⟨w.heap.size, 2, none⟩ z) := (Kept.refl _ _).setCell (.inl (by simp)) _
    have HB5 := Lib.hid (HB4.out.set 2 z)
    have HR5 := Lib.hid (HR4.out.other ⟨w.heap.size, 2, none⟩ z (by show w.heap.size + 1 + 1 ≠ w.heap.size; omega))
    have HZ5 := Lib.hid (HZ4.out.kept hks (fun g hg => by have := HZB.out g hg; have := HWZ.out; simp; omega))
    have HU5 := Lib.hid (HU4.out.kept hks (fun g hg => by simp [Value.ownBlock] at hg; subst hg; have := HA1.out; simp; omega))
    have HK5 := Lib.hid (HK4.out.setCell (.inr (Nat.le_refl _)) z (p := ⟨w.heap.size, 2, none⟩))
    have hp0 := HB4.out.frozen 2
    have hl0 := HB4.out.lt
    obtain ⟨e0, e1, e2⟩ := HB4.out.three
    obtain ⟨gz, cz, rfl, _, _⟩ := HZ4.out.shape (n := n) (by rw [Nt.nats_length, Nt.step_length, HN.out]; exact HQ.out.len) hn0
    have f0 := HR4.out.frozen 0
    have f1 := HR4.out.frozen 1
    have f2 := HR4.out.frozen 2
    obtain ⟨r0, r1, r2⟩ := HR4.out.three
    have hlr := HR4.out.lt
    have hne : w.heap.size + 1 + 1 ≠ w.heap.size := by omega
    have hne2 : w.heap.size ≠ w.heap.size + 1 + 1 := by omega
    clear hks
    go_wp2
    (try simp only [Exit.inBlock, Exit.then])
    refine bodyPost_ret (results_cell_row rfl _ _ (w.heap.size + 1 + 1) 25 #[.slice (some ⟨a1, 0, none⟩) n cap, .int .i64 q.i.c, .slice (some ⟨gz, 0, none⟩) n cz] (0, 0) _ rfl (HR5.out.set3 _ _ _) Try.underlying25 rfl (by kernel_rfl)) rfl ?_
    obtain ⟨F1, F2⟩ := after_fin (w := w) (p := ⟨Nt.nats q.ns, q.c, Nt.nats (Nt.step q.ns q.c q.ks)⟩) HU5.out HZ5.out (rfl : q.i.c = _) (fun g hg => by simp [Value.ownBlock] at hg; subst hg; have := HA1.out; omega) (fun g hg => by have := HZB.out g hg; have := HWZ.out; omega) HK5.out (show w.heap.size ≤ w.heap.size + 1 + 1 by omega)
    exact ⟨_, rfl, by rw [show Nt.afterI q ⟨k, a, b⟩ = ⟨Nt.nats q.ns, q.c, Nt.nats (Nt.step q.ns q.c q.ks)⟩ from by rw [HKK.out, afterI_step]]; exact F1, F2⟩
  · have e30 : (k == 0) = false := by simp [hk]
    have e31 : (k == 1) = false := by simp [hk]
    have e32 : (k == 2) = false := by simp [hk]
    have e33 : (k == 3) = true := by simp [hk]
    have HKK := Lib.hid hk
    clear hk
    obtain ⟨hk9, _, _, hr9⟩ := three_new w 25 40 25 #[.slice (some ⟨a1, 0, none⟩) n cap, .int .i64 a, .slice (some ⟨b1, 0, none⟩) n cap2] #[.int .i64 k, .int .i64 a, .int .i64 b] #[.slice (some ⟨a1, 0, none⟩) n cap, .int .i64 a, .slice (some ⟨b1, 0, none⟩) n cap2]
    have HK9 := Lib.hid hk9
    have HR9 := Lib.hid hr9
    have HZ9 := Lib.hid (H10.out.stay hk9)
    have HU9 := Lib.hid (H20.out.stay hk9)
    clear hk9 hr9 c0 c1 c2 d0 d1 d2 hzb hzd hzr HB HD HR HK0 HPN HPU
    go_enter Try.func94, Try.ntmps94
    go_wp2
    (try simp only [Exit.inBlock, Exit.then])
    refine bodyPost_ret (results_cell_row rfl _ _ (w.heap.size + 1 + 1) 25 #[.slice (some ⟨a1, 0, none⟩) n cap, .int .i64 a, .slice (some ⟨b1, 0, none⟩) n cap2] (0, 0) _ rfl HR9.out Try.underlying25 rfl (by kernel_rfl)) rfl ?_
    exact ⟨_, rfl, by rw [show Nt.afterI q ⟨k, a, b⟩ = ⟨Nt.nats q.ns, a, Nt.nats q.ks⟩ from by rw [HKK.out, afterI_kinds]]; exact ⟨_, _, rfl, HZ9.out, HU9.out⟩, HK9.out⟩
end Go.Proofs.Ytofgfhfdmkcmcaa
