/-
  What a deed makes of a place, by the model.
-/
import Derived.Test.YtnajdbnacdnnlaaGreatDoorQC
import Derived.Test.YtnajdbnacdnnlaaGreatDoorPJ
namespace Go.Proofs.YtnajdbnacdnnlaaGreatDoor
open Go.RowKit

/-- Three blocks, one behind the other. -/
theorem three_new (w : World) (T T2 T3 : TypeId) (cs ds es : Array Value) : Kept [] w (((w.alloc (.cells cs T)).alloc (.cells ds T2)).alloc (.cells es T3)) ∧ Bk (((w.alloc (.cells cs T)).alloc (.cells ds T2)).alloc (.cells es T3)) w.heap.size T cs ∧ Bk (((w.alloc (.cells cs T)).alloc (.cells ds T2)).alloc (.cells es T3)) (w.heap.size + 1) T2 ds ∧ Bk (((w.alloc (.cells cs T)).alloc (.cells ds T2)).alloc (.cells es T3)) (w.heap.size + 1 + 1) T3 es := by
  obtain ⟨hk, h1, h2⟩ := two_new w T T2 cs ds
  have e1 : ((w.alloc (.cells cs T)).alloc (.cells ds T2)).heap.size = w.heap.size + 1 + 1 := by simp
  have hk2 : Kept [] ((w.alloc (.cells cs T)).alloc (.cells ds T2)) (((w.alloc (.cells cs T)).alloc (.cells ds T2)).alloc (.cells es T3)) := (Kept.refl _ _).alloc _
  refine ⟨hk.alloc _, h1.stay hk2, h2.stay hk2, ?_⟩
  rw [← e1]
  exact Bk.new _ _ _

theorem xor_shl (x b : Nat) (hx : x < 64) (hb : b ≤ 6) : bits .xor .i64 (x : Int) (wrap64 (2 ^ b)) = ((x ^^^ 2 ^ b : Nat) : Int) := by
  have h := wrap_pow b (by omega) (by omega)
  rw [Int.toNat_natCast] at h
  have h2 : (2 : Nat) ^ b ≤ 2 ^ 6 := Nat.pow_le_pow_right (by omega) hb
  have e : (2 : Int) ^ b = ((2 ^ b : Nat) : Int) := (Int.natCast_pow 2 b).symm
  rw [h, e]
  exact bits_xor_nat _ _ (by omega) (by omega)
/-- What lies in the result in the end. -/
theorem made_fin {w W : World} {r base : Nat} {v u : Value} {c : Int} {p : Nt.Pi} (hv : Sl W base v p.ns) (hu : Sl W base u p.ks) (hc : c = p.c) (hk : Kept [] w W) (hw : w.heap.size ≤ r) (hb : r < base) :
    Pv (((W.setCell ⟨r, 0, none⟩ v).setCell ⟨r, 1, none⟩ (.int .i64 c)).setCell ⟨r, 2, none⟩ u) w.heap.size (.agg #[v, .int .i64 c, u]) p ∧ Kept [] w (((W.setCell ⟨r, 0, none⟩ v).setCell ⟨r, 1, none⟩ (.int .i64 c)).setCell ⟨r, 2, none⟩ u) := by
  subst hc
  refine ⟨⟨v, u, rfl, (hv.kept (Kept.rows3 W r _ _ _) ?_).mono (by omega), (hu.kept (Kept.rows3 W r _ _ _) ?_).mono (by omega)⟩, hk.set3 hw _ _ _⟩
  · intro g hg; have h1 := (hv.block hg).1; simp; omega
  · intro g hg; have h1 := (hu.block hg).1; simp; omega

set_option maxHeartbeats 4000000 in
set_option maxRecDepth 100000 in
theorem sMade_any (q : Nt.Pl) (hq : Nt.POk q) (k a b : Int) (w : World) (x : Value) (base : Nat) (h : Pv w base x q.i) :
    Calls Tryz.prog 125 #[x, .agg #[.int .i64 k, .int .i64 a, .int .i64 b]] w fun e w' => ∃ y, e = .returned y ∧ Pv w' w.heap.size y (Nt.madeI q ⟨k, a, b⟩) ∧ Kept [] w w' := by
  have HQ := Lib.hid hq
  have HLN : Hid ((0 < q.i.ns.length ∧ q.i.ns.length ≤ 100) ∧ (0 < q.i.ks.length ∧ q.i.ks.length ≤ 100)) := Lib.hid (pl_len (Nt.plB_yes hq))
  obtain ⟨n, hn⟩ : ∃ n, n = q.ns.length := ⟨_, rfl⟩
  have hns : q.i.ns.length = n := by rw [hn]; exact Nt.nats_length _
  have hks : q.i.ks.length = n := by rw [hn, ← hq.len]; exact Nt.nats_length _
  have hn6 : n ≤ 6 := by rw [hn]; exact hq.ok.few
  have hn0 : 0 < n := by rw [hn]; exact hq.ok.some
  have HNS := Lib.hid hns
  have HKS := Lib.hid hks
  have HN := Lib.hid hn
  obtain ⟨v, u, rfl, h1, h2⟩ := h
  obtain ⟨hk0, hb0, hd0, hr0⟩ := three_new w 30 41 30 #[v, .int .i64 q.i.c, u] #[.int .i64 k, .int .i64 a, .int .i64 b] #[.slice none 0 0, .int .i64 0, .slice none 0 0]
  have HPV := Lib.hid (show Pv _ base _ q.i from ⟨v, u, rfl, h1.stay hk0, h2.stay hk0⟩)
  have HB := Lib.hid hb0
  have HD := Lib.hid hd0
  have HR := Lib.hid hr0
  have HK0 := Lib.hid hk0
  have HPU := Lib.hid (h2.stay hk0)
  have HPN := Lib.hid (h1.stay hk0)
  obtain ⟨a1, cap, rfl, _, _⟩ := h1.shape hns hn0
  obtain ⟨b1, cap2, rfl, _, _⟩ := h2.shape hks hn0
  obtain ⟨c0, c1, c2⟩ := hb0.three
  clear h1 h2 hk0 hb0 hd0 hr0 hns hks hn hq
  go_enter Tryz.func125, Tryz.ntmps125
  go_wp2_with fail
  generalize (((w.alloc (.cells #[.slice (some ⟨a1, 0, none⟩) n cap, .int .i64 q.i.c, .slice (some ⟨b1, 0, none⟩) n cap2] 30)).alloc (.cells #[.int .i64 k, .int .i64 a, .int .i64 b] 41)).alloc (.cells #[.slice none 0 0, .int .i64 0, .slice none 0 0] 30)) = W0 at *
  refine (sPlaceA_any q.i HLN.out.1 HLN.out.2 _ _ _ HPV.out).mono ?_
  rintro e w2 ⟨g2, cp2, g3, cp3, rfl, hv2, hu2, hap, hk2⟩
  rw [HNS.out] at hv2 ⊢
  rw [HKS.out] at hu2 ⊢
  have HAP := Lib.hid hap
  have HG2 := Lib.hid (hv2.block rfl)
  have HG3 := Lib.hid (hu2.block rfl)
  clear hap
  have HV2 := Lib.hid hv2
  have HU2 := Lib.hid hu2
  have HK2 := Lib.hid hk2
  clear hk2 hv2 hu2 c0 c1 c2
  have hk3 : Kept [] w2 (w2.alloc (.cells #[.slice (some ⟨g2, 0, none⟩) n cp2, .int .i64 q.i.c, .slice (some ⟨g3, 0, none⟩) n cp3] 30)) := (Kept.refl [] w2).alloc _
  have HP3 := Lib.hid (Bk.new w2 30 #[.slice (some ⟨g2, 0, none⟩) n cp2, .int .i64 q.i.c, .slice (some ⟨g3, 0, none⟩) n cp3])
  have HV3 := Lib.hid (HV2.out.stay hk3)
  have HU3 := Lib.hid (HU2.out.stay hk3)
  have HK3 := Lib.hid (HK2.out.trans hk3 (by simp))
  have HB3 := Lib.hid (HB.out.stay HK3.out)
  have HD3 := Lib.hid (HD.out.stay HK3.out)
  have HR3 := Lib.hid (HR.out.stay HK3.out)
  have HPU3 := Lib.hid (HPU.out.stay HK3.out)
  have hz3 := HP3.out.lt
  have HZ0 : Hid (w.heap.size + 1 + 1 < W0.heap.size) := Lib.hid HR.out.lt
  have hz0 := HR3.out.lt
  have HKW := Lib.hid (HK0.out.trans HK3.out (by simp))
  have HWR : Hid (w.heap.size ≤ w.heap.size + 1 + 1) := Lib.hid (by omega)
  obtain ⟨c0, c1, c2⟩ := HB3.out.three
  obtain ⟨d0, d1, d2⟩ := HD3.out.three
  obtain ⟨p0, p1, p2⟩ := HP3.out.three
  obtain ⟨r0, r1, r2⟩ := HR3.out.three
  have f0 := HR3.out.frozen 0
  have f1 := HR3.out.frozen 1
  have f2 := HR3.out.frozen 2
  clear hk3 HPV HB HD HPU
  by_cases k0 : k = 0
  · subst k0
    go_wp2_with fail
    generalize w2.alloc (.cells #[.slice (some ⟨g2, 0, none⟩) n cp2, .int .i64 q.i.c, .slice (some ⟨g3, 0, none⟩) n cp3] 30) = W3 at *
    have HNE : Hid (w.heap.size + 1 + 1 < g2) := Lib.hid (Nat.lt_of_lt_of_le HZ0.out HG2.out.1)
    refine (l1In_any a 0 ((n : Int) - 1) _).mono ?_
    rintro e w' ⟨rfl, rfl⟩
    by_cases hr : 0 ≤ a ∧ a ≤ (n : Int) - 1
    · rw [show decide (0 ≤ a ∧ a ≤ (n : Int) - 1) = true from dec_of hr]
      go_wp2_with fail
      refine (l1In_any b 0 ((n : Int) - 1) _).mono ?_
      rintro e w' ⟨rfl, rfl⟩
      by_cases hs : 0 ≤ b ∧ b ≤ (n : Int) - 1
      · rw [show decide (0 ≤ b ∧ b ≤ (n : Int) - 1) = true from dec_of hs]
        obtain ⟨m, rfl⟩ := Int.eq_ofNat_of_zero_le hr.1
        obtain ⟨l, rfl⟩ := Int.eq_ofNat_of_zero_le hs.1
        have hm : m < n := by omega
        have hl : l < n := by omega
        clear hr hs
        by_cases hab : m = l
        · subst hab
          have HMI := Lib.hid (Nt.madeI_no (q := q) (k := 0) (a := (m : Int)) (b := (m : Int)) (by intro h; exact h.2.2.2 rfl) (by simp) (by simp) (by simp))
          go_wp2
          refine bodyPost_ret (results_cell_row rfl _ _ (w.heap.size + 1 + 1) 30 #[.slice none 0 0, .int .i64 0, .slice none 0 0] (0, 0) _ rfl (HR3.out.set3 _ _ _) Tryz.underlying30 rfl (by kernel_rfl)) rfl ?_
          obtain ⟨F1, F2⟩ := made_fin (w := w) (p := Nt.Pi.zero) (Sl.nil _ W0.heap.size) (Sl.nil _ W0.heap.size) rfl HKW.out HWR.out HZ0.out
          exact ⟨_, rfl, by rw [HMI.out]; exact F1, F2⟩
        · have hab1 : ((m : Int) == (l : Int)) = false := by simp; omega
          have hab2 : ¬ ((m : Int) = (l : Int)) := by omega
          have HMI := Lib.hid (Nt.madeI_join (q := q) (a := m) (b := l) (by rw [← HN.out]; exact hm) (by rw [← HN.out]; exact hl) hab)
          have hmq : m < q.ns.length := by rw [← HN.out]; exact hm
          have HGm : Hid (q.ns.getD m 0 < 64) := Lib.hid (HQ.out.ok.get_lt m)
          have hp64 : l < 64 := by omega
          have hp64m : m < 64 := by omega
          have HV3 : Hid (Sl W3 W0.heap.size (.slice (some ⟨g2, 0, none⟩) n cp2) (Nt.nats q.ns)) := HV3
          have HKW3 := HKW
          obtain ⟨y0, y1⟩ := HV3.out.at m (by rw [Nt.nats_length]; exact hmq)
          rw [show (Nt.nats (q.ns)).getD m 0 = ((q.ns).getD m 0 : Nat) from Nt.nats_get _ _] at y0
          have HX3 := Lib.hid (xor_shl ((q.ns).getD m 0) l (HGm.out) (by omega))
          have HSET3 : Hid ((q.ns).set m ((q.ns).getD m 0 ^^^ 2 ^ l) = (q.ns).set m ((q.ns).getD m 0 ^^^ 2 ^ l)) := Lib.hid rfl
          have hkd : Kept [] W3 W3.drew := (Kept.refl [] W3).drew
          have HV4 := Lib.hid (HV3.out.stay hkd)
          have HU4 := Lib.hid (HU3.out.stay hkd)
          have HP4 := Lib.hid (HP3.out.stay hkd)
          have HD4 := Lib.hid (HD3.out.stay hkd)
          have HR4 := Lib.hid (HR3.out.stay hkd)
          have HKW4 := Lib.hid (HKW3.out.drew)
          have y1d : W3.drew.frozen? ⟨g2, m, none⟩ = false := y1
          have y0d : W3.drew.cell? ⟨g2, m, none⟩ = some (.int .i64 (((q.ns).getD m 0 : Nat) : Int)) := y0
          clear hkd
          generalize hxe : (q.ns).getD m 0 = x3 at *
          have HE3 := Lib.hid hxe
          clear hxe
          go_wp2_with fail
          go_still_tail 15, (by kernel_rfl)
          change wpList _ _ _ _ _ W3.drew
          clear p0 p1 p2 d0 d1 d2 r0 r1 r2 f0 f1 f2 y0 y1 hz0 hz3
          clear HV3 HU3 HP3 HD3 HR3 HKW3 HB3 HK3 HPU3 c0 c1 c2
          generalize W3.drew = W4 at *
          have HV5 := Lib.hid (show Sl _ _ _ _ from HV4.out.set (by rw [Nt.nats_length]; exact HN.out) m (((x3 ^^^ 2 ^ l : Nat)) : Int))
          rw [← Nt.nats_set] at HV5
          have hks : Kept [g2] W4 (W4.setCell ⟨g2, m, none⟩ (.int .i64 ((x3 ^^^ 2 ^ l : Nat) : Int))) := (Kept.refl _ _).setCell (.inl (by simp)) _
          have HU5 := Lib.hid (HU4.out.kept hks (fun g hg => by simp [Value.ownBlock] at hg; subst hg; simp; exact fun e => HAP.out e.symm))
          have HP5 := Lib.hid (HP4.out.kept hks (by simp; exact fun e => absurd HG2.out.2 (by omega)))
          have HD5 := Lib.hid (HD4.out.kept hks (by simp; exact fun e => absurd HNE.out (by omega)))
          have HR5 := Lib.hid (HR4.out.kept hks (by simp; exact fun e => absurd HNE.out (by omega)))
          have HKW5 := Lib.hid (HKW4.out.setCell (.inr (by have := HNE.out; show w.heap.size ≤ g2; omega)) (.int .i64 ((x3 ^^^ 2 ^ l : Nat) : Int)) (p := ⟨g2, m, none⟩))
          clear hks
          go_wp2_with fail
          rw [HX3.out]
          generalize W4.setCell ⟨g2, m, none⟩ (.int .i64 ((x3 ^^^ 2 ^ l : Nat) : Int)) = W5 at *
          obtain ⟨p0, p1, p2⟩ := HP5.out.three
          obtain ⟨d0, d1, d2⟩ := HD5.out.three
          have hz5 := HP5.out.lt
          have hz6 := HD5.out.lt
          have HLQ : Hid ((q.ns.set m (x3 ^^^ 2 ^ l)).length = q.ns.length) := Lib.hid (List.length_set ..)
          obtain ⟨xs, hxs⟩ : ∃ xs, xs = q.ns.set m (x3 ^^^ 2 ^ l) := ⟨_, rfl⟩
          have hlq : l < xs.length := by rw [hxs, HLQ.out, ← HN.out]; exact hl
          have HLX : Hid (xs.length = n) := Lib.hid (by rw [hxs, HLQ.out]; exact HN.out.symm)
          have HGl : Hid (xs.getD l 0 < 64) := Lib.hid (by
            rw [hxs, List.getD_eq_getElem?_getD, List.getElem?_set_ne hab, ← List.getD_eq_getElem?_getD]
            exact HQ.out.ok.get_lt l)
          rw [← hxs] at HV5
          have HXS := Lib.hid hxs
          clear hxs
          obtain ⟨y0, y1⟩ := HV5.out.at l (by rw [Nt.nats_length]; exact hlq)
          rw [show (Nt.nats (xs)).getD l 0 = ((xs).getD l 0 : Nat) from Nt.nats_get _ _] at y0
          have HX5 := Lib.hid (xor_shl ((xs).getD l 0) m (HGl.out) (by omega))
          have HSET5 : Hid ((xs).set l ((xs).getD l 0 ^^^ 2 ^ m) = (xs).set l ((xs).getD l 0 ^^^ 2 ^ m)) := Lib.hid rfl
          have hkd : Kept [] W5 W5.drew := (Kept.refl [] W5).drew
          have HV6 := Lib.hid (HV5.out.stay hkd)
          have HU6 := Lib.hid (HU5.out.stay hkd)
          have HP6 := Lib.hid (HP5.out.stay hkd)
          have HD6 := Lib.hid (HD5.out.stay hkd)
          have HR6 := Lib.hid (HR5.out.stay hkd)
          have HKW6 := Lib.hid (HKW5.out.drew)
          have y1d : W5.drew.frozen? ⟨g2, l, none⟩ = false := y1
          have y0d : W5.drew.cell? ⟨g2, l, none⟩ = some (.int .i64 (((xs).getD l 0 : Nat) : Int)) := y0
          clear hkd
          generalize hxe : (xs).getD l 0 = x5 at *
          have HE5 := Lib.hid hxe
          clear hxe
          go_wp2_with fail
          go_still_tail 15, (by kernel_rfl)
          change wpList _ _ _ _ _ W5.drew
          clear p0 p1 p2 d0 d1 d2 y0 y1 hz5 hz6
          clear HV5 HU5 HP5 HD5 HR5 HKW5 
          generalize W5.drew = W6 at *
          have HV7 := Lib.hid (show Sl _ _ _ _ from HV6.out.set (by rw [Nt.nats_length]; exact HLX.out.symm) l (((x5 ^^^ 2 ^ m : Nat)) : Int))
          rw [← Nt.nats_set] at HV7
          have hks : Kept [g2] W6 (W6.setCell ⟨g2, l, none⟩ (.int .i64 ((x5 ^^^ 2 ^ m : Nat) : Int))) := (Kept.refl _ _).setCell (.inl (by simp)) _
          have HU7 := Lib.hid (HU6.out.kept hks (fun g hg => by simp [Value.ownBlock] at hg; subst hg; simp; exact fun e => HAP.out e.symm))
          have HP7 := Lib.hid (HP6.out.kept hks (by simp; exact fun e => absurd HG2.out.2 (by omega)))
          have HD7 := Lib.hid (HD6.out.kept hks (by simp; exact fun e => absurd HNE.out (by omega)))
          have HR7 := Lib.hid (HR6.out.kept hks (by simp; exact fun e => absurd HNE.out (by omega)))
          have HKW7 := Lib.hid (HKW6.out.setCell (.inr (by have := HNE.out; show w.heap.size ≤ g2; omega)) (.int .i64 ((x5 ^^^ 2 ^ m : Nat) : Int)) (p := ⟨g2, l, none⟩))
          clear hks
          have hz6 := HR6.out.lt
          have hz7 := HP6.out.lt
          have hne : g2 ≠ w2.heap.size := Nat.ne_of_lt HG2.out.2
          have hne2 : w.heap.size + 1 + 1 ≠ g2 := Nat.ne_of_lt HNE.out
          obtain ⟨p0, p1, p2⟩ := HP6.out.three
          obtain ⟨r0, r1, r2⟩ := HR6.out.three
          have f0 := HR6.out.frozen 0
          have f1 := HR6.out.frozen 1
          have f2 := HR6.out.frozen 2
          go_wp2
          rw [HX5.out]
          refine bodyPost_ret (results_cell_row rfl _ _ (w.heap.size + 1 + 1) 30 #[.slice (some ⟨g2, 0, none⟩) n cp2, .int .i64 q.i.c, .slice (some ⟨g3, 0, none⟩) n cp3] (0, 0) _ rfl (HR7.out.set3 _ _ _) Tryz.underlying30 rfl (by kernel_rfl)) rfl ?_
          have HT : Nt.tog q.ns m l = xs.set l (x5 ^^^ 2 ^ m) := by
            unfold Nt.tog
            rw [HE3.out, ← HXS.out, HE5.out]
          obtain ⟨F1, F2⟩ := made_fin (w := w) (p := ⟨Nt.nats (Nt.tog q.ns m l), q.c, Nt.nats q.ks⟩) (by rw [HT]; exact HV7.out) HU7.out (rfl : q.i.c = _) HKW7.out HWR.out HZ0.out
          exact ⟨_, rfl, by rw [HMI.out]; exact F1, F2⟩
      · rw [show decide (0 ≤ b ∧ b ≤ (n : Int) - 1) = false from decide_eq_false hs]
        have HMI := Lib.hid (Nt.madeI_no (q := q) (k := 0) (a := a) (b := b) (by intro h; have := h.2.2.1; have := HN.out; omega) (by simp) (by simp) (by simp))
        clear hr hs
        go_wp2
        refine bodyPost_ret (results_cell_row rfl _ _ (w.heap.size + 1 + 1) 30 #[.slice none 0 0, .int .i64 0, .slice none 0 0] (0, 0) _ rfl (HR3.out.set3 _ _ _) Tryz.underlying30 rfl (by kernel_rfl)) rfl ?_
        obtain ⟨F1, F2⟩ := made_fin (w := w) (p := Nt.Pi.zero) (Sl.nil _ W0.heap.size) (Sl.nil _ W0.heap.size) rfl HKW.out HWR.out HZ0.out
        exact ⟨_, rfl, by rw [HMI.out]; exact F1, F2⟩
    · rw [show decide (0 ≤ a ∧ a ≤ (n : Int) - 1) = false from decide_eq_false hr]
      have HMI := Lib.hid (Nt.madeI_no (q := q) (k := 0) (a := a) (b := b) (by intro h; have := h.2.1; have := HN.out; omega) (by simp) (by simp) (by simp))
      clear hr
      go_wp2
      refine bodyPost_ret (results_cell_row rfl _ _ (w.heap.size + 1 + 1) 30 #[.slice none 0 0, .int .i64 0, .slice none 0 0] (0, 0) _ rfl (HR3.out.set3 _ _ _) Tryz.underlying30 rfl (by kernel_rfl)) rfl ?_
      obtain ⟨F1, F2⟩ := made_fin (w := w) (p := Nt.Pi.zero) (Sl.nil _ W0.heap.size) (Sl.nil _ W0.heap.size) rfl HKW.out HWR.out HZ0.out
      exact ⟨_, rfl, by rw [HMI.out]; exact F1, F2⟩
  have k0' : (k == 0) = false := by simpa using k0
  by_cases k1 : k = 1 ∧ b = 0
  · obtain ⟨rfl, rfl⟩ := k1
    go_wp2_with fail
    generalize w2.alloc (.cells #[.slice (some ⟨g2, 0, none⟩) n cp2, .int .i64 q.i.c, .slice (some ⟨g3, 0, none⟩) n cp3] 30) = W3 at *
    have HZW : Hid (w2.heap.size < W3.heap.size) := Lib.hid HP3.out.lt
    have HNE : Hid (w.heap.size + 1 + 1 < g3) := Lib.hid (Nat.lt_of_lt_of_le HZ0.out HG3.out.1)
    refine (l1In_any a 0 ((n : Int) - 1) _).mono ?_
    rintro e w' ⟨rfl, rfl⟩
    by_cases hr : 0 ≤ a ∧ a ≤ (n : Int) - 1
    · rw [show decide (0 ≤ a ∧ a ≤ (n : Int) - 1) = true from dec_of hr]
      obtain ⟨m, rfl⟩ := Int.eq_ofNat_of_zero_le hr.1
      have hm : m < n := by omega
      obtain ⟨e0, _⟩ := HPU3.out.at m (by rw [HKS.out]; exact hm)
      obtain ⟨y0, y1⟩ := HU3.out.at m (by rw [HKS.out]; exact hm)
      rw [show q.i.ks.getD m 0 = ((q.ks.getD m 0 : Nat) : Int) from Nt.nats_get q.ks m] at e0 y0
      by_cases hz : q.ks.getD m 0 = 0
      · have HMI := Lib.hid (Nt.madeI_light (q := q) (a := m) (by rw [← HN.out]; exact hm) hz)
        rw [hz] at e0 y0
        have hne : g3 ≠ w2.heap.size := Nat.ne_of_lt HG3.out.2
        have hne2 : w.heap.size + 1 + 1 ≠ g3 := Nat.ne_of_lt HNE.out
        clear hr hz
        go_wp2
        refine bodyPost_ret (results_cell_row rfl _ _ (w.heap.size + 1 + 1) 30 #[.slice (some ⟨g2, 0, none⟩) n cp2, .int .i64 q.i.c, .slice (some ⟨g3, 0, none⟩) n cp3] (0, 0) _ rfl ((HR3.out.other ⟨g3, m, none⟩ _ hne2).set3 _ _ _) Tryz.underlying30 rfl (by kernel_rfl)) rfl ?_
        have hks : Kept [g3] W3 (W3.setCell ⟨g3, m, none⟩ (.int .i64 1)) := (Kept.refl _ _).setCell (.inl (by simp)) _
        obtain ⟨F1, F2⟩ := made_fin (w := w) (p := ⟨Nt.nats q.ns, q.c, Nt.nats (q.ks.set m 1)⟩) (HV3.out.kept hks (fun g hg => by simp [Value.ownBlock] at hg; subst hg; simp; exact HAP.out)) (by rw [Nt.nats_set]; exact HU3.out.set HKS.out.symm m 1) (rfl : q.i.c = _) (HKW.out.setCell (.inr (by have := HNE.out; show w.heap.size ≤ g3; omega)) _) HWR.out HZ0.out
        exact ⟨_, rfl, by rw [HMI.out]; exact F1, F2⟩
      · have hz' : (((q.ks.getD m 0 : Nat) : Int) == 0) = false := beq_eq_false_iff_ne.2 (fun h => hz (by omega))
        have HMI := Lib.hid (Nt.madeI_no (q := q) (k := 1) (a := (m : Int)) (b := 0) (by simp) (by intro h; have := h.2.2.2; rw [Int.toNat_natCast] at this; exact hz this) (by simp) (by simp))
        generalize ((q.ks.getD m 0 : Nat) : Int) = zz at *
        clear hr hz
        go_wp2
        refine bodyPost_ret (results_cell_row rfl _ _ (w.heap.size + 1 + 1) 30 #[.slice none 0 0, .int .i64 0, .slice none 0 0] (0, 0) _ rfl (HR3.out.set3 _ _ _) Tryz.underlying30 rfl (by kernel_rfl)) rfl ?_
        obtain ⟨F1, F2⟩ := made_fin (w := w) (p := Nt.Pi.zero) (Sl.nil _ W0.heap.size) (Sl.nil _ W0.heap.size) rfl HKW.out HWR.out HZ0.out
        exact ⟨_, rfl, by rw [HMI.out]; exact F1, F2⟩
    · rw [show decide (0 ≤ a ∧ a ≤ (n : Int) - 1) = false from decide_eq_false hr]
      have HMI := Lib.hid (Nt.madeI_no (q := q) (k := 1) (a := a) (b := 0) (by simp) (by intro h; have := h.2.2.1; have := HN.out; omega) (by simp) (by simp))
      clear hr
      go_wp2
      refine bodyPost_ret (results_cell_row rfl _ _ (w.heap.size + 1 + 1) 30 #[.slice none 0 0, .int .i64 0, .slice none 0 0] (0, 0) _ rfl (HR3.out.set3 _ _ _) Tryz.underlying30 rfl (by kernel_rfl)) rfl ?_
      obtain ⟨F1, F2⟩ := made_fin (w := w) (p := Nt.Pi.zero) (Sl.nil _ W0.heap.size) (Sl.nil _ W0.heap.size) rfl HKW.out HWR.out HZ0.out
      exact ⟨_, rfl, by rw [HMI.out]; exact F1, F2⟩
  by_cases k2 : k = 2 ∧ a = 0 ∧ b = 0
  · obtain ⟨rfl, rfl, rfl⟩ := k2
    go_wp2_with fail
    generalize w2.alloc (.cells #[.slice (some ⟨g2, 0, none⟩) n cp2, .int .i64 q.i.c, .slice (some ⟨g3, 0, none⟩) n cp3] 30) = W3 at *
    have HMI := Lib.hid (Nt.madeI_step q)
    have HPN3 := Lib.hid (HPN.out.stay HK3.out)
    refine (l3Step_any q.ns q.c q.ks HQ.out.ok HQ.out.st HQ.out.len _ _ base _ base HPN3.out HPU3.out).mono ?_
    rintro e w4 ⟨z, rfl, hz4, hk4⟩
    have HZ4 := Lib.hid (hz4.mono HK3.out.size)
    have HV4 := Lib.hid (HV3.out.stay hk4)
    have HP4 := Lib.hid (HP3.out.stay hk4)
    have HR4 := Lib.hid (HR3.out.stay hk4)
    have HK4 := Lib.hid (HKW.out.trans hk4 (by simp))
    have HGZ : Hid (∀ g, z.ownBlock = some g → ¬ g ∈ [w2.heap.size]) := Lib.hid (fun g hg => by have h1 := (hz4.block hg).1; have h2 := HP3.out.lt; simp; omega)
    have hz5 := HP4.out.lt
    have hz6 := HR4.out.lt
    have HNE : Hid (w.heap.size + 1 + 1 < w2.heap.size) := Lib.hid (Nat.lt_of_lt_of_le HZ0.out HK2.out.size)
    have hne : w.heap.size + 1 + 1 ≠ w2.heap.size := Nat.ne_of_lt HNE.out
    obtain ⟨z', hz'⟩ : ∃ z', z' = z := ⟨_, rfl⟩
    obtain ⟨gz, cz, rfl, _, _⟩ := HZ4.out.shape (n := n) (by rw [Nt.nats_length, Nt.step_length]; exact HQ.out.len.trans HN.out.symm) hn0
    clear c0 c1 c2 d0 d1 d2 p0 p1 p2 r0 r1 r2 f0 f1 f2 hz4 hk4 hz'
    obtain ⟨p0, p1, p2⟩ := HP4.out.three
    have f2 := HP4.out.frozen 2
    obtain ⟨r0, r1, r2⟩ := HR4.out.three
    have t0 := HR4.out.frozen 0
    have t1 := HR4.out.frozen 1
    have t2 := HR4.out.frozen 2
    go_wp2
    refine bodyPost_ret (results_cell_row rfl _ _ (w.heap.size + 1 + 1) 30 #[.slice (some ⟨g2, 0, none⟩) n cp2, .int .i64 q.i.c, .slice (some ⟨gz, 0, none⟩) n cz] (0, 0) _ rfl ((HR4.out.other ⟨w2.heap.size, 2, none⟩ _ hne).set3 _ _ _) Tryz.underlying30 rfl (by kernel_rfl)) rfl ?_
    have hks : Kept [w2.heap.size] w4 (w4.setCell ⟨w2.heap.size, 2, none⟩ (.slice (some ⟨gz, 0, none⟩) n cz)) := (Kept.refl _ _).setCell (.inl (by simp)) _
    obtain ⟨F1, F2⟩ := made_fin (w := w) (p := ⟨Nt.nats q.ns, q.c, Nt.nats (Nt.step q.ns q.c q.ks)⟩) (HV4.out.kept hks (fun g hg => by simp [Value.ownBlock] at hg; subst hg; simp; exact Nat.ne_of_lt HG2.out.2)) (HZ4.out.kept hks HGZ.out) (rfl : q.i.c = _) (HK4.out.setCell (.inr (by have := HNE.out; show w.heap.size ≤ w2.heap.size; omega)) _) HWR.out HZ0.out
    exact ⟨_, rfl, by rw [HMI.out]; exact F1, F2⟩
  by_cases k3 : k = 3 ∧ b = 0
  · obtain ⟨rfl, rfl⟩ := k3
    have HMI := Lib.hid (Nt.madeI_kinds q a)
    have HK4 := Lib.hid (show Kept [] W0 (w2.alloc (.cells #[.slice (some ⟨g2, 0, none⟩) n cp2, .int .i64 a, .slice (some ⟨g3, 0, none⟩) n cp3] 30)) from HK2.out.alloc _)
    have HRK := Lib.hid (HR.out.stay HK4.out)
    obtain ⟨s0, s1, s2⟩ := HRK.out.three
    have t0 := HRK.out.frozen 0
    have t1 := HRK.out.frozen 1
    have t2 := HRK.out.frozen 2
    have hz4 := HRK.out.lt
    go_wp2
    refine bodyPost_ret (results_cell_row rfl _ _ (w.heap.size + 1 + 1) 30 #[.slice (some ⟨g2, 0, none⟩) n cp2, .int .i64 a, .slice (some ⟨g3, 0, none⟩) n cp3] (0, 0) _ rfl (HRK.out.set3 _ _ _) Tryz.underlying30 rfl (by kernel_rfl)) rfl ?_
    obtain ⟨F1, F2⟩ := made_fin (w := w) (p := ⟨q.i.ns, a, q.i.ks⟩) (HV2.out.stay ((Kept.refl [] w2).alloc _)) (HU2.out.stay ((Kept.refl [] w2).alloc _)) rfl (HK0.out.trans HK4.out (by simp)) HWR.out HZ0.out
    exact ⟨_, rfl, by rw [HMI.out]; exact F1, F2⟩
  · have HMI : Hid (Nt.madeI q ⟨k, a, b⟩ = Nt.Pi.zero) := Lib.hid (Nt.madeI_no (fun h => k0 h.1) (fun h => k1 ⟨h.1, h.2.1⟩) k2 k3)
    by_cases hb : b = 0
    · subst hb
      have e1 : (k == 1) = false := by simp; omega
      have e3 : (k == 3) = false := by simp; omega
      by_cases ha : a = 0
      · subst ha
        have e2 : (k == 2) = false := by simp; omega
        clear k0 k1 k2 k3
        go_wp2
        refine bodyPost_ret (results_cell_row rfl _ _ (w.heap.size + 1 + 1) 30 #[.slice none 0 0, .int .i64 0, .slice none 0 0] (0, 0) _ rfl (HR3.out.set3 _ _ _) Tryz.underlying30 rfl (by kernel_rfl)) rfl ?_
        obtain ⟨F1, F2⟩ := made_fin (w := w) (p := Nt.Pi.zero) (Sl.nil _ W0.heap.size) (Sl.nil _ W0.heap.size) rfl HKW.out HWR.out HZ0.out
        exact ⟨_, rfl, by rw [HMI.out]; exact F1, F2⟩
      · have e2 : (a == 0) = false := by simp; omega
        clear k0 k1 k2 k3
        go_wp2
        refine bodyPost_ret (results_cell_row rfl _ _ (w.heap.size + 1 + 1) 30 #[.slice none 0 0, .int .i64 0, .slice none 0 0] (0, 0) _ rfl (HR3.out.set3 _ _ _) Tryz.underlying30 rfl (by kernel_rfl)) rfl ?_
        obtain ⟨F1, F2⟩ := made_fin (w := w) (p := Nt.Pi.zero) (Sl.nil _ W0.heap.size) (Sl.nil _ W0.heap.size) rfl HKW.out HWR.out HZ0.out
        exact ⟨_, rfl, by rw [HMI.out]; exact F1, F2⟩
    · have e2 : (b == 0) = false := by simp; omega
      clear k0 k1 k2 k3
      go_wp2
      refine bodyPost_ret (results_cell_row rfl _ _ (w.heap.size + 1 + 1) 30 #[.slice none 0 0, .int .i64 0, .slice none 0 0] (0, 0) _ rfl (HR3.out.set3 _ _ _) Tryz.underlying30 rfl (by kernel_rfl)) rfl ?_
      obtain ⟨F1, F2⟩ := made_fin (w := w) (p := Nt.Pi.zero) (Sl.nil _ W0.heap.size) (Sl.nil _ W0.heap.size) rfl HKW.out HWR.out HZ0.out
      exact ⟨_, rfl, by rw [HMI.out]; exact F1, F2⟩
end Go.Proofs.YtnajdbnacdnnlaaGreatDoor
