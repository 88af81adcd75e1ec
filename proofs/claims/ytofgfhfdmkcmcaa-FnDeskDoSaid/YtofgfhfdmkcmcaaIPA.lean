/-
  A desk after a deed, by the program.
-/
import Derived.Test.YtofgfhfdmkcmcaaIP9
namespace Go.Proofs.Ytofgfhfdmkcmcaa
open Go.RowKit

theorem before_is (e : Nt.Dk) : Nt.doD e ⟨4, 0, 0⟩ = (if 0 < e.past.length then some (backI e.i).n else none) ∧ (0 < e.past.length → (backI e.i).n.i = backI e.i) := by
  rw [Nt.doD_four]
  by_cases h : 0 < e.past.length
  · have hl : e.past.getLast? = some (e.past.getD (e.past.length - 1) ⟨[], 0, []⟩) := by
      rw [List.getLast?_eq_getElem?, List.getD_eq_getElem?_getD, List.getElem?_eq_getElem (by omega)]; rfl
    have hb : backI e.i = (⟨e.past.getD (e.past.length - 1) ⟨[], 0, []⟩, e.past.dropLast⟩ : Nt.Dk).i := by
      unfold backI Nt.Dk.i piAt
      simp only [List.length_map]
      congr 1
      · rw [List.getD_eq_getElem?_getD, List.getElem?_map, List.getD_eq_getElem?_getD, List.getElem?_eq_getElem (by omega)]; rfl
      · rw [← List.map_take, List.dropLast_eq_take]
    rw [hl, if_pos h, hb, Nt.Dk.i_n]
    exact ⟨rfl, fun _ => rfl⟩
  · have h0 : e.past = [] := List.eq_nil_of_length_eq_zero (by omega)
    rw [if_neg h, h0]
    exact ⟨rfl, fun h2 => absurd h2 (by simp)⟩
/-- What DkBack leads to. -/
theorem go_before (e : Nt.Dk) : (Nt.goD e ⟨4, 0, 0⟩).i = beforeI e.i ∧ (Nt.doD e ⟨4, 0, 0⟩).isSome = beforeB e.i := by
  obtain ⟨h1, h2⟩ := before_is e
  have hl : e.i.past.length = e.past.length := List.length_map ..
  unfold Nt.goD beforeI beforeB
  rw [h1, hl]
  by_cases h : 0 < e.past.length
  · rw [if_pos h, if_pos h, decide_eq_true h]
    exact ⟨h2 h, rfl⟩
  · rw [if_neg h, if_neg h, decide_eq_false h]
    exact ⟨rfl, rfl⟩

set_option maxHeartbeats 4000000 in
set_option maxRecDepth 100000 in
theorem deskAfter_any (e : Nt.Dk) (he : Nt.DkOk e) (k a b : Int) (w : World) (x : Value) (h : De w x e.i) :
    Calls Try.prog 59 #[x, .agg #[.int .i64 k, .int .i64 a, .int .i64 b]] w fun e' w' => ∃ y, e' = .returned (.tuple #[y, .bool (Nt.doD e ⟨k, a, b⟩).isSome]) ∧ De w' y (Nt.goD e ⟨k, a, b⟩).i ∧ Kept [] w w' := by
  obtain ⟨d, hd⟩ : ∃ d, d = e.i := ⟨_, rfl⟩
  rw [← hd] at h
  have HE := Lib.hid he
  have HD0 := Lib.hid hd
  have HX := Lib.hid h
  have hp8 : d.past.length ≤ 8 := by rw [hd]; show (e.past.map Nt.Pl.i).length ≤ 8; rw [List.length_map]; exact he.few
  obtain ⟨v, u, r, rfl, h1, h2, h3, _⟩ := h
  obtain ⟨hk0, hb0, hd0, hr0⟩ := three_new w 32 40 32 #[v, .int .i64 d.now.c, u, r] #[.int .i64 k, .int .i64 a, .int .i64 b] #[.slice none 0 0, .int .i64 0, .slice none 0 0, .slice none 0 0]
  have HV := Lib.hid h1
  have HU := Lib.hid h2
  have HP := Lib.hid h3
  obtain ⟨n, hn⟩ : ∃ n, n = d.past.length := ⟨_, rfl⟩
  obtain ⟨a1, cap, rfl, _, _, _⟩ := h1.any
  obtain ⟨b1, cap2, rfl, _, _, _⟩ := h2.any
  obtain ⟨a3, cap3, rfl⟩ := h3.any3
  rw [← hn] at hp8 HX HP hk0 hb0 hd0 hr0
  have HB := Lib.hid hb0
  have HD := Lib.hid hd0
  have HR := Lib.hid hr0
  have HK0 := Lib.hid hk0
  have HN := Lib.hid hn
  obtain ⟨c0, c1, c2, c3⟩ := hb0.four
  obtain ⟨d0, d1, d2⟩ := hd0.three
  have hzb := hb0.lt
  have hzd := hd0.lt
  have hzr := hr0.lt
  rw [← hn]
  clear h1 h2 h3 hk0 hb0 hd0 hr0 hn he hd
  go_enter Try.func59, Try.ntmps59
  go_wp2_with fail
  generalize (((w.alloc (.cells #[.slice a1 d.now.ns.length cap, .int .i64 d.now.c, .slice b1 d.now.ks.length cap2, .slice a3 n cap3] 32)).alloc (.cells #[.int .i64 k, .int .i64 a, .int .i64 b] 40)).alloc (.cells #[.slice none 0 0, .int .i64 0, .slice none 0 0, .slice none 0 0] 32)) = W0 at *
  refine (deedOk_any k a b _).mono ?_
  rintro e' w1 ⟨rfl, hk1⟩
  have HB1 := Lib.hid (HB.out.stay hk1)
  have HD1 := Lib.hid (HD.out.stay hk1)
  have HR1 := Lib.hid (HR.out.stay hk1)
  have HK1 := Lib.hid (HK0.out.trans hk1 (by simp))
  clear hk1 c0 c1 c2 c3 d0 d1 d2 hzb hzd hzr HB HD HR HK0
  obtain ⟨c0, c1, c2, c3⟩ := HB1.out.four
  obtain ⟨d0, d1, d2⟩ := HD1.out.three
  obtain ⟨r0, r1, r2, r3⟩ := HR1.out.four
  have f0 := HR1.out.frozen 0
  have f1 := HR1.out.frozen 1
  have f2 := HR1.out.frozen 2
  have f3 := HR1.out.frozen 3
  have hzb := HB1.out.lt
  have hzd := HD1.out.lt
  have hzr := HR1.out.lt
  have HDW := Lib.hid (HX.out.stay HK1.out)
  cases hok : Nt.dokB ⟨k, a, b⟩
  · have HNO : Hid (Nt.doD e ⟨k, a, b⟩ = none) := Lib.hid (Nt.doD_bad hok)
    clear hok
    go_wp2
    (try simp only [Exit.inBlock, Exit.then])
    refine bodyPost_ret (v := .tuple #[.agg #[.slice a1 d.now.ns.length cap, .int .i64 d.now.c, .slice b1 d.now.ks.length cap2, .slice a3 n cap3], .bool false]) ?_ rfl ?_
    · rw [results_cell_tmp rfl]
      simp [asAddr, ret_desk (HR1.out.set4 _ _ _ _)]
    · have hk9 := HK1.out.set4 (g := w.heap.size + 1 + 1) (by omega) (.slice a1 d.now.ns.length cap) (.int .i64 d.now.c) (.slice b1 d.now.ks.length cap2) (.slice a3 n cap3)
      have e2 : (Nt.goD e ⟨k, a, b⟩).i = d := by unfold Nt.goD; rw [HNO.out, HD0.out]; rfl
      rw [HNO.out, e2]
      exact ⟨_, rfl, HX.out.stay hk9, hk9⟩
  · by_cases k4 : k = 4
    · have hab : a = 0 ∧ b = 0 := by
        have h := Nt.dokB_cases hok
        simp only at h
        omega
      obtain ⟨rfl, rfl⟩ := hab
      have kk : (k == 4) = true := by simp [k4]
      have HGB : Hid ((Nt.goD e ⟨k, 0, 0⟩).i = beforeI d ∧ (Nt.doD e ⟨k, 0, 0⟩).isSome = beforeB d) := Lib.hid (by rw [k4, HD0.out]; exact go_before e)
      clear hok k4
      go_wp2_with fail
      refine (deskBefore_any d _ _ HDW.out).mono ?_
      rintro e' w2 ⟨y2, rfl, hdv, hk2⟩
      have HDV := Lib.hid hdv
      have HR2 := Lib.hid (HR1.out.stay hk2)
      have HK2 := Lib.hid (HK1.out.trans hk2 (by simp))
      obtain ⟨ya, yn, ycap, yb, ym, ycap2, y3, yn3, ycap3, rfl⟩ := hdv.form
      clear hdv hk2 c0 c1 c2 c3 d0 d1 d2 r0 r1 r2 r3 f0 f1 f2 f3 hzb hzd hzr
      obtain ⟨r0, r1, r2, r3⟩ := HR2.out.four
      have f0 := HR2.out.frozen 0
      have f1 := HR2.out.frozen 1
      have f2 := HR2.out.frozen 2
      have f3 := HR2.out.frozen 3
      have hzr := HR2.out.lt
      go_wp2
      (try simp only [Exit.inBlock, Exit.then])
      refine bodyPost_ret (v := .tuple #[.agg #[.slice ya yn ycap, .int .i64 (beforeI d).now.c, .slice yb ym ycap2, .slice y3 yn3 ycap3], .bool (beforeB d)]) ?_ rfl ?_
      · rw [results_cell_tmp rfl]
        simp [asAddr, ret_desk (HR2.out.set4 _ _ _ _)]
      · have hk9 := HK2.out.set4 (g := w.heap.size + 1 + 1) (by omega) (.slice ya yn ycap) (.int .i64 (beforeI d).now.c) (.slice yb ym ycap2) (.slice y3 yn3 ycap3)
        rw [HGB.out.1, HGB.out.2]
        exact ⟨_, rfl, HDV.out.alien (Kept.rows4 w2 (w.heap.size + 1 + 1) _ _ _ _) (Alien.one HR2.out), hk9⟩
    · have kk : (k == 4) = false := by simp [k4]
      have hks : k = 0 ∨ k = 1 ∨ k = 2 ∨ k = 3 := by
        have h := Nt.dokB_cases hok
        simp only at h
        omega
      have HMADE := Lib.hid (Nt.made_after (q := e.now) HE.out.now hok k4)
      have HN4 := Lib.hid k4
      have HPV : Hid (Pv w1 0 (.agg #[.slice a1 d.now.ns.length cap, .int .i64 d.now.c, .slice b1 d.now.ks.length cap2]) e.now.i) := Lib.hid (by
        rw [show e.now.i = d.now from (congrArg Nt.Di.now HD0.out).symm]
        exact ⟨_, _, rfl, HV.out.stay HK1.out, HU.out.stay HK1.out⟩)
      have HNOW : Hid (e.now.i = d.now) := Lib.hid (congrArg Nt.Di.now HD0.out).symm
      have HPS1 := Lib.hid (HP.out.stay HK1.out)
      clear hok k4 r0 r1 r2 r3 f0 f1 f2 f3
      go_wp2_with fail
      refine (placeAfter_any e.now HE.out.now k a b hks _ _ 0 HPV.out).mono ?_
      rintro e' w2 ⟨y2, rfl, hpv, hk2⟩
      generalize Nt.afterI e.now ⟨k, a, b⟩ = P at *
      have HB2 := Lib.hid (HB1.out.stay hk2)
      have HR2 := Lib.hid (HR1.out.stay hk2)
      have HK2 := Lib.hid (HK1.out.trans hk2 (by simp))
      obtain ⟨pv, pu, rfl, hp1, hp2⟩ := hpv
      obtain ⟨pa, pcap, rfl, _, _, _⟩ := hp1.any
      obtain ⟨pb, pcap2, rfl, _, _, _⟩ := hp2.any
      have hka : Kept [] w2 (w2.alloc (.cells #[.slice pa P.ns.length pcap, .int .i64 P.c, .slice pb P.ks.length pcap2] 25)) := (Kept.refl [] w2).alloc _
      have HPN := Lib.hid (show Pv _ 0 (.agg #[.slice pa P.ns.length pcap, .int .i64 P.c, .slice pb P.ks.length pcap2]) P from ⟨_, _, rfl, hp1.stay hka, hp2.stay hka⟩)
      have HT3 := Lib.hid (Bk.new w2 25 #[.slice pa P.ns.length pcap, .int .i64 P.c, .slice pb P.ks.length pcap2])
      have HB3 := Lib.hid (HB2.out.stay hka)
      have HR3 := Lib.hid (HR2.out.stay hka)
      have HK3 := Lib.hid (HK2.out.trans hka (by simp))
      have HPV3 := Lib.hid ((HPV.out.stay hk2).stay hka)
      have HPS3 := Lib.hid ((HPS1.out.stay hk2).stay hka)
      clear hk2 hka c0 c1 c2 c3 d0 d1 d2 hp1 hp2 hzb hzd hzr HPV HPS1 HB1 HR1 HD1 HK1 HDW
      obtain ⟨c0, c1, c2, c3⟩ := HB3.out.four
      obtain ⟨t0, t1, t2⟩ := HT3.out.three
      have hzb := HB3.out.lt
      have hzt := HT3.out.lt
      go_wp2_with fail
      generalize w2.alloc (.cells #[.slice pa P.ns.length pcap, .int .i64 P.c, .slice pb P.ks.length pcap2] 25) = W3 at *
      refine (samePlace_any P e.now.i _ _ _ 0 0 HPN.out HPV3.out).mono ?_
      rintro e' w4 ⟨rfl, hk4⟩
      have HB4 := Lib.hid (HB3.out.stay hk4)
      have HR4 := Lib.hid (HR3.out.stay hk4)
      have HT4 := Lib.hid (HT3.out.stay hk4)
      have HK4 := Lib.hid (HK3.out.trans hk4 (by simp))
      have HPN4 := Lib.hid (HPN.out.stay hk4)
      have HPV4 := Lib.hid (HPV3.out.stay hk4)
      have HPS4 := Lib.hid (HPS3.out.stay hk4)
      clear hk4 c0 c1 c2 c3 t0 t1 t2 hzb hzt HB3 HR3 HT3 HK3 HPN HPV3 HPS3 HB2 HR2 HK2
      by_cases hsame : P = e.now.i
      · have HNO : Hid (Nt.doD e ⟨k, a, b⟩ = none) := Lib.hid (Nt.doD_none HN4.out (by rw [HMADE.out, if_neg (fun h => h.1 hsame)]))
        rw [decide_eq_true hsame]
        clear hsame
        obtain ⟨c0, c1, c2, c3⟩ := HB4.out.four
        obtain ⟨r0, r1, r2, r3⟩ := HR4.out.four
        have f0 := HR4.out.frozen 0
        have f1 := HR4.out.frozen 1
        have f2 := HR4.out.frozen 2
        have f3 := HR4.out.frozen 3
        have hzb := HB4.out.lt
        have hzr := HR4.out.lt
        go_wp2
        (try simp only [Exit.inBlock, Exit.then])
        refine bodyPost_ret (v := .tuple #[.agg #[.slice a1 d.now.ns.length cap, .int .i64 d.now.c, .slice b1 d.now.ks.length cap2, .slice a3 n cap3], .bool false]) ?_ rfl ?_
        · rw [results_cell_tmp rfl]
          simp [asAddr, ret_desk (HR4.out.set4 _ _ _ _)]
        · have hk9 := HK4.out.set4 (g := w.heap.size + 1 + 1) (by omega) (.slice a1 d.now.ns.length cap) (.int .i64 d.now.c) (.slice b1 d.now.ks.length cap2) (.slice a3 n cap3)
          have e2 : (Nt.goD e ⟨k, a, b⟩).i = d := by unfold Nt.goD; rw [HNO.out, HD0.out]; rfl
          rw [HNO.out, e2]
          exact ⟨_, rfl, HX.out.stay hk9, hk9⟩
      · rw [decide_eq_false hsame]
        have HNE := Lib.hid hsame
        clear hsame
        obtain ⟨t0, t1, t2⟩ := HT4.out.three
        go_wp2_with fail
        refine (iPlaceOk_any P _ _ _ HPN4.out).mono ?_
        rintro e' w5 ⟨rfl, hk5⟩
        have HB5 := Lib.hid (HB4.out.stay hk5)
        have HR5 := Lib.hid (HR4.out.stay hk5)
        have HT5 := Lib.hid (HT4.out.stay hk5)
        have HK5 := Lib.hid (HK4.out.trans hk5 (by simp))
        have HPN5 := Lib.hid (HPN4.out.stay hk5)
        have HPV5 := Lib.hid (HPV4.out.stay hk5)
        have HPS5 := Lib.hid (HPS4.out.stay hk5)
        clear hk5 t0 t1 t2 HB4 HR4 HT4 HK4 HPN4 HPV4 HPS4
        obtain ⟨c0, c1, c2, c3⟩ := HB5.out.four
        obtain ⟨r0, r1, r2, r3⟩ := HR5.out.four
        have f0 := HR5.out.frozen 0
        have f1 := HR5.out.frozen 1
        have f2 := HR5.out.frozen 2
        have f3 := HR5.out.frozen 3
        have hzb := HB5.out.lt
        have hzr := HR5.out.lt
        cases hpl : Nt.plB P
        · have HNO : Hid (Nt.doD e ⟨k, a, b⟩ = none) := Lib.hid (Nt.doD_none HN4.out (by rw [HMADE.out, if_neg (fun h => by rw [hpl] at h; simp at h)]))
          clear hpl
          go_wp2
          (try simp only [Exit.inBlock, Exit.then])
          refine bodyPost_ret (v := .tuple #[.agg #[.slice a1 d.now.ns.length cap, .int .i64 d.now.c, .slice b1 d.now.ks.length cap2, .slice a3 n cap3], .bool false]) ?_ rfl ?_
          · rw [results_cell_tmp rfl]
            simp [asAddr, ret_desk (HR5.out.set4 _ _ _ _)]
          · have hk9 := HK5.out.set4 (g := w.heap.size + 1 + 1) (by omega) (.slice a1 d.now.ns.length cap) (.int .i64 d.now.c) (.slice b1 d.now.ks.length cap2) (.slice a3 n cap3)
            have e2 : (Nt.goD e ⟨k, a, b⟩).i = d := by unfold Nt.goD; rw [HNO.out, HD0.out]; rfl
            rw [HNO.out, e2]
            exact ⟨_, rfl, HX.out.stay hk9, hk9⟩
        · have HYES : Hid (Nt.doD e ⟨k, a, b⟩ = some ⟨P.n, (e.past ++ [e.now]).drop ((e.past ++ [e.now]).length - 8)⟩) := Lib.hid (Nt.doD_some HE.out.few HN4.out (by rw [HMADE.out, if_pos ⟨HNE.out, hpl⟩]))
          have HPI : Hid (P.n.i = P) := Lib.hid (by obtain ⟨q, hq, _⟩ := Nt.plB_ok hpl; rw [hq, Nt.Pl.i_n])
          clear hpl
          obtain ⟨hk6, hb6, hr6⟩ := two_new w5 25 30 #[.slice a1 d.now.ns.length cap, .int .i64 d.now.c, .slice b1 d.now.ks.length cap2] #[.slice a3 n cap3, .slice (some ⟨w5.heap.size, 0, none⟩) 1 1]
          have HONE := Lib.hid (show Ps _ 0 (.slice (some ⟨w5.heap.size, 0, none⟩) 1 1) [d.now] from ⟨_, 1, rfl, (fun h => by cases h), by simp, by omega, fun j hj => by
            have e0 : j = 0 := by simpa using hj
            subst e0
            obtain ⟨b0, b1, b2⟩ := hb6.three
            exact ⟨w5.heap.size, 0, rfl, Nat.zero_le _, hb6.lt, _, _, b0, b1, b2, (HV.out.stay HK5.out).stay hk6, (HU.out.stay HK5.out).stay hk6⟩⟩)
          have HPS6 := Lib.hid (HPS5.out.stay hk6)
          have HPN6 := Lib.hid (HPN5.out.stay hk6)
          have HB6 := Lib.hid hr6
          have HT6 := Lib.hid (HT5.out.stay hk6)
          have HR6 := Lib.hid (HR5.out.stay hk6)
          have HK6 := Lib.hid (HK5.out.trans hk6 (by simp))
          clear hk6 hb6 hr6
          go_wp2_with fail
          obtain ⟨N9, hN9⟩ : ∃ N9, N9 = n + 1 := ⟨_, rfl⟩
          have HC := concat_any d.past d.now (by rw [← HN.out]; omega) _ (w5.heap.size + 1) _ _ HB6.out HPS6.out HONE.out
          rw [← HN.out, ← hN9] at HC
          have HN9 := Lib.hid hN9
          refine HC.mono ?_
          rintro e' w7 ⟨g7, cap7, rfl, hpm, hk7⟩
          have HPM := Lib.hid hpm
          have HT7 := Lib.hid (HT6.out.stay hk7)
          have HPN7 := Lib.hid (HPN6.out.stay hk7)
          have HR7 := Lib.hid (HR6.out.stay hk7)
          have HK7 := Lib.hid (HK6.out.trans hk7 (by simp))
          clear hpm hk7 HC c0 c1 c2 c3 r0 r1 r2 r3 f0 f1 f2 f3 hzb hzr HB5 HR5 HT5 HK5 HPN5 HPV5 HPS5 HONE HPS6 HB6 HT6 HR6 HK6 HPN6
          obtain ⟨t0, t1, t2⟩ := HT7.out.three
          have t0d : w7.drew.cell? ⟨w2.heap.size, 0, none⟩ = some (.slice pa P.ns.length pcap) := t0
          have t1d : w7.drew.cell? ⟨w2.heap.size, 1, none⟩ = some (.int .i64 P.c) := t1
          have t2d : w7.drew.cell? ⟨w2.heap.size, 2, none⟩ = some (.slice pb P.ks.length pcap2) := t2
          have hzt := HT7.out.lt
          have hl9 : N9 ≤ cap7 ∧ cap7 ≤ 9223372036854775807 := by
            obtain ⟨vs, htg, hvl, _⟩ := HPM.out
            obtain ⟨gg, cc, e, _, _, h3, h4, _⟩ := htg.shape (n := N9) (by rw [hvl, List.length_append, ← HN.out, HN9.out]; rfl) (by omega)
            simp only [Value.slice.injEq] at e
            obtain ⟨_, _, rfl⟩ := e
            exact ⟨h3, h4⟩
          obtain ⟨hl9, hm9⟩ := hl9
          by_cases h8 : N9 ≤ 8
          · obtain ⟨z, hz⟩ : ∃ z : Int, z = (N9 : Int) - 8 := ⟨_, rfl⟩
            have e1 : wrap64 ((N9 : Int) - 8) = z := by unfold wrap64; omega
            have e1' : IntKind.i64.wrap ((N9 : Int) - 8) = z := by rw [IntKind.wrap_i64]; omega
            have hz0 : z ≤ 0 := by omega
            have hm : (if 0 < z then z else 0) = 0 := if_neg (by omega)
            have hn1 : (0 : Int) ≤ (N9 : Int) := by omega
            have hc0 : ¬ cap7 = 0 := by omega
            have hc1 : 0 < cap7 := by omega
            clear hz hN9
            go_wp2_with fail
            go_still_tail 8, (by kernel_rfl)
            change wpList _ _ _ _ _ w7.drew
            have hkd : Kept [] w7 w7.drew := (Kept.refl [] w7).drew
            have HR8 := Lib.hid (HR7.out.stay hkd)
            have HK8 := Lib.hid HK7.out.drew
            have HPM8 := Lib.hid (show Ps w7.drew 0 _ _ from HPM.out.ps.stay hkd)
            have HPT8 := Lib.hid (show Pt w7.drew _ from by obtain ⟨vs, htg, _, _⟩ := HPM.out; exact htg.pt.stay hkd)
            have HPN8 := Lib.hid (HPN7.out.stay hkd)
            clear hkd t0 t1 t2 t0d t1d t2d hzt HR7 HK7 HPM HPN7 HT7
            generalize w7.drew = W8 at *
            obtain ⟨r0, r1, r2, r3⟩ := HR8.out.four
            have f0 := HR8.out.frozen 0
            have f1 := HR8.out.frozen 1
            have f2 := HR8.out.frozen 2
            have f3 := HR8.out.frozen 3
            have hrl := HR8.out.lt
            go_wp2
            (try simp only [Exit.inBlock, Exit.then])
            refine bodyPost_ret (v := .tuple #[.agg #[.slice pa P.ns.length pcap, .int .i64 P.c, .slice pb P.ks.length pcap2, .slice (some ⟨g7, 0, none⟩) N9 cap7], .bool true]) ?_ rfl ?_
            · rw [results_cell_tmp rfl]
              simp [asAddr, ret_desk (HR8.out.set4 _ _ _ _)]
            · have hk9 := HK8.out.set4 (g := w.heap.size + 1 + 1) (by omega) (.slice pa P.ns.length pcap) (.int .i64 P.c) (.slice pb P.ks.length pcap2) (.slice (some ⟨g7, 0, none⟩) N9 cap7)
              have hk4 := Kept.rows4 W8 (w.heap.size + 1 + 1) (.slice pa P.ns.length pcap) (.int .i64 P.c) (.slice pb P.ks.length pcap2) (.slice (some ⟨g7, 0, none⟩) N9 cap7)
              have hal := Alien.one HR8.out
              obtain ⟨x1, x2, ex, hx1, hx2⟩ := HPN8.out
              simp only [Value.agg.injEq] at ex
              have ex1 := congrArg (fun z => z[0]?) ex
              have ex2 := congrArg (fun z => z[2]?) ex
              simp at ex1 ex2
              subst ex1; subst ex2
              rw [HYES.out]
              have e2 : (Nt.goD e ⟨k, a, b⟩).i = ⟨P, (d.past ++ [d.now]).drop (N9 - 8)⟩ := by
                unfold Nt.goD
                rw [HYES.out, HD0.out]
                show (⟨P.n.i, ((e.past ++ [e.now]).drop ((e.past ++ [e.now]).length - 8)).map Nt.Pl.i⟩ : Nt.Di) = ⟨P, (e.past.map Nt.Pl.i ++ [e.now.i]).drop (N9 - 8)⟩
                have hl : (e.past ++ [e.now]).length = N9 := by
                  rw [List.length_append, HN9.out, HN.out, HD0.out]
                  show e.past.length + 1 = (e.past.map Nt.Pl.i).length + 1
                  rw [List.length_map]
                rw [HPI.out, hl, List.map_drop, List.map_append]; rfl
              rw [e2]
              refine ⟨_, rfl, ⟨_, _, _, rfl, hx1.alien hk4 hal, hx2.alien hk4 hal, ?_, ?_⟩, hk9⟩
              · have h := HPM8.out.alien HPT8.out hk4 hal
                rw [show N9 - 8 = 0 by omega, List.drop_zero]
                exact h
              · exact HPT8.out.alien hk4 hal
          · have h9 : N9 = 9 := by omega
            have e1 : wrap64 ((N9 : Int) - 8) = 1 := by unfold wrap64; omega
            have e1' : IntKind.i64.wrap ((N9 : Int) - 8) = 1 := by rw [IntKind.wrap_i64]; omega
            have hc0 : ¬ cap7 = 1 := by omega
            have hc1 : 1 < cap7 := by omega
            have hc2 : 1 ≤ cap7 := by omega
            have hn1 : (1 : Int) ≤ (N9 : Int) := by omega
            have HN99 := Lib.hid h9
            clear hN9 h9
            go_wp2_with fail
            go_still_tail 8, (by kernel_rfl)
            change wpList _ _ _ _ _ w7.drew
            have hkd : Kept [] w7 w7.drew := (Kept.refl [] w7).drew
            have HR8 := Lib.hid (HR7.out.stay hkd)
            have HK8 := Lib.hid HK7.out.drew
            have HPM8 := Lib.hid (show Ps w7.drew 0 _ _ from HPM.out.ps.stay hkd)
            have HPT8 := Lib.hid (show Pt w7.drew _ from by obtain ⟨vs, htg, _, _⟩ := HPM.out; exact htg.pt.stay hkd)
            have HPN8 := Lib.hid (HPN7.out.stay hkd)
            clear hkd t0 t1 t2 t0d t1d t2d hzt HR7 HK7 HPM HPN7 HT7
            generalize w7.drew = W8 at *
            obtain ⟨r0, r1, r2, r3⟩ := HR8.out.four
            have f0 := HR8.out.frozen 0
            have f1 := HR8.out.frozen 1
            have f2 := HR8.out.frozen 2
            have f3 := HR8.out.frozen 3
            have hrl := HR8.out.lt
            go_wp2
            (try simp only [Exit.inBlock, Exit.then])
            refine bodyPost_ret (v := .tuple #[.agg #[.slice pa P.ns.length pcap, .int .i64 P.c, .slice pb P.ks.length pcap2, .slice (some ⟨g7, 3, none⟩) (N9 - 1) (cap7 - 1)], .bool true]) ?_ rfl ?_
            · rw [results_cell_tmp rfl]
              simp [asAddr, ret_desk (HR8.out.set4 _ _ _ _)]
            · have hk9 := HK8.out.set4 (g := w.heap.size + 1 + 1) (by omega) (.slice pa P.ns.length pcap) (.int .i64 P.c) (.slice pb P.ks.length pcap2) (.slice (some ⟨g7, 3, none⟩) (N9 - 1) (cap7 - 1))
              have hk4 := Kept.rows4 W8 (w.heap.size + 1 + 1) (.slice pa P.ns.length pcap) (.int .i64 P.c) (.slice pb P.ks.length pcap2) (.slice (some ⟨g7, 3, none⟩) (N9 - 1) (cap7 - 1))
              have hal := Alien.one HR8.out
              obtain ⟨x1, x2, ex, hx1, hx2⟩ := HPN8.out
              simp only [Value.agg.injEq] at ex
              have ex1 := congrArg (fun z => z[0]?) ex
              have ex2 := congrArg (fun z => z[2]?) ex
              simp at ex1 ex2
              subst ex1; subst ex2
              rw [HYES.out]
              have e2 : (Nt.goD e ⟨k, a, b⟩).i = ⟨P, (d.past ++ [d.now]).drop (N9 - 8)⟩ := by
                unfold Nt.goD
                rw [HYES.out, HD0.out]
                show (⟨P.n.i, ((e.past ++ [e.now]).drop ((e.past ++ [e.now]).length - 8)).map Nt.Pl.i⟩ : Nt.Di) = ⟨P, (e.past.map Nt.Pl.i ++ [e.now.i]).drop (N9 - 8)⟩
                have hl : (e.past ++ [e.now]).length = N9 := by
                  rw [List.length_append, HN9.out, HN.out, HD0.out]
                  show e.past.length + 1 = (e.past.map Nt.Pl.i).length + 1
                  rw [List.length_map]
                rw [HPI.out, hl, List.map_drop, List.map_append]; rfl
              rw [e2]
              refine ⟨_, rfl, ⟨_, _, _, rfl, hx1.alien hk4 hal, hx2.alien hk4 hal, ?_, ?_⟩, hk9⟩
              · have h := (HPM8.out.alien HPT8.out hk4 hal).from 1 (by rw [List.length_append]; simp)
                rw [show N9 - 8 = 1 by have := HN99.out; omega]
                exact h
              · refine Pt.alien (fun a' n' cap' e3 _ => ?_) hk4 hal
                simp only [Value.slice.injEq, Option.some.injEq] at e3
                obtain ⟨rfl, _, _⟩ := e3
                exact HPT8.out ⟨g7, 0, none⟩ N9 cap7 rfl (by omega)
end Go.Proofs.Ytofgfhfdmkcmcaa
