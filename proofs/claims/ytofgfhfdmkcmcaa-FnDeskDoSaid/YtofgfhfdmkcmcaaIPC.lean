/-
  Runs of deeds at a desk, by the program.
-/
import Derived.Test.YtofgfhfdmkcmcaaIPB
namespace Go.Proofs.Ytofgfhfdmkcmcaa
open Go.RowKit

theorem drun_no1 {d : Nt.Di} (h : Nt.dkB d = false) (l : List Nt.Dd) : Nt.drun d l = Nt.Di.zero ∧ Nt.drunN d l = 0 := by
  unfold Nt.drun Nt.drunN
  rw [h, Bool.false_and, if_neg (by simp), if_neg (by simp)]
  exact ⟨rfl, rfl⟩
theorem drun_no2 (d : Nt.Di) {l : List Nt.Dd} (h : ¬ l.length ≤ 40) : Nt.drun d l = Nt.Di.zero ∧ Nt.drunN d l = 0 := by
  unfold Nt.drun Nt.drunN
  rw [decide_eq_false h, Bool.and_false, if_neg (by simp), if_neg (by simp)]
  exact ⟨rfl, rfl⟩
theorem drun_ok {e : Nt.Dk} (h : Nt.DkOk e) {l : List Nt.Dd} (hl : l.length ≤ 40) : Nt.drun e.i l = (Nt.runD e l).i ∧ Nt.drunN e.i l = ((Nt.cntD e l : Nat) : Int) := by
  unfold Nt.drun Nt.drunN
  rw [Nt.dkB_yes h, decide_eq_true hl, Bool.and_self, if_pos rfl, if_pos rfl, Nt.Dk.i_n]
  exact ⟨rfl, rfl⟩

set_option maxHeartbeats 4000000 in
set_option maxRecDepth 100000 in
theorem iDeskRun_any (d : Nt.Di) (ds : List Nt.Dd) (w : World) (x v : Value) (h : De w x d) (hv : Ds w v ds) :
    Calls Try.prog 31 #[x, v] w fun e' w' => ∃ y, e' = .returned (.tuple #[y, .int .i64 (Nt.drunN d ds)]) ∧ DxR w' w.heap.size y (Nt.drun d ds) ∧ Kept [] w w' := by
  have HV := Lib.hid hv
  obtain ⟨n, hn⟩ : ∃ n, n = ds.length := ⟨_, rfl⟩
  have HN := Lib.hid hn
  obtain ⟨av, vcap, rfl, hvc, hvm, _⟩ := hv
  rw [← hn] at HV hvc
  have hn63 : n ≤ 9223372036854775807 := by omega
  obtain ⟨xa, xn, xcap, xb, xm, xcap2, x3, xn3, xcap3, rfl⟩ := h.form
  obtain ⟨hk0, hb0, hr0⟩ := two_new w 32 32 #[.slice xa xn xcap, .int .i64 d.now.c, .slice xb xm xcap2, .slice x3 xn3 xcap3] #[.slice none 0 0, .int .i64 0, .slice none 0 0, .slice none 0 0]
  have HB := Lib.hid hb0
  have HR := Lib.hid hr0
  have HK0 := Lib.hid hk0
  have HX0 := Lib.hid (h.stay hk0)
  obtain ⟨c0, c1, c2, c3⟩ := hb0.four
  have hzb := hb0.lt
  rw [← hn]
  clear hk0 hb0 hr0 h hn
  go_enter Try.func31, Try.ntmps31
  go_wp2_with fail
  generalize ((w.alloc (.cells #[.slice xa xn xcap, .int .i64 d.now.c, .slice xb xm xcap2, .slice x3 xn3 xcap3] 32)).alloc (.cells #[.slice none 0 0, .int .i64 0, .slice none 0 0, .slice none 0 0] 32)) = W0 at *
  refine (iDeskOk_any d _ _ 0 HX0.out.dv).mono ?_
  rintro e' w1 ⟨rfl, hk1⟩
  have HB1 := Lib.hid (HB.out.stay hk1)
  have HR1 := Lib.hid (HR.out.stay hk1)
  have HK1 := Lib.hid (HK0.out.trans hk1 (by simp))
  have HX1 := Lib.hid (HX0.out.stay hk1)
  have HV1 := Lib.hid (HV.out.stay HK1.out)
  clear hk1 c0 c1 c2 c3 hzb HB HR HK0 HX0
  obtain ⟨c0, c1, c2, c3⟩ := HB1.out.four
  obtain ⟨r0, r1, r2, r3⟩ := HR1.out.four
  have f0 := HR1.out.frozen 0
  have f1 := HR1.out.frozen 1
  have f2 := HR1.out.frozen 2
  have f3 := HR1.out.frozen 3
  have hzb := HB1.out.lt
  have hzr := HR1.out.lt
  cases hok : Nt.dkB d
  · have HNO := Lib.hid (drun_no1 hok ds)
    clear hok
    go_wp2
    (try simp only [Exit.inBlock, Exit.then])
    refine bodyPost_ret (v := .tuple #[.agg #[.slice none 0 0, .int .i64 0, .slice none 0 0, .slice none 0 0], .int .i64 0]) ?_ rfl ?_
    · rw [results_cell_tmp rfl]
      simp [asAddr, ret_desk (HR1.out.set4 _ _ _ _)]
    · rw [HNO.out.1, HNO.out.2]
      exact ⟨_, rfl, .inl ⟨rfl, rfl⟩, HK1.out.set4 (by omega) _ _ _ _⟩
  · by_cases h40 : n ≤ 40
    · obtain ⟨e, he, hek⟩ := Nt.dkB_ok hok
      have HE := Lib.hid hek
      have HDO := Lib.hid (drun_ok hek (l := ds) (by rw [← HN.out]; exact h40))
      have HOK2 : Hid (Nt.dkB (Nt.runD e ds).i = true) := Lib.hid (Nt.dkB_yes (Nt.runD_ok hek _))
      have HX2 : Hid (De w1 (.agg #[.slice xa xn xcap, .int .i64 d.now.c, .slice xb xm xcap2, .slice x3 xn3 xcap3]) e.i) := Lib.hid (by rw [← he]; exact HX1.out)
      rw [← he] at HDO
      have d40 : decide ((n : Int) > 40) = false := dec_not (by omega)
      have d40' : decide ((40 : Int) < (n : Int)) = false := dec_not (by omega)
      clear hok he hek r0 r1 r2 r3 f0 f1 f2 f3
      go_wp2_with fail
      refine (deskAfterAll_any e HE.out ds (by rw [← HN.out]; omega) _ _ _ HX2.out HV1.out).mono ?_
      rintro e' w2 ⟨y2, rfl, hde, hk2⟩
      generalize hg : Nt.runD e ds = E2 at *
      generalize ho : ((Nt.cntD e ds : Nat) : Int) = O2 at *
      have HDE := Lib.hid hde
      have HR2 := Lib.hid (HR1.out.stay hk2)
      have HK2 := Lib.hid (HK1.out.trans hk2 (by simp))
      obtain ⟨ya, yn, ycap, yb, ym, ycap2, y3, yn3, ycap3, rfl⟩ := hde.form
      have hka : Kept [] w2 (w2.alloc (.cells #[.slice ya yn ycap, .int .i64 E2.i.now.c, .slice yb ym ycap2, .slice y3 yn3 ycap3] 32)) := (Kept.refl [] w2).alloc _
      have HT3 := Lib.hid (Bk.new w2 32 #[.slice ya yn ycap, .int .i64 E2.i.now.c, .slice yb ym ycap2, .slice y3 yn3 ycap3])
      have HR3 := Lib.hid (HR2.out.stay hka)
      have HK3 := Lib.hid (HK2.out.trans hka (by simp))
      have HDE3 := Lib.hid (HDE.out.stay hka)
      clear hg ho hde hk2 hka c0 c1 c2 c3 hzb hzr HB1 HR1 HK1 HX1 HX2 HR2 HK2 HDE HV1
      obtain ⟨t0, t1, t2, t3⟩ := HT3.out.four
      have hzt := HT3.out.lt
      go_wp2_with fail
      generalize w2.alloc (.cells #[.slice ya yn ycap, .int .i64 E2.i.now.c, .slice yb ym ycap2, .slice y3 yn3 ycap3] 32) = W3 at *
      refine (copiedDesk_any E2.i HOK2.out _ _ 0 HDE3.out.dv).mono ?_
      rintro e' w4 ⟨y4, G, C, r, vs, rfl, hdx, hk4⟩
      have HDX := Lib.hid hdx
      have HR4 := Lib.hid (HR3.out.stay hk4)
      have HK4 := Lib.hid (HK3.out.trans hk4 (by simp))
      have HZ := Lib.hid HR3.out.lt
      have HZ0 := Lib.hid HK3.out.size
      obtain ⟨g1, q1, g2, q2, z3, zn3, zc3, rfl⟩ := hdx.form
      clear hdx hk4 t0 t1 t2 t3 hzt
      obtain ⟨r0, r1, r2, r3⟩ := HR4.out.four
      have f0 := HR4.out.frozen 0
      have f1 := HR4.out.frozen 1
      have f2 := HR4.out.frozen 2
      have f3 := HR4.out.frozen 3
      have hrl := HR4.out.lt
      go_wp2
      (try simp only [Exit.inBlock, Exit.then])
      refine bodyPost_ret (v := .tuple #[.agg #[.slice (some ⟨g1, 0, none⟩) E2.i.now.ns.length q1, .int .i64 E2.i.now.c, .slice (some ⟨g2, 0, none⟩) E2.i.now.ks.length q2, .slice z3 zn3 zc3], .int .i64 O2]) ?_ rfl ?_
      · rw [results_cell_tmp rfl]
        simp [asAddr, ret_desk (HR4.out.set4 _ _ _ _)]
      · rw [HDO.out.1, HDO.out.2]
        exact ⟨_, rfl, .inr ⟨HOK2.out, G, C, r, vs, (HDX.out.kept (Kept.rows4 w4 (w.heap.size + 1) _ _ _ _) (fun g hg _ => by have := HZ.out; simp; omega)).mono HZ0.out⟩, HK4.out.set4 (by omega) _ _ _ _⟩
    · have HNO := Lib.hid (drun_no2 d (l := ds) (by rw [← HN.out]; exact h40))
      have d40 : decide ((n : Int) > 40) = true := dec_of (by omega)
      have d40' : decide ((40 : Int) < (n : Int)) = true := dec_of (by omega)
      clear hok h40
      go_wp2
      (try simp only [Exit.inBlock, Exit.then])
      refine bodyPost_ret (v := .tuple #[.agg #[.slice none 0 0, .int .i64 0, .slice none 0 0, .slice none 0 0], .int .i64 0]) ?_ rfl ?_
      · rw [results_cell_tmp rfl]
        simp [asAddr, ret_desk (HR1.out.set4 _ _ _ _)]
      · rw [HNO.out.1, HNO.out.2]
        exact ⟨_, rfl, .inl ⟨rfl, rfl⟩, HK1.out.set4 (by omega) _ _ _ _⟩
end Go.Proofs.Ytofgfhfdmkcmcaa
