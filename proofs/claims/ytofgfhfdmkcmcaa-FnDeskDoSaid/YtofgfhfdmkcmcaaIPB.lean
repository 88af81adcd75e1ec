/-
  Deeds done at a desk, by the program.
-/
import Derived.Test.YtofgfhfdmkcmcaaIPA
namespace Go.Proofs.Ytofgfhfdmkcmcaa
open Go.RowKit

set_option maxHeartbeats 4000000 in
set_option maxRecDepth 100000 in
theorem iDeskDo_any (d : Nt.Di) (k a b : Int) (w : World) (x : Value) (h : De w x d) :
    Calls Try.prog 27 #[x, .agg #[.int .i64 k, .int .i64 a, .int .i64 b]] w fun e' w' => ∃ y, e' = .returned (.tuple #[y, .bool (Nt.ddoB d ⟨k, a, b⟩)]) ∧ DxR w' w.heap.size y (Nt.ddo d ⟨k, a, b⟩) ∧ Kept [] w w' := by
  have HX := Lib.hid h
  obtain ⟨xa, xn, xcap, xb, xm, xcap2, x3, xn3, xcap3, rfl⟩ := h.form
  obtain ⟨hk0, hb0, hd0, hr0⟩ := three_new w 32 40 32 #[.slice xa xn xcap, .int .i64 d.now.c, .slice xb xm xcap2, .slice x3 xn3 xcap3] #[.int .i64 k, .int .i64 a, .int .i64 b] #[.slice none 0 0, .int .i64 0, .slice none 0 0, .slice none 0 0]
  have HB := Lib.hid hb0
  have HD := Lib.hid hd0
  have HR := Lib.hid hr0
  have HK0 := Lib.hid hk0
  have HX0 := Lib.hid (h.stay hk0)
  obtain ⟨c0, c1, c2, c3⟩ := hb0.four
  obtain ⟨d0, d1, d2⟩ := hd0.three
  have hzb := hb0.lt
  have hzd := hd0.lt
  clear hk0 hb0 hd0 hr0 h
  go_enter Try.func27, Try.ntmps27
  go_wp2_with fail
  generalize (((w.alloc (.cells #[.slice xa xn xcap, .int .i64 d.now.c, .slice xb xm xcap2, .slice x3 xn3 xcap3] 32)).alloc (.cells #[.int .i64 k, .int .i64 a, .int .i64 b] 40)).alloc (.cells #[.slice none 0 0, .int .i64 0, .slice none 0 0, .slice none 0 0] 32)) = W0 at *
  refine (iDeskOk_any d _ _ 0 HX0.out.dv).mono ?_
  rintro e' w1 ⟨rfl, hk1⟩
  have HB1 := Lib.hid (HB.out.stay hk1)
  have HD1 := Lib.hid (HD.out.stay hk1)
  have HR1 := Lib.hid (HR.out.stay hk1)
  have HK1 := Lib.hid (HK0.out.trans hk1 (by simp))
  have HX1 := Lib.hid (HX0.out.stay hk1)
  clear hk1 c0 c1 c2 c3 d0 d1 d2 hzb hzd HB HD HR HK0 HX0
  obtain ⟨c0, c1, c2, c3⟩ := HB1.out.four
  obtain ⟨d0, d1, d2⟩ := HD1.out.three
  obtain ⟨r0, r1, r2, r3⟩ := HR1.out.four
  have f0 := HR1.out.frozen 0
  have f1 := HR1.out.frozen 1
  have f2 := HR1.out.frozen 2
  have f3 := HR1.out.frozen 3
  have hzb := HB1.out.lt
  have hzd := HD1.out.lt
  have hzr := HR1.out.lt
  cases hok : Nt.dkB d
  · have HNO := Lib.hid (Nt.ddo_no hok ⟨k, a, b⟩)
    clear hok
    go_wp2
    (try simp only [Exit.inBlock, Exit.then])
    refine bodyPost_ret (v := .tuple #[.agg #[.slice none 0 0, .int .i64 0, .slice none 0 0, .slice none 0 0], .bool false]) ?_ rfl ?_
    · rw [results_cell_tmp rfl]
      simp [asAddr, ret_desk (HR1.out.set4 _ _ _ _)]
    · rw [HNO.out.1, HNO.out.2]
      exact ⟨_, rfl, .inl ⟨rfl, rfl⟩, HK1.out.set4 (by omega) _ _ _ _⟩
  · obtain ⟨e, he, hek⟩ := Nt.dkB_ok hok
    have HE := Lib.hid hek
    have HEI := Lib.hid he
    have HDO := Lib.hid (Nt.ddo_ok hek ⟨k, a, b⟩)
    have HOK2 : Hid (Nt.dkB (Nt.goD e ⟨k, a, b⟩).i = true) := Lib.hid (Nt.dkB_yes (Nt.goD_ok hek _))
    have HX2 : Hid (De w1 (.agg #[.slice xa xn xcap, .int .i64 d.now.c, .slice xb xm xcap2, .slice x3 xn3 xcap3]) e.i) := Lib.hid (by rw [← he]; exact HX1.out)
    clear hok he hek r0 r1 r2 r3 f0 f1 f2 f3
    go_wp2_with fail
    refine (deskAfter_any e HE.out k a b _ _ HX2.out).mono ?_
    rintro e' w2 ⟨y2, rfl, hde, hk2⟩
    generalize hg : Nt.goD e ⟨k, a, b⟩ = E2 at *
    generalize ho : (Nt.doD e ⟨k, a, b⟩).isSome = O2 at *
    have HG := Lib.hid (And.intro hg ho)
    clear hg ho
    have HDE := Lib.hid hde
    have HR2 := Lib.hid (HR1.out.stay hk2)
    have HK2 := Lib.hid (HK1.out.trans hk2 (by simp))
    obtain ⟨ya, yn, ycap, yb, ym, ycap2, y3, yn3, ycap3, rfl⟩ := hde.form
    have hka : Kept [] w2 (w2.alloc (.cells #[.slice ya yn ycap, .int .i64 E2.i.now.c, .slice yb ym ycap2, .slice y3 yn3 ycap3] 32)) := (Kept.refl [] w2).alloc _
    have HT3 := Lib.hid (Bk.new w2 32 #[.slice ya yn ycap, .int .i64 E2.i.now.c, .slice yb ym ycap2, .slice y3 yn3 ycap3])
    have HR3 := Lib.hid (HR2.out.stay hka)
    have HK3 := Lib.hid (HK2.out.trans hka (by simp))
    have HDE3 := Lib.hid (HDE.out.stay hka)
    clear hde hk2 hka c0 c1 c2 c3 d0 d1 d2 hzb hzd hzr HB1 HD1 HR1 HK1 HX1 HX2 HR2 HK2 HDE
    obtain ⟨t0, t1, t2, t3⟩ := HT3.out.four
    have hzt := HT3.out.lt
    go_wp2_with fail
    generalize w2.alloc (.cells #[.slice ya yn ycap, .int .i64 E2.i.now.c, .slice yb ym ycap2, .slice y3 yn3 ycap3] 32) = W3 at *
    refine (copiedDesk_any E2.i HOK2.out _ _ 0 HDE3.out.dv).mono ?_
    rintro e' w4 ⟨y4, G, C, r, vs, rfl, hdx, hk4⟩
    have HDX := Lib.hid hdx
    have HR4 := Lib.hid (HR3.out.stay hk4)
    have HK4 := Lib.hid (HK3.out.trans hk4 (by simp))
    have HZ := Lib.hid HR3.out.lt
    have HZ0 := Lib.hid HK3.out.size
    obtain ⟨g1, q1, g2, q2, z3, zn3, zc3, rfl⟩ := hdx.form
    clear hdx hk4 t0 t1 t2 t3 hzt
    obtain ⟨r0, r1, r2, r3⟩ := HR4.out.four
    have f0 := HR4.out.frozen 0
    have f1 := HR4.out.frozen 1
    have f2 := HR4.out.frozen 2
    have f3 := HR4.out.frozen 3
    have hrl := HR4.out.lt
    go_wp2
    (try simp only [Exit.inBlock, Exit.then])
    refine bodyPost_ret (v := .tuple #[.agg #[.slice (some ⟨g1, 0, none⟩) E2.i.now.ns.length q1, .int .i64 E2.i.now.c, .slice (some ⟨g2, 0, none⟩) E2.i.now.ks.length q2, .slice z3 zn3 zc3], .bool O2]) ?_ rfl ?_
    · rw [results_cell_tmp rfl]
      simp [asAddr, ret_desk (HR4.out.set4 _ _ _ _)]
    · rw [HEI.out, HDO.out.1, HDO.out.2]
      exact ⟨_, rfl, .inr ⟨HOK2.out, G, C, r, vs, (HDX.out.kept (Kept.rows4 w4 (w.heap.size + 1 + 1) _ _ _ _) (fun g hg _ => by have := HZ.out; simp; omega)).mono HZ0.out⟩, HK4.out.set4 (by omega) _ _ _ _⟩

/-- A slice of deeds, wherever it lies. -/
def Ds (w : World) (v : Value) (ds : List Nt.Dd) : Prop :=
  ∃ (a : Option Addr) (cap : Nat), v = .slice a ds.length cap ∧ ds.length ≤ cap ∧ cap ≤ 9223372036854775807 ∧
    ∀ k, k < ds.length → ∃ g off, a = some ⟨g, off, none⟩ ∧ g < w.heap.size ∧ w.cell? ⟨g, off + k * 3, none⟩ = some (.int .i64 (ds.getD k ⟨0, 0, 0⟩).kind) ∧ w.cell? ⟨g, off + k * 3 + 1, none⟩ = some (.int .i64 (ds.getD k ⟨0, 0, 0⟩).a) ∧ w.cell? ⟨g, off + k * 3 + 2, none⟩ = some (.int .i64 (ds.getD k ⟨0, 0, 0⟩).b)
theorem Ds.stay {w w' : World} {v : Value} {ds : List Nt.Dd} (h : Ds w v ds) (hk : Kept [] w w') : Ds w' v ds := by
  obtain ⟨a, cap, rfl, h1, h2, h3⟩ := h
  refine ⟨a, cap, rfl, h1, h2, fun k hkl => ?_⟩
  obtain ⟨g, off, e, hg, c0, c1, c2⟩ := h3 k hkl
  exact ⟨g, off, e, Nat.lt_of_lt_of_le hg hk.size, (hk.cell (p := ⟨g, off + k * 3, none⟩) hg (by simp)).trans c0, (hk.cell (p := ⟨g, off + k * 3 + 1, none⟩) hg (by simp)).trans c1, (hk.cell (p := ⟨g, off + k * 3 + 2, none⟩) hg (by simp)).trans c2⟩
theorem Dg.ds {w : World} {base : Nat} {v : Value} {ds : List Nt.Dd} (h : Dg w base v ds) : Ds w v ds := by
  have hl : (ds.map d3).length = ds.length := List.length_map ..
  rcases Tg.form h with ⟨rfl, e⟩ | ⟨g, cap, rfl, hb, hg, hc, hm, hcell, _⟩
  · have e2 : ds = [] := by simpa using e
    subst e2
    exact ⟨none, 0, rfl, by simp, by simp, fun k hk => by simp at hk⟩
  · refine ⟨_, cap, by rw [hl], by omega, hm, fun k hk => ⟨g, 0, rfl, hg, ?_⟩⟩
    obtain ⟨c0, c1, c2⟩ := hcell k (by omega)
    rw [d3_at ds hk] at c0 c1 c2
    rw [Nat.zero_add]
    exact ⟨c0, c1, c2⟩
theorem take_dd {ds : List Nt.Dd} {k : Nat} (h : k < ds.length) : ds.take (k + 1) = ds.take k ++ [ds.getD k ⟨0, 0, 0⟩] := by
  rw [List.take_succ_eq_append_getElem h, List.getD_eq_getElem?_getD, List.getElem?_eq_getElem h]; rfl
theorem run_next {e : Nt.Dk} {ds : List Nt.Dd} {k : Nat} (h : k < ds.length) :
    Nt.runD e (ds.take (k + 1)) = Nt.goD (Nt.runD e (ds.take k)) (ds.getD k ⟨0, 0, 0⟩) ∧ Nt.cntD e (ds.take (k + 1)) = Nt.cntD e (ds.take k) + if (Nt.doD (Nt.runD e (ds.take k)) (ds.getD k ⟨0, 0, 0⟩)).isSome then 1 else 0 := by
  rw [take_dd h, Nt.runD_append, Nt.cntD_append]
  exact ⟨rfl, rfl⟩

set_option maxHeartbeats 4000000 in
set_option maxRecDepth 100000 in
theorem deskAfterAll_any (e : Nt.Dk) (he : Nt.DkOk e) (ds : List Nt.Dd) (hds : ds.length ≤ 2000000) (w : World) (x v : Value) (h : De w x e.i) (hv : Ds w v ds) :
    Calls Try.prog 68 #[x, v] w fun e' w' => ∃ y, e' = .returned (.tuple #[y, .int .i64 ((Nt.cntD e ds : Nat) : Int)]) ∧ De w' y (Nt.runD e ds).i ∧ Kept [] w w' := by
  have HE := Lib.hid he
  obtain ⟨n, hn⟩ : ∃ n, n = ds.length := ⟨_, rfl⟩
  have HN := Lib.hid hn
  have HNEXT := Lib.hid (fun k (hk : k < n) => run_next (e := e) (ds := ds) (k := k) (by omega))
  have HCL := Lib.hid (fun k => Nt.cntD_le e (ds.take k))
  have HV := Lib.hid hv
  obtain ⟨av, vcap, rfl, hvc, hvm, hvp⟩ := hv
  rw [← hn] at HV hvc hvp hds
  have HVP := Lib.hid hvp
  obtain ⟨xa, xn, xcap, xb, xm, xcap2, x3, xn3, xcap3, rfl⟩ := h.form
  obtain ⟨hk0, hb0, hr0⟩ := two_new w 32 32 #[.slice xa xn xcap, .int .i64 e.i.now.c, .slice xb xm xcap2, .slice x3 xn3 xcap3] #[.slice none 0 0, .int .i64 0, .slice none 0 0, .slice none 0 0]
  have HB := Lib.hid hb0
  have HR := Lib.hid hr0
  have HK0 := Lib.hid hk0
  have HX0 := Lib.hid (h.stay hk0)
  rw [← hn]
  clear hk0 hb0 hr0 h he hvp hn
  have hn63 : n ≤ 9223372036854775807 := by omega
  go_enter Try.func68, Try.ntmps68
  go_wp2
  generalize ((w.alloc (.cells #[.slice xa xn xcap, .int .i64 e.i.now.c, .slice xb xm xcap2, .slice x3 xn3 xcap3] 32)).alloc (.cells #[.slice none 0 0, .int .i64 0, .slice none 0 0, .slice none 0 0] 32)) = W0 at *
  go_loopw [6, 13] (fun c i wr => ∃ (k : Nat) (y : Value) (ya yb y3 : Option Addr) (yn ycap ym ycap2 yn3 ycap3 : Nat) (E : Nt.Dk), k ≤ n ∧ i = .int .i64 k ∧ c = .int .i64 ((Nt.cntD e (ds.take k) : Nat) : Int) ∧ E = Nt.runD e (ds.take k) ∧
      Bk wr w.heap.size 32 #[.slice ya yn ycap, .int .i64 E.i.now.c, .slice yb ym ycap2, .slice y3 yn3 ycap3] ∧ y = .agg #[.slice ya yn ycap, .int .i64 E.i.now.c, .slice yb ym ycap2, .slice y3 yn3 ycap3] ∧ De wr y E.i ∧
      Bk wr (w.heap.size + 1) 32 #[.slice none 0 0, .int .i64 0, .slice none 0 0, .slice none 0 0] ∧ Kept [] w wr) (fun _ i _ => n - (intOf i).toNat)
  case atStart => exact ⟨0, _, xa, xb, x3, xn, xcap, xm, xcap2, xn3, xcap3, e, Nat.zero_le _, rfl, rfl, rfl, HB.out, rfl, HX0.out, HR.out, HK0.out⟩
  case round =>
    clear HB HR HK0 HX0
    obtain ⟨k, y, ya, yb, y3, yn, ycap, ym, ycap2, yn3, ycap3, E, hk, rfl, rfl, hE, hbk, hy, hde, hrk, hkept⟩ := hrel
    subst hy
    have HDE := Lib.hid hde
    have HBK := Lib.hid hbk
    have HRK := Lib.hid hrk
    have HK := Lib.hid hkept
    have HEE := Lib.hid hE
    have HEO : Hid (Nt.DkOk E) := Lib.hid (by rw [hE]; exact Nt.runD_ok HE.out _)
    have hcl := HCL.out k
    have hcl2 : Nt.cntD e (ds.take k) ≤ 2000000 := Nat.le_trans hcl (by rw [List.length_take, ← HN.out]; omega)
    clear hde hrk hkept hcl
    by_cases hlt : k < n
    · obtain ⟨HNX1, HNX2⟩ := HNEXT.out k hlt
      rw [← hE] at HNX1 HNX2
      obtain ⟨g, off, rfl, hg, q0, q1, q2⟩ := HVP.out k hlt
      have s0 := (HK.out.cell (p := ⟨g, off + k * 3, none⟩) hg (by simp)).trans q0
      have s1 := (HK.out.cell (p := ⟨g, off + k * 3 + 1, none⟩) hg (by simp)).trans q1
      have s2 := (HK.out.cell (p := ⟨g, off + k * 3 + 2, none⟩) hg (by simp)).trans q2
      generalize ds.getD k ⟨0, 0, 0⟩ = dd at *
      obtain ⟨dk, da, db⟩ := dd
      simp only at s0 s1 s2
      have H1 := Lib.hid HNX1
      have H2 := Lib.hid HNX2
      have hka : Kept [] wr (wr.alloc (.cells #[.int .i64 dk, .int .i64 da, .int .i64 db] 40)) := (Kept.refl [] wr).alloc _
      have HD5 := Lib.hid (Bk.new wr 40 #[.int .i64 dk, .int .i64 da, .int .i64 db])
      have HB5 := Lib.hid (HBK.out.stay hka)
      have HR5 := Lib.hid (HRK.out.stay hka)
      have HK5 := Lib.hid (HK.out.trans hka (by simp))
      have HDE5 := Lib.hid (HDE.out.stay hka)
      obtain ⟨c0, c1, c2, c3⟩ := HB5.out.four
      obtain ⟨d0, d1, d2⟩ := HD5.out.three
      have hzb := HB5.out.lt
      have hzd := HD5.out.lt
      clear hka q0 q1 q2 HNX1 HNX2 hbk HDE hE
      generalize hcn : Nt.cntD e (ds.take k) = cn at *
      have HCN := Lib.hid hcn
      clear hcn
      go_wp2_with fail
      generalize wr.alloc (.cells #[.int .i64 dk, .int .i64 da, .int .i64 db] 40) = W5 at *
      refine (deskAfter_any E HEO.out dk da db _ _ HDE5.out).mono ?_
      rintro e' w6 ⟨y6, rfl, hde6, hk6⟩
      have HDE6 := Lib.hid hde6
      obtain ⟨za, zn, zcap, zb, zm, zcap2, z3, zn3, zcap3, rfl⟩ := hde6.form
      generalize hE6 : Nt.goD E ⟨dk, da, db⟩ = E6 at *
      have HE6 := Lib.hid hE6
      clear hE6
      have hka : Kept [] w6 (w6.alloc (.cells #[.slice za zn zcap, .int .i64 E6.i.now.c, .slice zb zm zcap2, .slice z3 zn3 zcap3] 32)) := (Kept.refl [] w6).alloc _
      have HT7 := Lib.hid (Bk.new w6 32 #[.slice za zn zcap, .int .i64 E6.i.now.c, .slice zb zm zcap2, .slice z3 zn3 zcap3])
      have HB7 := Lib.hid ((HB5.out.stay hk6).stay hka)
      have HR7 := Lib.hid ((HR5.out.stay hk6).stay hka)
      have HK7 := Lib.hid ((HK5.out.trans hk6 (by simp)).trans hka (by simp))
      have HDE7 := Lib.hid (HDE6.out.stay hka)
      have HDE7o := Lib.hid ((HDE5.out.stay hk6).stay hka)
      clear hde6 hk6 hka c0 c1 c2 c3 d0 d1 d2 hzb hzd HDE6 HB5 HR5 HK5 HDE5 HD5 s0 s1 s2
      obtain ⟨t0, t1, t2, t3⟩ := HT7.out.four
      obtain ⟨c0, c1, c2, c3⟩ := HB7.out.four
      have f0 := HB7.out.frozen 0
      have f1 := HB7.out.frozen 1
      have f2 := HB7.out.frozen 2
      have f3 := HB7.out.frozen 3
      have hzt := HT7.out.lt
      have hzb := HB7.out.lt
      cases hdone : (Nt.doD E ⟨dk, da, db⟩).isSome
      · rw [hdone] at H2
        have HSAME : Hid (E6 = E) := Lib.hid (by
          rw [← HE6.out]
          unfold Nt.goD
          cases e2 : Nt.doD E ⟨dk, da, db⟩ with
          | none => rfl
          | some z => rw [e2] at hdone; simp at hdone)
        clear hdone
        go_wp2
        go_roundw
        case rel => exact ⟨k + 1, _, ya, yb, y3, yn, ycap, ym, ycap2, yn3, ycap3, E, by omega, by go_num, by rw [H2.out]; go_num, by rw [H1.out, HSAME.out], HB7.out, rfl, HDE7o.out, HR7.out, HK7.out⟩
        case measure => simp [intOf]; omega
      · rw [hdone] at H2
        clear hdone
        go_wp2
        go_roundw
        case rel =>
          have hk4 := Kept.rows4 (w6.alloc (.cells #[.slice za zn zcap, .int .i64 E6.i.now.c, .slice zb zm zcap2, .slice z3 zn3 zcap3] 32)) w.heap.size (.slice za zn zcap) (.int .i64 E6.i.now.c) (.slice zb zm zcap2) (.slice z3 zn3 zcap3)
          exact ⟨k + 1, _, za, zb, z3, zn, zcap, zm, zcap2, zn3, zcap3, E6, by omega, by go_num, by rw [H2.out]; go_num, H1.out.symm, HB7.out.set4 _ _ _ _, rfl, HDE7.out.alien hk4 (Alien.one HB7.out), HR7.out.kept hk4 (by simp), HK7.out.set4 (Nat.le_refl _) _ _ _ _⟩
        case measure => simp [intOf]; omega
    · have hk' : k = n := by omega
      have HT : Hid (ds.take k = ds) := Lib.hid (by rw [hk', HN.out, List.take_length])
      rw [HT.out] at HEE
      obtain ⟨c0, c1, c2, c3⟩ := HBK.out.four
      obtain ⟨r0, r1, r2, r3⟩ := HRK.out.four
      have f0 := HRK.out.frozen 0
      have f1 := HRK.out.frozen 1
      have f2 := HRK.out.frozen 2
      have f3 := HRK.out.frozen 3
      have hzb := HBK.out.lt
      have hzr := HRK.out.lt
      rw [HT.out]
      clear hbk hE hk'
      go_wp2
      (try simp only [Exit.inBlock, Exit.then])
      refine bodyPost_ret (v := .tuple #[.agg #[.slice ya yn ycap, .int .i64 E.i.now.c, .slice yb ym ycap2, .slice y3 yn3 ycap3], .int .i64 ((Nt.cntD e ds : Nat) : Int)]) ?_ rfl ?_
      · rw [results_cell_tmp rfl]
        simp [asAddr, ret_desk (HRK.out.set4 _ _ _ _)]
      · rw [← HEE.out]
        exact ⟨_, rfl, HDE.out.alien (Kept.rows4 wr (w.heap.size + 1) _ _ _ _) (Alien.one HRK.out), HK.out.set4 (by omega) _ _ _ _⟩
end Go.Proofs.Ytofgfhfdmkcmcaa
