/-
  Runs of deeds at a desk, by the model.
-/
import Derived.Test.YtofgfhfdmkcmcaaPO2
import Derived.Test.YtofgfhfdmkcmcaaIPC
namespace Go.Proofs.Ytofgfhfdmkcmcaa
open Go.RowKit

set_option maxHeartbeats 4000000 in
set_option maxRecDepth 100000 in
theorem sRun_any (e : Nt.Dk) (he : Nt.DkOk e) (ds : List Nt.Dd) (hds : ds.length ≤ 2000000) (w : World) (x v : Value) (h : De w x e.i) (hv : Ds w v ds) :
    Calls Try.prog 69 #[x, v] w fun e' w' => ∃ y, e' = .returned (.tuple #[y, .int .i64 ((Nt.cntD e ds : Nat) : Int)]) ∧ De w' y (Nt.runD e ds).i ∧ Kept [] w w' := by
  have HE := Lib.hid he
  have HOK := Lib.hid (Nt.dkB_yes he)
  obtain ⟨n, hn⟩ : ∃ n, n = ds.length := ⟨_, rfl⟩
  have HN := Lib.hid hn
  have HNEXT := Lib.hid (fun k (hk : k < n) => run_next (e := e) (ds := ds) (k := k) (by omega))
  have HCL := Lib.hid (fun k => Nt.cntD_le e (ds.take k))
  obtain ⟨av, vcap, rfl, hvc, hvm, hvp⟩ := hv
  rw [← hn] at hvc hvp hds
  have HVP := Lib.hid hvp
  obtain ⟨xa, xn, xcap, xb, xm, xcap2, x3, xn3, xcap3, rfl⟩ := h.form
  obtain ⟨hk0, hb0, hr0⟩ := two_new w 32 32 #[.slice xa xn xcap, .int .i64 e.i.now.c, .slice xb xm xcap2, .slice x3 xn3 xcap3] #[.slice none 0 0, .int .i64 0, .slice none 0 0, .slice none 0 0]
  have HB := Lib.hid hb0
  have HR := Lib.hid hr0
  have HK0 := Lib.hid hk0
  have HX0 := Lib.hid (h.stay hk0)
  obtain ⟨c0, c1, c2, c3⟩ := hb0.four
  have hzb := hb0.lt
  rw [← hn]
  clear hk0 hb0 hr0 h he hvp hn
  have hn63 : n ≤ 9223372036854775807 := by omega
  go_enter Try.func69, Try.ntmps69
  go_wp2_with fail
  generalize ((w.alloc (.cells #[.slice xa xn xcap, .int .i64 e.i.now.c, .slice xb xm xcap2, .slice x3 xn3 xcap3] 32)).alloc (.cells #[.slice none 0 0, .int .i64 0, .slice none 0 0, .slice none 0 0] 32)) = W0 at *
  refine (sCopy_any e.i HOK.out _ _ 0 HX0.out.dv).mono ?_
  rintro e' w1 ⟨y1, rfl, hdv1, hk1⟩
  have HDE1 := Lib.hid hdv1.de
  obtain ⟨ga, gn, gcap, gb, gm, gcap2, g3, gn3, gcap3, rfl⟩ := hdv1.de.form
  have hka : Kept [] w1 (w1.alloc (.cells #[.slice ga gn gcap, .int .i64 e.i.now.c, .slice gb gm gcap2, .slice g3 gn3 gcap3] 32)) := (Kept.refl [] w1).alloc _
  have HT2 := Lib.hid (Bk.new w1 32 #[.slice ga gn gcap, .int .i64 e.i.now.c, .slice gb gm gcap2, .slice g3 gn3 gcap3])
  have HR2 := Lib.hid ((HR.out.stay hk1).stay hka)
  have HK2 := Lib.hid ((HK0.out.trans hk1 (by simp)).trans hka (by simp))
  have HDE2 := Lib.hid (HDE1.out.stay hka)
  have HZ1 : Hid (w.heap.size + 1 < w1.heap.size) := Lib.hid (HR.out.stay hk1).lt
  clear hdv1 hk1 hka c0 c1 c2 c3 hzb HB HR HK0 HX0 HDE1
  go_wp2_with fail
  generalize w1.alloc (.cells #[.slice ga gn gcap, .int .i64 e.i.now.c, .slice gb gm gcap2, .slice g3 gn3 gcap3] 32) = W2 at *
  go_loopw [7, 8] (fun c i wr => ∃ (k : Nat) (y : Value) (ya yb y3 : Option Addr) (yn ycap ym ycap2 yn3 ycap3 : Nat) (E : Nt.Dk), k ≤ n ∧ i = .int .i64 k ∧ c = .int .i64 ((Nt.cntD e (ds.take k) : Nat) : Int) ∧ E = Nt.runD e (ds.take k) ∧
      Bk wr w1.heap.size 32 #[.slice ya yn ycap, .int .i64 E.i.now.c, .slice yb ym ycap2, .slice y3 yn3 ycap3] ∧ y = .agg #[.slice ya yn ycap, .int .i64 E.i.now.c, .slice yb ym ycap2, .slice y3 yn3 ycap3] ∧ De wr y E.i ∧
      Bk wr (w.heap.size + 1) 32 #[.slice none 0 0, .int .i64 0, .slice none 0 0, .slice none 0 0] ∧ Kept [] w wr) (fun _ i _ => n - (intOf i).toNat)
  case atStart => exact ⟨0, _, ga, gb, g3, gn, gcap, gm, gcap2, gn3, gcap3, e, Nat.zero_le _, rfl, rfl, rfl, HT2.out, rfl, HDE2.out, HR2.out, HK2.out⟩
  case round =>
    clear HT2 HR2 HK2 HDE2
    obtain ⟨k, y, ya, yb, y3, yn, ycap, ym, ycap2, yn3, ycap3, E, hk, rfl, rfl, hE, hbk, hy, hde, hrk, hkept⟩ := hrel
    subst hy
    have HDE := Lib.hid hde
    have HBK := Lib.hid hbk
    have HRK := Lib.hid hrk
    have HK := Lib.hid hkept
    have HEE := Lib.hid hE
    have HEO : Hid (Nt.DkOk E) := Lib.hid (by rw [hE]; exact Nt.runD_ok HE.out _)
    have hcl := HCL.out k
    have hcl2 : Nt.cntD e (ds.take k) ≤ 2000000 := Nat.le_trans hcl (by rw [List.length_take, ← HN.out]; omega)
    clear hde hrk hkept hcl
    by_cases hlt : k < n
    · obtain ⟨HNX1, HNX2⟩ := HNEXT.out k hlt
      rw [← hE] at HNX1 HNX2
      obtain ⟨g, off, rfl, hg, q0, q1, q2⟩ := HVP.out k hlt
      have s0 := (HK.out.cell (p := ⟨g, off + k * 3, none⟩) hg (by simp)).trans q0
      have s1 := (HK.out.cell (p := ⟨g, off + k * 3 + 1, none⟩) hg (by simp)).trans q1
      have s2 := (HK.out.cell (p := ⟨g, off + k * 3 + 2, none⟩) hg (by simp)).trans q2
      generalize ds.getD k ⟨0, 0, 0⟩ = dd at *
      obtain ⟨dk, da, db⟩ := dd
      simp only at s0 s1 s2
      have H1 := Lib.hid HNX1
      have H2 := Lib.hid HNX2
      obtain ⟨c0, c1, c2, c3⟩ := HBK.out.four
      have hzb := HBK.out.lt
      have s0d : wr.drew.cell? ⟨g, off + k * 3, none⟩ = some (.int .i64 dk) := s0
      have s1d : wr.drew.cell? ⟨g, off + k * 3 + 1, none⟩ = some (.int .i64 da) := s1
      have s2d : wr.drew.cell? ⟨g, off + k * 3 + 2, none⟩ = some (.int .i64 db) := s2
      have c0d : wr.drew.cell? ⟨w1.heap.size, 0, none⟩ = some (.slice ya yn ycap) := c0
      have c1d : wr.drew.cell? ⟨w1.heap.size, 1, none⟩ = some (.int .i64 E.i.now.c) := c1
      have c2d : wr.drew.cell? ⟨w1.heap.size, 2, none⟩ = some (.slice yb ym ycap2) := c2
      have c3d : wr.drew.cell? ⟨w1.heap.size, 3, none⟩ = some (.slice y3 yn3 ycap3) := c3
      have HGL := Lib.hid (Nat.lt_of_lt_of_le hg HK.out.size)
      have HSB : Hid (∀ w', Kept [] wr w' → w'.cell? ⟨w1.heap.size, 0, none⟩ = some (.slice ya yn ycap) ∧ w'.cell? ⟨w1.heap.size, 1, none⟩ = some (.int .i64 E.i.now.c) ∧ w'.cell? ⟨w1.heap.size, 2, none⟩ = some (.slice yb ym ycap2) ∧ w'.cell? ⟨w1.heap.size, 3, none⟩ = some (.slice y3 yn3 ycap3) ∧ w'.cell? ⟨g, off + k * 3, none⟩ = some (.int .i64 dk) ∧ w'.cell? ⟨g, off + k * 3 + 1, none⟩ = some (.int .i64 da) ∧ w'.cell? ⟨g, off + k * 3 + 2, none⟩ = some (.int .i64 db)) := Lib.hid (fun w' k' => ⟨(HBK.out.stay k').four.1, (HBK.out.stay k').four.2.1, (HBK.out.stay k').four.2.2.1, (HBK.out.stay k').four.2.2.2, (k'.cell (p := ⟨g, off + k * 3, none⟩) HGL.out (by simp)).trans s0, (k'.cell (p := ⟨g, off + k * 3 + 1, none⟩) HGL.out (by simp)).trans s1, (k'.cell (p := ⟨g, off + k * 3 + 2, none⟩) HGL.out (by simp)).trans s2⟩)
      have HCALL : Hid (∀ W, Kept [] wr W → Calls Try.prog 28 #[.agg #[.slice ya yn ycap, .int .i64 E.i.now.c, .slice yb ym ycap2, .slice y3 yn3 ycap3], .agg #[.int .i64 dk, .int .i64 da, .int .i64 db]] W fun e' w' => ∃ za zn zcap zb zm zcap2 z3 zn3 zcap3, e' = .returned (.tuple #[.agg #[.slice za zn zcap, .int .i64 (Nt.goD E ⟨dk, da, db⟩).i.now.c, .slice zb zm zcap2, .slice z3 zn3 zcap3], .bool (Nt.doD E ⟨dk, da, db⟩).isSome]) ∧ Hid (De w' (.agg #[.slice za zn zcap, .int .i64 (Nt.goD E ⟨dk, da, db⟩).i.now.c, .slice zb zm zcap2, .slice z3 zn3 zcap3]) (Nt.goD E ⟨dk, da, db⟩).i) ∧ Kept [] W w' ∧ Kept [] wr w') := Lib.hid (fun W k' => (sDeskDo_any E.i dk da db W _ (HDE.out.stay k')).mono (by
        rintro e' w' ⟨y, rfl, hde, hk⟩
        obtain ⟨g1, g2⟩ := Nt.ddo_ok HEO.out ⟨dk, da, db⟩
        rw [g1] at hde
        rw [g2]
        obtain ⟨za, zn, zcap, zb, zm, zcap2, z3, zn3, zcap3, rfl⟩ := hde.form
        exact ⟨za, zn, zcap, zb, zm, zcap2, z3, zn3, zcap3, rfl, hde, hk, k'.trans hk (by simp)⟩))
      clear s0d s1d s2d c0d c1d c2d c3d
      clear q0 q1 q2 HNX1 HNX2 hbk hE
      generalize hcn : Nt.cntD e (ds.take k) = cn at *
      have HCN := Lib.hid hcn
      clear hcn
      go_wp2_with fail
      go_cut [9, 10] from 13 to 31 (fun u9 u10 wc => ∃ (bp : Nat) (za zb z3 : Option Addr) (zn zcap zm zcap2 zn3 zcap3 : Nat), u9 = .pointer (some ⟨bp, 0, none⟩) ∧ u10 = .bool (Nt.doD E ⟨dk, da, db⟩).isSome ∧ Bk wc bp 32 #[.slice za zn zcap, .int .i64 (Nt.goD E ⟨dk, da, db⟩).i.now.c, .slice zb zm zcap2, .slice z3 zn3 zcap3] ∧ De wc (.agg #[.slice za zn zcap, .int .i64 (Nt.goD E ⟨dk, da, db⟩).i.now.c, .slice zb zm zcap2, .slice z3 zn3 zcap3]) (Nt.goD E ⟨dk, da, db⟩).i ∧ Kept [] wr wc)
      case first =>
        generalize Nt.goD E ⟨dk, da, db⟩ = E6 at *
        generalize (Nt.doD E ⟨dk, da, db⟩).isSome = O6 at *
        go_region_held3 (fun w' => w'.cell? ⟨w1.heap.size, 0, none⟩ = some (.slice ya yn ycap) ∧ w'.cell? ⟨w1.heap.size, 1, none⟩ = some (.int .i64 E.i.now.c) ∧ w'.cell? ⟨w1.heap.size, 2, none⟩ = some (.slice yb ym ycap2) ∧ w'.cell? ⟨w1.heap.size, 3, none⟩ = some (.slice y3 yn3 ycap3) ∧ w'.cell? ⟨g, off + k * 3, none⟩ = some (.int .i64 dk) ∧ w'.cell? ⟨g, off + k * 3 + 1, none⟩ = some (.int .i64 da) ∧ w'.cell? ⟨g, off + k * 3 + 2, none⟩ = some (.int .i64 db))
          ((refine HSB.out _ ?_; repeat (first | exact Kept.refl _ _ | assumption | apply Kept.alloc | apply Kept.drew | (refine Kept.setCell ?_ (.inr (by first | assumption | (simp; done) | (simp; omega) | omega)) _))))
          (first
          | (go_simp; go_at_call 28; refine (HCALL.out _ (by repeat (first | exact Kept.refl _ _ | assumption | apply Kept.alloc | apply Kept.drew))).mono ?_; rintro e' w6 ⟨za, zn, zcap, zb, zm, zcap2, z3, zn3, zcap3, rfl, HZ6, kk6, k6⟩; have z6 := k6.size; (first | (have hp6 : Bk w6 wr.heap.size 32 #[.slice none 0 0, .int .i64 0, .slice none 0 0, .slice none 0 0] := Bk.stay (Bk.new wr.drew _ _) kk6; have HP6 := Lib.hid hp6; obtain ⟨e0, e1, e2, e3⟩ := hp6.four; have f0 := hp6.frozen 0; have f1 := hp6.frozen 1; have f2 := hp6.frozen 2; have f3 := hp6.frozen 3; have hl6 := hp6.lt; clear hp6) | skip); clear kk6))
        · go_wp2_with fail
          go_meet
          have hka : Kept [] w6 (w6.alloc (.cells #[.slice za zn zcap, .int .i64 E6.i.now.c, .slice zb zm zcap2, .slice z3 zn3 zcap3] 32)) := (Kept.refl [] w6).alloc _
          exact ⟨_, za, zb, z3, zn, zcap, zm, zcap2, zn3, zcap3, rfl, rfl, Bk.new w6 _ _, HZ6.out.stay hka, k6.alloc _⟩
        · go_wp2_with fail
          go_meet
          have hk4 := Kept.rows4 w6 wr.heap.size (.slice za zn zcap) (.int .i64 E6.i.now.c) (.slice zb zm zcap2) (.slice z3 zn3 zcap3)
          exact ⟨_, za, zb, z3, zn, zcap, zm, zcap2, zn3, zcap3, rfl, rfl, HP6.out.set4 _ _ _ _, HZ6.out.alien hk4 (Alien.one HP6.out), k6.set4 (Nat.le_refl _) _ _ _ _⟩
      case rest =>
        obtain ⟨bp, za, zb, z3, zn, zcap, zm, zcap2, zn3, zcap3, rfl, rfl, hbc, hdc, hkc⟩ := hcut
        generalize hE6 : Nt.goD E ⟨dk, da, db⟩ = E6 at *
        have HE6 := Lib.hid hE6
        clear hE6
        have HT7 := Lib.hid hbc
        have HDE7 := Lib.hid hdc
        have HKC := Lib.hid hkc
        have HB7 := Lib.hid (HBK.out.stay hkc)
        have HR7 := Lib.hid (HRK.out.stay hkc)
        have HK7 := Lib.hid (HK.out.trans hkc (by simp))
        have HDE7o := Lib.hid (HDE.out.stay hkc)
        clear c0 c1 c2 c3 hzb s0 s1 s2 hbc hdc hkc HSB HCALL
        obtain ⟨t0, t1, t2, t3⟩ := HT7.out.four
        obtain ⟨c0, c1, c2, c3⟩ := HB7.out.four
        have f0 := HB7.out.frozen 0
        have f1 := HB7.out.frozen 1
        have f2 := HB7.out.frozen 2
        have f3 := HB7.out.frozen 3
        have hzt := HT7.out.lt
        have hzb := HB7.out.lt
        have HW1 : Hid (w.heap.size ≤ w1.heap.size) := Lib.hid (by have := HZ1.out; omega)
        cases hdone : (Nt.doD E ⟨dk, da, db⟩).isSome
        · rw [hdone] at H2
          have HSAME : Hid (E6 = E) := Lib.hid (by
            rw [← HE6.out]
            unfold Nt.goD
            cases e2 : Nt.doD E ⟨dk, da, db⟩ with
            | none => rfl
            | some z => rw [e2] at hdone; simp at hdone)
          clear hdone
          go_wp2
          go_roundw
          case rel => exact ⟨k + 1, _, ya, yb, y3, yn, ycap, ym, ycap2, yn3, ycap3, E, by omega, by go_num, by rw [H2.out]; go_num, by rw [H1.out, HSAME.out], HB7.out, rfl, HDE7o.out, HR7.out, HK7.out⟩
          case measure => simp [intOf]; omega
        · rw [hdone] at H2
          clear hdone
          go_wp2
          go_roundw
          case rel =>
            have hk4 := Kept.rows4 wc w1.heap.size (.slice za zn zcap) (.int .i64 E6.i.now.c) (.slice zb zm zcap2) (.slice z3 zn3 zcap3)
            exact ⟨k + 1, _, za, zb, z3, zn, zcap, zm, zcap2, zn3, zcap3, E6, by omega, by go_num, by rw [H2.out]; go_num, H1.out.symm, HB7.out.set4 _ _ _ _, rfl, HDE7.out.alien hk4 (Alien.one HB7.out), HR7.out.kept hk4 (by have := HZ1.out; simp; omega), HK7.out.set4 HW1.out _ _ _ _⟩
          case measure => simp [intOf]; omega
    · have hk' : k = n := by omega
      have HT : Hid (ds.take k = ds) := Lib.hid (by rw [hk', HN.out, List.take_length])
      rw [HT.out] at HEE
      obtain ⟨c0, c1, c2, c3⟩ := HBK.out.four
      obtain ⟨r0, r1, r2, r3⟩ := HRK.out.four
      have f0 := HRK.out.frozen 0
      have f1 := HRK.out.frozen 1
      have f2 := HRK.out.frozen 2
      have f3 := HRK.out.frozen 3
      have hzb := HBK.out.lt
      have hzr := HRK.out.lt
      rw [HT.out]
      clear hbk hE hk'
      go_wp2
      (try simp only [Exit.inBlock, Exit.then])
      refine bodyPost_ret (v := .tuple #[.agg #[.slice ya yn ycap, .int .i64 E.i.now.c, .slice yb ym ycap2, .slice y3 yn3 ycap3], .int .i64 ((Nt.cntD e ds : Nat) : Int)]) ?_ rfl ?_
      · rw [results_cell_tmp rfl]
        simp [asAddr, ret_desk (HRK.out.set4 _ _ _ _)]
      · rw [← HEE.out]
        exact ⟨_, rfl, HDE.out.alien (Kept.rows4 wr (w.heap.size + 1) _ _ _ _) (Alien.one HRK.out), HK.out.set4 (by omega) _ _ _ _⟩

set_option maxHeartbeats 4000000 in
set_option maxRecDepth 100000 in
theorem sDeskRun_any (d : Nt.Di) (ds : List Nt.Dd) (w : World) (x v : Value) (h : De w x d) (hv : Ds w v ds) :
    Calls Try.prog 32 #[x, v] w fun e' w' => ∃ y, e' = .returned (.tuple #[y, .int .i64 (Nt.drunN d ds)]) ∧ De w' y (Nt.drun d ds) ∧ Kept [] w w' := by
  have HV := Lib.hid hv
  obtain ⟨n, hn⟩ : ∃ n, n = ds.length := ⟨_, rfl⟩
  have HN := Lib.hid hn
  obtain ⟨av, vcap, rfl, hvc, hvm, _⟩ := hv
  rw [← hn] at HV hvc
  have hn63 : n ≤ 9223372036854775807 := by omega
  obtain ⟨xa, xn, xcap, xb, xm, xcap2, x3, xn3, xcap3, rfl⟩ := h.form
  obtain ⟨hk0, hb0, hr0⟩ := two_new w 32 32 #[.slice xa xn xcap, .int .i64 d.now.c, .slice xb xm xcap2, .slice x3 xn3 xcap3] #[.slice none 0 0, .int .i64 0, .slice none 0 0, .slice none 0 0]
  have HB := Lib.hid hb0
  have HR := Lib.hid hr0
  have HK0 := Lib.hid hk0
  have HX0 := Lib.hid (h.stay hk0)
  obtain ⟨c0, c1, c2, c3⟩ := hb0.four
  have hzb := hb0.lt
  rw [← hn]
  clear hk0 hb0 hr0 h hn
  go_enter Try.func32, Try.ntmps32
  go_wp2_with fail
  generalize ((w.alloc (.cells #[.slice xa xn xcap, .int .i64 d.now.c, .slice xb xm xcap2, .slice x3 xn3 xcap3] 32)).alloc (.cells #[.slice none 0 0, .int .i64 0, .slice none 0 0, .slice none 0 0] 32)) = W0 at *
  refine (sDeskOk_any d _ _ 0 HX0.out.dv).mono ?_
  rintro e' w1 ⟨rfl, hk1⟩
  have HB1 := Lib.hid (HB.out.stay hk1)
  have HR1 := Lib.hid (HR.out.stay hk1)
  have HK1 := Lib.hid (HK0.out.trans hk1 (by simp))
  have HX1 := Lib.hid (HX0.out.stay hk1)
  have HV1 := Lib.hid (HV.out.stay HK1.out)
  clear hk1 c0 c1 c2 c3 hzb HB HR HK0 HX0
  obtain ⟨c0, c1, c2, c3⟩ := HB1.out.four
  obtain ⟨r0, r1, r2, r3⟩ := HR1.out.four
  have f0 := HR1.out.frozen 0
  have f1 := HR1.out.frozen 1
  have f2 := HR1.out.frozen 2
  have f3 := HR1.out.frozen 3
  have hzb := HB1.out.lt
  have hzr := HR1.out.lt
  cases hok : Nt.dkB d
  · have HNO := Lib.hid (drun_no1 hok ds)
    clear hok
    go_wp2
    (try simp only [Exit.inBlock, Exit.then])
    refine bodyPost_ret (v := .tuple #[.agg #[.slice none 0 0, .int .i64 0, .slice none 0 0, .slice none 0 0], .int .i64 0]) ?_ rfl ?_
    · rw [results_cell_tmp rfl]
      simp [asAddr, ret_desk (HR1.out.set4 _ _ _ _)]
    · rw [HNO.out.1, HNO.out.2]
      exact ⟨_, rfl, De.zero _, HK1.out.set4 (by omega) _ _ _ _⟩
  · by_cases h40 : n ≤ 40
    · obtain ⟨e, he, hek⟩ := Nt.dkB_ok hok
      have HE := Lib.hid hek
      have HDO := Lib.hid (drun_ok hek (l := ds) (by rw [← HN.out]; exact h40))
      have HOK2 : Hid (Nt.dkB (Nt.runD e ds).i = true) := Lib.hid (Nt.dkB_yes (Nt.runD_ok hek _))
      have HX2 : Hid (De w1 (.agg #[.slice xa xn xcap, .int .i64 d.now.c, .slice xb xm xcap2, .slice x3 xn3 xcap3]) e.i) := Lib.hid (by rw [← he]; exact HX1.out)
      rw [← he] at HDO
      have d40 : decide ((n : Int) > 40) = false := dec_not (by omega)
      have d40' : decide ((40 : Int) < (n : Int)) = false := dec_not (by omega)
      clear hok he hek r0 r1 r2 r3 f0 f1 f2 f3
      go_wp2_with fail
      refine (sRun_any e HE.out ds (by rw [← HN.out]; omega) _ _ _ HX2.out HV1.out).mono ?_
      rintro e' w2 ⟨y2, rfl, hde, hk2⟩
      generalize hg : Nt.runD e ds = E2 at *
      generalize ho : ((Nt.cntD e ds : Nat) : Int) = O2 at *
      have HDE := Lib.hid hde
      have HR2 := Lib.hid (HR1.out.stay hk2)
      have HK2 := Lib.hid (HK1.out.trans hk2 (by simp))
      obtain ⟨ya, yn, ycap, yb, ym, ycap2, y3, yn3, ycap3, rfl⟩ := hde.form
      clear hg ho hde hk2 c0 c1 c2 c3 hzb hzr HB1 HR1 HK1 HX1 HX2 HV1
      obtain ⟨r0, r1, r2, r3⟩ := HR2.out.four
      have f0 := HR2.out.frozen 0
      have f1 := HR2.out.frozen 1
      have f2 := HR2.out.frozen 2
      have f3 := HR2.out.frozen 3
      have hrl := HR2.out.lt
      go_wp2
      (try simp only [Exit.inBlock, Exit.then])
      refine bodyPost_ret (v := .tuple #[.agg #[.slice ya yn ycap, .int .i64 E2.i.now.c, .slice yb ym ycap2, .slice y3 yn3 ycap3], .int .i64 O2]) ?_ rfl ?_
      · rw [results_cell_tmp rfl]
        simp [asAddr, ret_desk (HR2.out.set4 _ _ _ _)]
      · rw [HDO.out.1, HDO.out.2]
        exact ⟨_, rfl, HDE.out.alien (Kept.rows4 w2 (w.heap.size + 1) _ _ _ _) (Alien.one HR2.out), HK2.out.set4 (by omega) _ _ _ _⟩
    · have HNO := Lib.hid (drun_no2 d (l := ds) (by rw [← HN.out]; exact h40))
      have d40 : decide ((n : Int) > 40) = true := dec_of (by omega)
      have d40' : decide ((40 : Int) < (n : Int)) = true := dec_of (by omega)
      clear hok h40
      go_wp2
      (try simp only [Exit.inBlock, Exit.then])
      refine bodyPost_ret (v := .tuple #[.agg #[.slice none 0 0, .int .i64 0, .slice none 0 0, .slice none 0 0], .int .i64 0]) ?_ rfl ?_
      · rw [results_cell_tmp rfl]
        simp [asAddr, ret_desk (HR1.out.set4 _ _ _ _)]
      · rw [HNO.out.1, HNO.out.2]
        exact ⟨_, rfl, De.zero _, HK1.out.set4 (by omega) _ _ _ _⟩
end Go.Proofs.Ytofgfhfdmkcmcaa
