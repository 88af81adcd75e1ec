/-
  Deeds done at a desk, by the model.
  Deeds done at a desk, by the program.
  Runs of deeds at a desk, by the program.
  Runs of deeds at a desk, by the model.
-/
import Derived.Test.YtnajdbnacdnnlaaGreatDoorQE
import Derived.Test.YtnajdbnacdnnlaaGreatDoorQA
namespace Go.Proofs.YtnajdbnacdnnlaaGreatDoor
open Go.RowKit

theorem opAt_lst {l : List Oper} {i : Nat} {o : Oper} (h : l[i]? = some o) : l.toArray[i]? = some o := by simpa using h
theorem went_is {e : Nt.Dk} {d : Nt.Di} {P : Nt.Pi} {x : Nt.Dd} (hd : d = e.i) (hP : P.n.i = P) (h : Nt.doD e x = some ⟨P.n, (e.past ++ [e.now]).drop ((e.past ++ [e.now]).length - 8)⟩) :
    (Nt.goD e x).i = ⟨P, (d.past ++ [d.now]).drop (d.past.length + 1 - 8)⟩ := by
  unfold Nt.goD
  rw [h, hd]
  show (⟨P.n.i, ((e.past ++ [e.now]).drop ((e.past ++ [e.now]).length - 8)).map Nt.Pl.i⟩ : Nt.Di) = ⟨P, (e.past.map Nt.Pl.i ++ [e.now.i]).drop ((e.past.map Nt.Pl.i).length + 1 - 8)⟩
  have hl : (e.past ++ [e.now]).length = (e.past.map Nt.Pl.i).length + 1 := by simp
  rw [hP, hl, List.map_drop, List.map_append]; rfl
theorem went_de {w9 wf : World} {rows : List Nat} {x y r : Value} {P : Nt.Pi} {ps : List Nt.Pi} (hk : Kept rows w9 wf) (ha : Alien w9 rows) (hp : Pv w9 0 (.agg #[x, .int .i64 P.c, y]) P) (hr : Ps w9 0 r ps) (ht : Pt w9 r) : De wf (.agg #[x, .int .i64 P.c, y, r]) ⟨P, ps⟩ := by
  obtain ⟨x1, x2, ex, hx1, hx2⟩ := hp
  simp only [Value.agg.injEq] at ex
  have ex1 := congrArg (fun z => z[0]?) ex
  have ex2 := congrArg (fun z => z[2]?) ex
  simp at ex1 ex2
  subst ex1; subst ex2
  exact ⟨_, _, _, rfl, hx1.alien hk ha, hx2.alien hk ha, hr.alien ht hk ha, ht.alien hk ha⟩
/-- The text of a place is not that of the place of a desk. -/
def ptxtN (P : Nt.Pi) (e : Nt.Dk) : Prop := Nt.ptxt P ≠ e.now.t
/-- Two deeds held against each other. -/
theorem deed_eq (k a b k' a' b' : Int) (w : World) : (binOp .eql 41 (.agg #[.int .i64 k, .int .i64 a, .int .i64 b]) (.agg #[.int .i64 k', .int .i64 a', .int .i64 b'])).run Tryz.prog w = .ok (.bool (decide (k = k' ∧ a = a' ∧ b = b'))) w := by
  by_cases h1 : k = k' <;> by_cases h2 : a = a' <;> by_cases h3 : b = b' <;> go_simp
theorem Alien.two {w : World} {g j : Nat} {cs ds : Array Value} (h : Bk w g 33 cs) (h' : Bk w j 33 ds) : Alien w [g, j] := fun i hi => by
  rcases List.mem_cons.1 hi with rfl | hi
  · exact ⟨cs, _, h, by decide, by decide⟩
  · have e : i = j := by simpa using hi
    subst e
    exact ⟨ds, _, h', by decide, by decide⟩
/-- What is done by a deed that does not take back. -/
theorem doD_map {e : Nt.Dk} (hf : e.past.length ≤ 8) {D : Nt.Dd} (h : ¬ ((D.kind = 4 ∧ D.a = 0 ∧ D.b = 0) ∧ 0 < e.past.length)) : Nt.doD e D = (Nt.made e.now D).map fun p => ⟨p, (e.past ++ [e.now]).drop ((e.past ++ [e.now]).length - 8)⟩ := by
  obtain ⟨k, a, b⟩ := D
  by_cases h4 : k = 4
  · subst h4
    have hm : Nt.made e.now ⟨4, a, b⟩ = none := by unfold Nt.made; simp
    rw [hm]
    by_cases hab : a = 0 ∧ b = 0
    · obtain ⟨rfl, rfl⟩ := hab
      have h0 : e.past = [] := Classical.byContradiction fun hne => h ⟨⟨rfl, rfl, rfl⟩, List.length_pos_iff.2 hne⟩
      rw [Nt.doD_four, h0]; rfl
    · unfold Nt.doD
      rw [if_neg (fun h => hab ⟨h.2.1, h.2.2⟩), hm]; rfl
  · cases hm : Nt.made e.now ⟨k, a, b⟩ with
    | none => rw [Nt.doD_none h4 hm]; rfl
    | some p => rw [Nt.doD_some hf h4 hm]; rfl

theorem Tg.cut {T : TypeId} {w : World} {base n cap : Nat} {a : Option Addr} {xs : List (Value × Value × Value)} (h : Tg T w base (.slice a n cap) xs) (m : Nat) (hm : m ≤ xs.length) : Tg T w base (.slice a m cap) (xs.take m) := by
  have hl : (xs.take m).length = m := by rw [List.length_take]; omega
  have ht3 : (tri xs).take (m * 3) = tri (xs.take m) := by
    have e : tri xs = tri (xs.take m) ++ tri (xs.drop m) := by rw [← tri_append, List.take_append_drop]
    rw [e, List.take_left' (by rw [tri_length, hl])]
  rcases h.2 with ⟨e, h0⟩ | ⟨g, cap', cur, e, hb, hg, hc, hmx, hs, ht⟩
  · simp only [Value.slice.injEq] at e
    obtain ⟨rfl, _, rfl⟩ := e
    have hm0 : m = 0 := by omega
    subst hm0
    exact Tg.nil _ _ _
  · simp only [Value.slice.injEq] at e
    obtain ⟨rfl, rfl, rfl⟩ := e
    refine ⟨by rw [tri_length], .inr ⟨g, cap, cur, by rw [hl], hb, hg, by omega, hmx, hs, ?_⟩⟩
    rw [hl, ← ht3, ← ht, List.take_take, Nat.min_eq_left (by omega)]
theorem Pm.cut {w : World} {base n cap : Nat} {a : Option Addr} {ps : List Nt.Pi} (h : Pm w base (.slice a n cap) ps) (m : Nat) (hm : m ≤ ps.length) : Pm w base (.slice a m cap) (ps.take m) := by
  obtain ⟨vs, h1, h2, h3⟩ := h
  have hl : (ps.take m).length = m := by rw [List.length_take]; omega
  refine ⟨vs.take m, h1.cut m (by omega), by rw [List.length_take, List.length_take, h2], fun k hk => ?_⟩
  have e1 : piAt (ps.take m) k = piAt ps k := by unfold piAt; rw [List.getD_eq_getElem?_getD, List.getElem?_take, if_pos (by omega), ← List.getD_eq_getElem?_getD]
  have e2 : at3 (vs.take m) k = at3 vs k := by unfold at3; rw [List.getD_eq_getElem?_getD, List.getElem?_take, if_pos (by omega), ← List.getD_eq_getElem?_getD]
  rw [e1, e2]
  exact h3 k (by omega)
theorem Pm.mono {w : World} {base base' : Nat} {v : Value} {ps : List Nt.Pi} (h : Pm w base v ps) (hb : base' ≤ base) : Pm w base' v ps := by
  obtain ⟨vs, h1, h2, h3⟩ := h
  exact ⟨vs, h1.mono hb, h2, h3⟩
theorem Pm.alien {w w' : World} {base : Nat} {v : Value} {ps : List Nt.Pi} {rows : List Nat} (h : Pm w base v ps) (hk : Kept rows w w') (ha : Alien w rows) : Pm w' base v ps := by
  obtain ⟨vs, h1, h2, h3⟩ := h
  refine ⟨vs, h1.kept hk (fun g hg hm => ?_), h2, fun k hkl => ?_⟩
  · obtain ⟨cs, T, e1, _, e2⟩ := ha g hm
    rcases h1.2 with ⟨rfl, _⟩ | ⟨g1, c1, cur1, rfl, _, h4, _⟩
    · simp [Value.ownBlock] at hg
    · simp [Value.ownBlock] at hg
      subst hg
      rw [e1] at h4
      exact e2 (Obj.cells.inj (Option.some.inj h4)).2.1
  · obtain ⟨x, y, e, hx, hy⟩ := h3 k hkl
    exact ⟨x, y, e, hx.alien hk ha, hy.alien hk ha⟩
theorem Po.pm {w : World} {base : Nat} {v : Value} {ps : List Nt.Pi} (h : Po w base v ps) : Pm w base v ps := by
  obtain ⟨vs, h1, h2, h3⟩ := h
  refine ⟨vs, h1, h2, fun k hk => ?_⟩
  obtain ⟨x, y, e, hx, hy⟩ := h3 k hk
  exact ⟨x, y, e, hx.mono (Nat.zero_le _), hy.mono (Nat.zero_le _)⟩
/-- A desk's row of before lies in memory of its own. -/
def Pw (w : World) (base : Nat) (y : Value) (ps : List Nt.Pi) : Prop := ∃ v c u r, y = .agg #[v, c, u, r] ∧ Pm w base r ps
/-- The places before lie in a block that is not older than 'base'. -/
def Born (base : Nat) (y : Value) : Prop := ∃ (v c u : Value) (a : Option Addr) (n cap : Nat), y = .agg #[v, c, u, .slice a n cap] ∧ ∀ p, a = some p → base ≤ p.block

set_option maxHeartbeats 4000000 in
set_option maxRecDepth 100000 in
theorem sDeskDoB_any (d : Nt.Di) (k a b : Int) (w : World) (x : Value) (h : De w x d) :
    Calls Tryz.prog 76 #[x, .agg #[.int .i64 k, .int .i64 a, .int .i64 b]] w fun e' w' => ∃ y, e' = .returned (.tuple #[y, .bool (Nt.ddoB d ⟨k, a, b⟩)]) ∧ De w' y (Nt.ddo d ⟨k, a, b⟩) ∧ Kept [] w w' ∧ Born w.heap.size y ∧ (d.past.length < 8 → Pw w' w.heap.size y (Nt.ddo d ⟨k, a, b⟩).past) := by
  have HX := Lib.hid h
  obtain ⟨v, u, r, rfl, h1, h2, h3, h4⟩ := h
  obtain ⟨n, hn⟩ : ∃ n, n = d.past.length := ⟨_, rfl⟩
  obtain ⟨hk0, hb0, hd0, hr0⟩ := three_new w 33 41 33 #[v, .int .i64 d.now.c, u, r] #[.int .i64 k, .int .i64 a, .int .i64 b] #[.slice none 0 0, .int .i64 0, .slice none 0 0, .slice none 0 0]
  have HV0 := Lib.hid (h1.stay hk0)
  have HU0 := Lib.hid (h2.stay hk0)
  have HX0 := Lib.hid (HX.out.stay hk0)
  obtain ⟨a1, cap, rfl, _, _, _⟩ := h1.any
  obtain ⟨b1, cap2, rfl, _, _, _⟩ := h2.any
  obtain ⟨a3, cap3, rfl⟩ := h3.any3
  rw [← hn] at HX HX0 hk0 hb0 hd0 hr0
  have HB := Lib.hid hb0
  have HD := Lib.hid hd0
  have HR := Lib.hid hr0
  have HK0 := Lib.hid hk0
  have HN := Lib.hid hn
  obtain ⟨c0, c1, c2, c3⟩ := hb0.four
  obtain ⟨d0, d1, d2⟩ := hd0.three
  have hzb := hb0.lt
  have hzd := hd0.lt
  rw [← hn] at HV0 HU0
  rw [← hn]
  clear hk0 hb0 hd0 hr0 h1 h2 h3 h4 hn
  go_enter Tryz.func76, Tryz.ntmps76
  go_wp2_with fail
  generalize (((w.alloc (.cells #[.slice a1 d.now.ns.length cap, .int .i64 d.now.c, .slice b1 d.now.ks.length cap2, .slice a3 n cap3] 33)).alloc (.cells #[.int .i64 k, .int .i64 a, .int .i64 b] 41)).alloc (.cells #[.slice none 0 0, .int .i64 0, .slice none 0 0, .slice none 0 0] 33)) = W0 at *
  refine (sDeskOk_any d _ _ 0 HX0.out.dv).mono ?_
  rintro e' w1 ⟨rfl, hk1⟩
  have HB1 := Lib.hid (HB.out.stay hk1)
  have HD1 := Lib.hid (HD.out.stay hk1)
  have HR1 := Lib.hid (HR.out.stay hk1)
  have HK1 := Lib.hid (HK0.out.trans hk1 (by simp))
  have HX1 := Lib.hid (HX0.out.stay hk1)
  have HV1 := Lib.hid (HV0.out.stay hk1)
  have HU1 := Lib.hid (HU0.out.stay hk1)
  clear hk1 c0 c1 c2 c3 d0 d1 d2 hzb hzd HB HD HR HK0 HX0 HV0 HU0
  obtain ⟨c0, c1, c2, c3⟩ := HB1.out.four
  obtain ⟨d0, d1, d2⟩ := HD1.out.three
  obtain ⟨r0, r1, r2, r3⟩ := HR1.out.four
  have f0 := HR1.out.frozen 0
  have f1 := HR1.out.frozen 1
  have f2 := HR1.out.frozen 2
  have f3 := HR1.out.frozen 3
  have hzb := HB1.out.lt
  have hzd := HD1.out.lt
  have hzr := HR1.out.lt
  cases hok : Nt.dkB d
  · have HNO := Lib.hid (Nt.ddo_no hok ⟨k, a, b⟩)
    clear hok
    go_wp2
    (try simp only [Exit.inBlock, Exit.then])
    refine bodyPost_ret (v := .tuple #[.agg #[.slice none 0 0, .int .i64 0, .slice none 0 0, .slice none 0 0], .bool false]) ?_ rfl ?_
    · rw [results_cell_tmp rfl]
      simp [asAddr, ret_desk (HR1.out.set4 _ _ _ _)]
    · rw [HNO.out.1, HNO.out.2]
      exact ⟨_, rfl, De.zero _, HK1.out.set4 (by omega) _ _ _ _, ⟨_, _, _, _, _, _, rfl, fun q hq => by cases hq⟩, fun _ => ⟨_, _, _, _, rfl, [], Tg.nil _ _ _, rfl, fun k hk => absurd hk (Nat.not_lt_zero _)⟩⟩
  · obtain ⟨e, he, hek⟩ := Nt.dkB_ok hok
    have HE := Lib.hid hek
    have HEI := Lib.hid he
    have HOK := Lib.hid hok
    have HDO := Lib.hid (Nt.ddo_ok hek ⟨k, a, b⟩)
    rw [← he] at HDO
    have h8 : n ≤ 8 := by rw [HN.out]; exact (dk_parts hok).2.2
    clear hok he hek r0 r1 r2 r3 f0 f1 f2 f3
    go_wp2_with fail
    refine (sCopy_any d HOK.out _ _ 0 HX1.out.dv).mono ?_
    rintro e' w2 ⟨y2, rfl, hdv, hk2⟩
    obtain ⟨v2, u2, r2, rfl, hv2, hu2, hp2⟩ := hdv
    obtain ⟨vs2, htg2, hvl2, hvp2⟩ := id hp2
    have HPO := Lib.hid hp2
    have HV2 := Lib.hid hv2
    have HU2 := Lib.hid hu2
    have HRB := Lib.hid (fun g hg => htg2.block (g := g) hg)
    have HVB := Lib.hid (fun g hg => hv2.block (g := g) hg)
    have HUB := Lib.hid (fun g hg => hu2.block (g := g) hg)
    obtain ⟨va, vc, rfl, _, _, _⟩ := hv2.any
    obtain ⟨ua, uc, rfl, _, _, _⟩ := hu2.any
    obtain ⟨ra, rc, rfl⟩ : ∃ ra rc, r2 = .slice ra n rc := by
      obtain ⟨ra, rc, e⟩ := htg2.any
      exact ⟨ra, rc, by rw [e, hvl2, HN.out]⟩
    have hka : Kept [] w2 (w2.alloc (.cells #[.slice va d.now.ns.length vc, .int .i64 d.now.c, .slice ua d.now.ks.length uc, .slice ra n rc] 33)) := (Kept.refl [] w2).alloc _
    have HT3 := Lib.hid (Bk.new w2 33 #[.slice va d.now.ns.length vc, .int .i64 d.now.c, .slice ua d.now.ks.length uc, .slice ra n rc])
    have HB3 := Lib.hid ((HB1.out.stay hk2).stay hka)
    have HD3 := Lib.hid ((HD1.out.stay hk2).stay hka)
    have HR3 := Lib.hid ((HR1.out.stay hk2).stay hka)
    have HR2 := Lib.hid (HR1.out.stay hk2)
    have HK2 := Lib.hid (HK1.out.trans hk2 (by simp))
    have HK3 := Lib.hid ((HK1.out.trans hk2 (by simp)).trans hka (by simp))
    have HP3 := Lib.hid (HPO.out.stay hka)
    have HV3 := Lib.hid (HV2.out.stay hka)
    have HU3 := Lib.hid (HU2.out.stay hka)
    have HVD3 := Lib.hid ((HV1.out.stay hk2).stay hka)
    have HUD3 := Lib.hid ((HU1.out.stay hk2).stay hka)
    have HK23 := Lib.hid hka
    have HK1Z : Hid (w.heap.size ≤ w1.heap.size) := Lib.hid HK1.out.size
    have HZ13 : Hid (w.heap.size + 1 + 1 < w1.heap.size ∧ w1.heap.size ≤ w2.heap.size) := Lib.hid ⟨hzr, hk2.size⟩
    clear hk2 hka hv2 hu2 hp2 htg2 hvl2 hvp2 c0 c1 c2 c3 d0 d1 d2 hzb hzd hzr HB1 HD1 HR1 HK1 HX1 HV1 HU1 HV2 HU2
    obtain ⟨t0, t1, t2, t3⟩ := HT3.out.four
    obtain ⟨c0, c1, c2, c3⟩ := HB3.out.four
    obtain ⟨d0, d1, d2⟩ := HD3.out.three
    have hzt := HT3.out.lt
    have hzb := HB3.out.lt
    have hzd := HD3.out.lt
    have HT3r := HT3
    by_cases hA : (k = 4 ∧ a = 0 ∧ b = 0) ∧ 0 < n
    · obtain ⟨hk4, hpos⟩ := hA
      have HEQ : ∀ w, (binOp .eql 41 (.agg #[.int .i64 k, .int .i64 a, .int .i64 b]) (.agg #[.int .i64 4, .int .i64 0, .int .i64 0])).run Tryz.prog w = .ok (.bool true) w := fun w => by rw [deed_eq, decide_eq_true hk4]
      have HGB : Hid ((Nt.goD e ⟨k, a, b⟩).i = backI d ∧ (Nt.doD e ⟨k, a, b⟩).isSome = true) := Lib.hid (by
        obtain ⟨rfl, rfl, rfl⟩ := hk4
        obtain ⟨g1, g2⟩ := go_before e
        rw [← HEI.out] at g1 g2
        unfold beforeI at g1
        unfold beforeB at g2
        rw [← HN.out] at g1 g2
        rw [if_pos hpos] at g1
        rw [decide_eq_true hpos] at g2
        exact ⟨g1, g2⟩)
      obtain ⟨m, hm⟩ : ∃ m, n = m + 1 := ⟨n - 1, by omega⟩
      have hPS := HPO.out.ps
      obtain ⟨_, _, e3, _, hcp, hcm, hcell⟩ := id hPS
      simp only [Value.slice.injEq] at e3
      obtain ⟨rfl, hx3, rfl⟩ := e3
      clear hx3
      obtain ⟨g, off, rfl, hgb, hg, hpc⟩ := hcell m (by rw [← HN.out]; omega)
      have HGBN := Lib.hid hgb
      clear hgb
      obtain ⟨xx, yy, q0', q1', q2', hx, hy⟩ := hpc
      have q0 := (HK23.out.cell (p := ⟨g, off + m * 3, none⟩) hg (by simp)).trans q0'
      have q1 := (HK23.out.cell (p := ⟨g, off + m * 3 + 1, none⟩) hg (by simp)).trans q1'
      have q2 := (HK23.out.cell (p := ⟨g, off + m * 3 + 2, none⟩) hg (by simp)).trans q2'
      have e1 : wrap64 ((n : Int) - 1) = (m : Int) := by unfold wrap64; omega
      have e1' : IntKind.i64.wrap ((n : Int) - 1) = (m : Int) := by rw [IntKind.wrap_i64]; omega
      have hmn : m < n := by omega
      have hmc : m ≤ rc := by rw [← HN.out] at hcp; omega
      have d0p : decide ((0 : Int) < (n : Int)) = true := dec_of (by omega)
      have d0p' : decide ((n : Int) > 0) = true := dec_of (by omega)
      have d0p2 : decide (0 < n) = true := dec_of hpos
      have HXX := Lib.hid hx
      have HYY := Lib.hid hy
      have HPMB := Lib.hid (HPO.out.pm.cut m (by rw [← HN.out]; omega))
      have HPS := Lib.hid (hPS.cut m (by rw [← HN.out]; omega))
      have HPT := Lib.hid (show Pt w2 (.slice (some ⟨g, off, none⟩) m rc) from fun a' n' cap' e4 _ => by
        simp only [Value.slice.injEq, Option.some.injEq] at e4
        obtain ⟨rfl, _, _⟩ := e4
        obtain ⟨vs, htg, _, _⟩ := HPO.out
        exact htg.pt ⟨g, off, none⟩ n rc (by rw [HN.out]) hpos)
      have HPK : Hid (piAt d.past m = (backI d).now ∧ d.past.take m = (backI d).past) := Lib.hid (by
        unfold backI
        rw [← HN.out, show n - 1 = m by omega]; exact ⟨rfl, rfl⟩)
      obtain ⟨ax, cx, rfl, _, _, _⟩ := hx.any
      obtain ⟨ay, cy, rfl, _, _, _⟩ := hy.any
      have f0 := HT3.out.frozen 0
      have f1 := HT3.out.frozen 1
      have f2 := HT3.out.frozen 2
      have f3 := HT3.out.frozen 3
      have hne : w.heap.size + 1 + 1 ≠ w2.heap.size := by have := HZ13.out; omega
      have hne2 : w2.heap.size ≠ w.heap.size + 1 + 1 := fun h => hne h.symm
      clear hx hy hPS hcell hcp hm hpos hk4 hg q0' q1' q2'
      generalize hpe : piAt d.past m = p at *
      clear hpe
      have hkn : Kept [] w2 (w2.alloc (.cells #[.slice ax p.ns.length cx, .int .i64 p.c, .slice ay p.ks.length cy, .slice (some ⟨g, off, none⟩) m rc] 33)) := (Kept.refl [] w2).alloc _
      have HRN := Lib.hid (HR2.out.stay hkn)
      have HKN := Lib.hid (HK2.out.trans hkn (by simp))
      have HTN := Lib.hid (Bk.new w2 33 #[.slice ax p.ns.length cx, .int .i64 p.c, .slice ay p.ks.length cy, .slice (some ⟨g, off, none⟩) m rc])
      obtain ⟨r0, r1, r2, r3⟩ := HRN.out.four
      have p0 := HRN.out.frozen 0
      have p1 := HRN.out.frozen 1
      have p2 := HRN.out.frozen 2
      have p3 := HRN.out.frozen 3
      have hzr := HRN.out.lt
      have HKR := Lib.hid (((((Kept.refl [w.heap.size + 1 + 1] w2).alloc (.cells #[.slice ax p.ns.length cx, .int .i64 p.c, .slice ay p.ks.length cy, .slice (some ⟨g, off, none⟩) m rc] 33)).setCell (p := ⟨w.heap.size + 1 + 1, 0, none⟩) (.inl (by simp)) (.slice ax p.ns.length cx)).setCell (p := ⟨w.heap.size + 1 + 1, 1, none⟩) (.inl (by simp)) (.int .i64 p.c)).setCell (p := ⟨w.heap.size + 1 + 1, 2, none⟩) (.inl (by simp)) (.slice ay p.ks.length cy) |>.setCell (p := ⟨w.heap.size + 1 + 1, 3, none⟩) (.inl (by simp)) (.slice (some ⟨g, off, none⟩) m rc))
      clear hkn
      go_wp2
      (try simp only [Exit.inBlock, Exit.then])
      refine bodyPost_ret (v := .tuple #[.agg #[.slice ax p.ns.length cx, .int .i64 p.c, .slice ay p.ks.length cy, .slice (some ⟨g, off, none⟩) m rc], .bool true]) ?_ rfl ?_
      · rw [results_cell_tmp rfl]
        simp [asAddr, ret_desk (HRN.out.set4 _ _ _ _)]
      · rw [HDO.out.1, HDO.out.2, HGB.out.1, HGB.out.2]
        have hal := Alien.one HR2.out
        have hps := HPS.out.alien HPT.out HKR.out hal
        rw [HPK.out.2] at hps
        have hX := HXX.out.alien HKR.out hal
        have hY := HYY.out.alien HKR.out hal
        have e4 := HPK.out.1
        exact ⟨_, rfl, ⟨_, _, _, by rw [← e4], by rw [← e4]; exact hX.mono (Nat.zero_le _), by rw [← e4]; exact hY.mono (Nat.zero_le _), hps.mono (Nat.zero_le _), HPT.out.alien HKR.out hal⟩, HKN.out.set4 (by omega) _ _ _ _, ⟨_, _, _, _, _, _, rfl, fun q hq => by cases hq; exact Nat.le_trans HK1Z.out HGBN.out⟩, fun _ => ⟨_, _, _, _, rfl, by rw [← HPK.out.2]; exact (HPMB.out.alien HKR.out hal).mono HK1Z.out⟩⟩
    · have HMAP : Hid (Nt.doD e ⟨k, a, b⟩ = (Nt.made e.now ⟨k, a, b⟩).map fun p => ⟨p, (e.past ++ [e.now]).drop ((e.past ++ [e.now]).length - 8)⟩) := Lib.hid (doD_map HE.out.few (by
        have hl : e.past.length = n := by rw [HN.out, HEI.out]; exact (List.length_map ..).symm
        simp only [hl]
        exact hA))
      have HMADE := Lib.hid (Nt.made_is HE.out.now ⟨k, a, b⟩)
      have hq3 : (¬ (k = 4 ∧ a = 0 ∧ b = 0)) ∨ ((k = 4 ∧ a = 0 ∧ b = 0) ∧ n = 0) := by
        by_cases h : k = 4 ∧ a = 0 ∧ b = 0
        · exact .inr ⟨h, by by_cases h0 : 0 < n; exact absurd ⟨h, h0⟩ hA; omega⟩
        · exact .inl h
      have HEQ0 := Lib.hid (deed_eq k a b 4 0 0)
      have HPV : Hid (Pv (w2.alloc (.cells #[.slice va d.now.ns.length vc, .int .i64 d.now.c, .slice ua d.now.ks.length uc, .slice ra n rc] 33)) 0 (.agg #[.slice a1 d.now.ns.length cap, .int .i64 d.now.c, .slice b1 d.now.ks.length cap2]) e.now.i) := Lib.hid (by
        rw [show e.now.i = d.now from (congrArg Nt.Di.now HEI.out).symm]
        exact ⟨_, _, rfl, HVD3.out, HUD3.out⟩)
      have HNOW : Hid (e.now.i = d.now) := Lib.hid (congrArg Nt.Di.now HEI.out).symm
      clear hA
      rcases hq3 with hq | ⟨hq, hn0⟩
      all_goals
        first
          | (have HEQ : ∀ w, (binOp .eql 41 (.agg #[.int .i64 k, .int .i64 a, .int .i64 b]) (.agg #[.int .i64 4, .int .i64 0, .int .i64 0])).run Tryz.prog w = .ok (.bool true) w := fun w => by rw [HEQ0.out, decide_eq_true hq]
             have d0p : decide ((0 : Int) < (n : Int)) = false := dec_not (by omega)
             have d0p' : decide ((n : Int) > 0) = false := dec_not (by omega)
             have d0p2 : decide (0 < n) = false := dec_not (by omega)
             have HN00 := Lib.hid hn0
             clear hn0)
          | (have HEQ : ∀ w, (binOp .eql 41 (.agg #[.int .i64 k, .int .i64 a, .int .i64 b]) (.agg #[.int .i64 4, .int .i64 0, .int .i64 0])).run Tryz.prog w = .ok (.bool false) w := fun w => by rw [HEQ0.out, decide_eq_false hq])
        clear hq
        go_wp2_with fail
        generalize w2.alloc (.cells #[.slice va d.now.ns.length vc, .int .i64 d.now.c, .slice ua d.now.ks.length uc, .slice ra n rc] 33) = W3 at *
        refine (sMade_any e.now HE.out.now k a b _ _ 0 HPV.out).mono ?_
        rintro e' w4 ⟨y4, rfl, hpv, hk4⟩
        generalize Nt.madeI e.now ⟨k, a, b⟩ = P at *
        obtain ⟨pv, pu, rfl, hp1, hp2⟩ := hpv
        obtain ⟨pa, pcap, rfl, _, _, _⟩ := hp1.any
        obtain ⟨pb, pcap2, rfl, _, _, _⟩ := hp2.any
        have hka : Kept [] w4 (w4.alloc (.cells #[.slice pa P.ns.length pcap, .int .i64 P.c, .slice pb P.ks.length pcap2] 30)) := (Kept.refl [] w4).alloc _
        have hk5 := hk4.trans hka (by simp)
        have HPN5 := Lib.hid (show Pv _ 0 (.agg #[.slice pa P.ns.length pcap, .int .i64 P.c, .slice pb P.ks.length pcap2]) P from ⟨_, _, rfl, (hp1.stay hka).mono (Nat.zero_le _), (hp2.stay hka).mono (Nat.zero_le _)⟩)
        have HM5 := Lib.hid (Bk.new w4 30 #[.slice pa P.ns.length pcap, .int .i64 P.c, .slice pb P.ks.length pcap2])
        have HB5 := Lib.hid (HB3.out.stay hk5)
        have HR5 := Lib.hid (HR3.out.stay hk5)
        have HT5 := Lib.hid (HT3.out.stay hk5)
        have HP5 := Lib.hid (HP3.out.stay hk5)
        have HV5 := Lib.hid (HV3.out.stay hk5)
        have HU5 := Lib.hid (HU3.out.stay hk5)
        have HK5 := Lib.hid (HK3.out.trans hk5 (by simp))
        have HPV5 := Lib.hid (HPV.out.stay hk5)
        have HZ35 : Hid (w2.heap.size < W3.heap.size ∧ W3.heap.size ≤ w4.heap.size) := Lib.hid ⟨HT3.out.lt, hk4.size⟩
        clear hk4 hka hk5 hp1 hp2 t0 t1 t2 t3 c0 c1 c2 c3 d0 d1 d2 hzt hzb hzd HB3 HR3 HT3 HT3r HP3 HV3 HU3 HK3 HPV HD3 HVD3 HUD3 HR2 HK2 HK23 HPO HEQ
        obtain ⟨m0, m1, m2⟩ := HM5.out.three
        obtain ⟨c0, c1, c2, c3⟩ := HB5.out.four
        have hzm := HM5.out.lt
        have hzb := HB5.out.lt
        go_wp2_with fail
        generalize w4.alloc (.cells #[.slice pa P.ns.length pcap, .int .i64 P.c, .slice pb P.ks.length pcap2] 30) = W5 at *
        have HSB : Hid (∀ w', Kept [] W5 w' → w'.cell? ⟨w4.heap.size, 0, none⟩ = some (.slice pa P.ns.length pcap) ∧ w'.cell? ⟨w4.heap.size, 1, none⟩ = some (.int .i64 P.c) ∧ w'.cell? ⟨w4.heap.size, 2, none⟩ = some (.slice pb P.ks.length pcap2) ∧ w'.cell? ⟨w.heap.size, 0, none⟩ = some (.slice a1 d.now.ns.length cap) ∧ w'.cell? ⟨w.heap.size, 1, none⟩ = some (.int .i64 d.now.c) ∧ w'.cell? ⟨w.heap.size, 2, none⟩ = some (.slice b1 d.now.ks.length cap2)) := Lib.hid (fun w' k => ⟨(HM5.out.stay k).three.1, (HM5.out.stay k).three.2.1, (HM5.out.stay k).three.2.2, (HB5.out.stay k).four.1, (HB5.out.stay k).four.2.1, (HB5.out.stay k).four.2.2.1⟩)
        have HCP : Hid (∀ W, Kept [] W5 W → Calls Tryz.prog 64 #[.agg #[.slice pa P.ns.length pcap, .int .i64 P.c, .slice pb P.ks.length pcap2]] W fun e' w' => e' = .returned (.bool (Nt.plB P)) ∧ Kept [] W5 w') := Lib.hid (fun W k => (sPlaceOk_any P W _ 0 (HPN5.out.stay k)).mono (by rintro e w' ⟨rfl, h⟩; exact ⟨rfl, k.trans h (by simp)⟩))
        have HT1 : Hid (∀ W, Kept [] W5 W → Calls Tryz.prog 103 #[.agg #[.slice pa P.ns.length pcap, .int .i64 P.c, .slice pb P.ks.length pcap2]] W fun e' w' => ∃ z, e' = .returned (.string z) ∧ Hid (tx z = Nt.ptxt P) ∧ Kept [] W5 w') := Lib.hid (fun W k => (sPlaceText_any P W _ 0 (HPN5.out.stay k)).mono (by rintro e w' ⟨z, rfl, hz, h⟩; exact ⟨z, rfl, hz, k.trans h (by simp)⟩))
        have HT2 : Hid (∀ W, Kept [] W5 W → Calls Tryz.prog 103 #[.agg #[.slice a1 d.now.ns.length cap, .int .i64 d.now.c, .slice b1 d.now.ks.length cap2]] W fun e' w' => ∃ z, e' = .returned (.string z) ∧ Hid (tx z = Nt.ptxt (Nt.Pl.i e.now)) ∧ Kept [] W5 w') := Lib.hid (fun W k => (sPlaceText_any e.now.i W _ 0 (HPV5.out.stay k)).mono (by rintro e w' ⟨z, rfl, hz, h⟩; exact ⟨z, rfl, hz, k.trans h (by simp)⟩))
        obtain ⟨nb, hnb⟩ : ∃ nb : Bool, nb = !(Nt.plB P && !decide (Nt.ptxt P = Nt.ptxt e.now.i)) := ⟨_, rfl⟩
        have HNB := Lib.hid hnb
        clear hnb
        go_cut [54] (fun u54 wc => u54 = .bool nb ∧ Kept [] W5 wc)
        case first =>
          cases hb : Nt.plB P
          · rw [hb] at HCP
            have HNBT : Hid (nb = true) := Lib.hid (by rw [HNB.out, hb]; rfl)
            clear hb
            refine wp_region_held_drew (S := fun w' => w'.cell? ⟨w4.heap.size, 0, none⟩ = some (.slice pa P.ns.length pcap) ∧ w'.cell? ⟨w4.heap.size, 1, none⟩ = some (.int .i64 P.c) ∧ w'.cell? ⟨w4.heap.size, 2, none⟩ = some (.slice pb P.ks.length pcap2) ∧ w'.cell? ⟨w.heap.size, 0, none⟩ = some (.slice a1 d.now.ns.length cap) ∧ w'.cell? ⟨w.heap.size, 1, none⟩ = some (.int .i64 d.now.c) ∧ w'.cell? ⟨w.heap.size, 2, none⟩ = some (.slice b1 d.now.ks.length cap2)) (by kernel_rfl) (HSB.out _ ((Kept.refl [] W5).drew)) (fun hHeld => ?_)
            refine wpAnyH_take (i := 0) (v := ?_) (opAt_lst rfl) (by kernel_rfl) (by kernel_rfl) (by kernel_rfl) (fun _ _ _ h => h) (Or.inl ⟨by rfl, ?_⟩) (by assumption) ?_
            rotate_left
            · intro w9 hSw
              (try dsimp only at hSw)
              go_simp
              try with_reducible rfl
            try simp only [Act.put, List.setIfInBounds_toArray, List.set_cons_zero, List.set_cons_succ]
            refine wpAnyH_ready (rs := [1]) (by kernel_rfl) (by simp) ?_
            refine AllReadyH.cons (opAt_lst rfl) (fun K hK => ?_) AllReadyH.nil
            go_simp
            go_at_call 64
            refine (HCP.out _ ((Kept.refl [] W5).drew)).mono ?_
            rintro e6 w6 ⟨rfl, k6⟩
            refine hK.out _ _ (HSB.out _ k6) (fun hHeld => ?_)
            clear hK K
            try simp only [Act.put, List.setIfInBounds_toArray, List.set_cons_zero, List.set_cons_succ]
            refine wpAnyH_take (i := 2) (v := ?_) (opAt_lst rfl) (by kernel_rfl) (by kernel_rfl) (by kernel_rfl) (fun _ _ _ h => h) (Or.inl ⟨by rfl, ?_⟩) (by assumption) ?_
            rotate_left
            · intro w9 hSw
              (try dsimp only at hSw)
              go_simp
              try with_reducible rfl
            try simp only [Act.put, List.setIfInBounds_toArray, List.set_cons_zero, List.set_cons_succ]
            refine wpAnyH_take (i := 3) (v := ?_) (opAt_lst rfl) (by kernel_rfl) (by kernel_rfl) (by kernel_rfl) (fun _ _ _ h => h) (Or.inl ⟨by rfl, ?_⟩) (by assumption) ?_
            rotate_left
            · intro w9 hSw
              (try dsimp only at hSw)
              go_simp
              try with_reducible rfl
            try simp only [Act.put, List.setIfInBounds_toArray, List.set_cons_zero, List.set_cons_succ]
            refine wpAnyH_take (i := 4) (v := undef) (opAt_lst rfl) (by kernel_rfl) (by kernel_rfl) (by kernel_rfl) (fun _ _ _ h => h) (Or.inr ⟨by rfl, rfl⟩) (by assumption) ?_
            try simp only [Act.put, List.setIfInBounds_toArray, List.set_cons_zero, List.set_cons_succ]
            refine wpAnyH_take (i := 5) (v := undef) (opAt_lst rfl) (by kernel_rfl) (by kernel_rfl) (by kernel_rfl) (fun _ _ _ h => h) (Or.inr ⟨by rfl, rfl⟩) (by assumption) ?_
            try simp only [Act.put, List.setIfInBounds_toArray, List.set_cons_zero, List.set_cons_succ]
            refine wpAnyH_take (i := 6) (v := undef) (opAt_lst rfl) (by kernel_rfl) (by kernel_rfl) (by kernel_rfl) (fun _ _ _ h => h) (Or.inr ⟨by rfl, rfl⟩) (by assumption) ?_
            try simp only [Act.put, List.setIfInBounds_toArray, List.set_cons_zero, List.set_cons_succ]
            refine wpAnyH_take (i := 7) (v := undef) (opAt_lst rfl) (by kernel_rfl) (by kernel_rfl) (by kernel_rfl) (fun _ _ _ h => h) (Or.inr ⟨by rfl, rfl⟩) (by assumption) ?_
            try simp only [Act.put, List.setIfInBounds_toArray, List.set_cons_zero, List.set_cons_succ]
            refine wpAnyH_take (i := 8) (v := undef) (opAt_lst rfl) (by kernel_rfl) (by kernel_rfl) (by kernel_rfl) (fun _ _ _ h => h) (Or.inr ⟨by rfl, rfl⟩) (by assumption) ?_
            try simp only [Act.put, List.setIfInBounds_toArray, List.set_cons_zero, List.set_cons_succ]
            refine wpAnyH_take (i := 9) (v := undef) (opAt_lst rfl) (by kernel_rfl) (by kernel_rfl) (by kernel_rfl) (fun _ _ _ h => h) (Or.inr ⟨by rfl, rfl⟩) (by assumption) ?_
            try simp only [Act.put, List.setIfInBounds_toArray, List.set_cons_zero, List.set_cons_succ]
            refine wpAnyH_take (i := 10) (v := ?_) (opAt_lst rfl) (by kernel_rfl) (by kernel_rfl) (by kernel_rfl) (fun _ _ _ h => h) (Or.inl ⟨by rfl, ?_⟩) (by assumption) ?_
            rotate_left
            · intro w9 hSw
              (try dsimp only at hSw)
              go_simp
              try with_reducible rfl
            try simp only [Act.put, List.setIfInBounds_toArray, List.set_cons_zero, List.set_cons_succ]
            refine wpAnyH_done (by kernel_rfl) ?_ _
            go_wp2_with fail
            go_meet
            exact ⟨by rw [HNBT.out], k6⟩
          · rw [hb] at HCP
            rw [hb, Bool.true_and, Bool.not_not] at HNB
            clear hb
            refine wp_region_held_drew (S := fun w' => w'.cell? ⟨w4.heap.size, 0, none⟩ = some (.slice pa P.ns.length pcap) ∧ w'.cell? ⟨w4.heap.size, 1, none⟩ = some (.int .i64 P.c) ∧ w'.cell? ⟨w4.heap.size, 2, none⟩ = some (.slice pb P.ks.length pcap2) ∧ w'.cell? ⟨w.heap.size, 0, none⟩ = some (.slice a1 d.now.ns.length cap) ∧ w'.cell? ⟨w.heap.size, 1, none⟩ = some (.int .i64 d.now.c) ∧ w'.cell? ⟨w.heap.size, 2, none⟩ = some (.slice b1 d.now.ks.length cap2)) (by kernel_rfl) (HSB.out _ ((Kept.refl [] W5).drew)) (fun hHeld => ?_)
            refine wpAnyH_take (i := 0) (v := ?_) (opAt_lst rfl) (by kernel_rfl) (by kernel_rfl) (by kernel_rfl) (fun _ _ _ h => h) (Or.inl ⟨by rfl, ?_⟩) (by assumption) ?_
            rotate_left
            · intro w9 hSw
              (try dsimp only at hSw)
              go_simp
              try with_reducible rfl
            try simp only [Act.put, List.setIfInBounds_toArray, List.set_cons_zero, List.set_cons_succ]
            refine wpAnyH_ready (rs := [1]) (by kernel_rfl) (by simp) ?_
            refine AllReadyH.cons (opAt_lst rfl) (fun K hK => ?_) AllReadyH.nil
            go_simp
            go_at_call 64
            refine (HCP.out _ ((Kept.refl [] W5).drew)).mono ?_
            rintro e6 w6 ⟨rfl, k6⟩
            refine hK.out _ _ (HSB.out _ k6) (fun hHeld => ?_)
            clear hK K
            try simp only [Act.put, List.setIfInBounds_toArray, List.set_cons_zero, List.set_cons_succ]
            refine wpAnyH_take (i := 2) (v := ?_) (opAt_lst rfl) (by kernel_rfl) (by kernel_rfl) (by kernel_rfl) (fun _ _ _ h => h) (Or.inl ⟨by rfl, ?_⟩) (by assumption) ?_
            rotate_left
            · intro w9 hSw
              (try dsimp only at hSw)
              go_simp
              try with_reducible rfl
            try simp only [Act.put, List.setIfInBounds_toArray, List.set_cons_zero, List.set_cons_succ]
            refine wpAnyH_take (i := 3) (v := ?_) (opAt_lst rfl) (by kernel_rfl) (by kernel_rfl) (by kernel_rfl) (fun _ _ _ h => h) (Or.inl ⟨by rfl, ?_⟩) (by assumption) ?_
            rotate_left
            · intro w9 hSw
              (try dsimp only at hSw)
              go_simp
              try with_reducible rfl
            try simp only [Act.put, List.setIfInBounds_toArray, List.set_cons_zero, List.set_cons_succ]
            refine wpAnyH_take (i := 4) (v := ?_) (opAt_lst rfl) (by kernel_rfl) (by kernel_rfl) (by kernel_rfl) (fun _ _ _ h => h) (Or.inl ⟨by rfl, ?_⟩) (by assumption) ?_
            rotate_left
            · intro w9 hSw
              (try dsimp only at hSw)
              go_simp
              try with_reducible rfl
            try simp only [Act.put, List.setIfInBounds_toArray, List.set_cons_zero, List.set_cons_succ]
            refine wpAnyH_take (i := 6) (v := ?_) (opAt_lst rfl) (by kernel_rfl) (by kernel_rfl) (by kernel_rfl) (fun _ _ _ h => h) (Or.inl ⟨by rfl, ?_⟩) (by assumption) ?_
            rotate_left
            · intro w9 hSw
              (try dsimp only at hSw)
              go_simp
              try with_reducible rfl
            try simp only [Act.put, List.setIfInBounds_toArray, List.set_cons_zero, List.set_cons_succ]
            refine wpAnyH_take (i := 7) (v := ?_) (opAt_lst rfl) (by kernel_rfl) (by kernel_rfl) (by kernel_rfl) (fun _ _ _ h => h) (Or.inl ⟨by rfl, ?_⟩) (by assumption) ?_
            rotate_left
            · intro w9 hSw
              (try dsimp only at hSw)
              go_simp
              try with_reducible rfl
            try simp only [Act.put, List.setIfInBounds_toArray, List.set_cons_zero, List.set_cons_succ]
            refine wpAnyH_ready (rs := [5]) (by kernel_rfl) (by simp) ?_
            refine AllReadyH.cons (opAt_lst rfl) (fun K hK => ?_) AllReadyH.nil
            go_simp
            go_at_call 103
            refine (HT1.out _ k6).mono ?_
            rintro e7 w7 ⟨z7, rfl, HZ7, k7⟩
            refine hK.out _ _ (HSB.out _ k7) (fun hHeld => ?_)
            clear hK K
            try simp only [Act.put, List.setIfInBounds_toArray, List.set_cons_zero, List.set_cons_succ]
            refine wpAnyH_ready (rs := [8]) (by kernel_rfl) (by simp) ?_
            refine AllReadyH.cons (opAt_lst rfl) (fun K hK => ?_) AllReadyH.nil
            go_simp
            go_at_call 103
            refine (HT2.out _ k7).mono ?_
            rintro e8 w8 ⟨z8, rfl, HZ8, k8⟩
            refine hK.out _ _ (HSB.out _ k8) (fun hHeld => ?_)
            clear hK K
            try simp only [Act.put, List.setIfInBounds_toArray, List.set_cons_zero, List.set_cons_succ]
            have hzz : (z7.toList == z8.toList) = nb := by
              rw [str_beq, toList_nums, HZ7.out, HZ8.out, HNB.out]
            refine wpAnyH_take (i := 9) (v := ?_) (opAt_lst rfl) (by kernel_rfl) (by kernel_rfl) (by kernel_rfl) (fun _ _ _ h => h) (Or.inl ⟨by rfl, ?_⟩) (by assumption) ?_
            rotate_left
            · intro w9 hSw
              (try dsimp only at hSw)
              go_simp
              try with_reducible rfl
            try simp only [Act.put, List.setIfInBounds_toArray, List.set_cons_zero, List.set_cons_succ]
            refine wpAnyH_take (i := 10) (v := ?_) (opAt_lst rfl) (by kernel_rfl) (by kernel_rfl) (by kernel_rfl) (fun _ _ _ h => h) (Or.inl ⟨by rfl, ?_⟩) (by assumption) ?_
            rotate_left
            · intro w9 hSw
              (try dsimp only at hSw)
              go_simp
              try with_reducible rfl
            try simp only [Act.put, List.setIfInBounds_toArray, List.set_cons_zero, List.set_cons_succ]
            refine wpAnyH_done (by kernel_rfl) ?_ _
            go_wp2_with fail
            go_meet
            exact ⟨rfl, k8⟩
        case rest =>
          obtain ⟨rfl, hkc⟩ := hcut
          have HKC := Lib.hid (HK5.out.trans hkc (by simp))
          have HRC := Lib.hid (HR5.out.stay hkc)
          have HTC := Lib.hid (HT5.out.stay hkc)
          have HMC := Lib.hid (HM5.out.stay hkc)
          have HPC := Lib.hid (HP5.out.stay hkc)
          have HVC := Lib.hid (HV5.out.stay hkc)
          have HUC := Lib.hid (HU5.out.stay hkc)
          have HPNC := Lib.hid (HPN5.out.stay hkc)
          have HZC : Hid (w4.heap.size < wc.heap.size) := Lib.hid HMC.out.lt
          clear hkc m0 m1 m2 c0 c1 c2 c3 hzm hzb HSB HCP HT1 HT2 HK5 HR5 HT5 HM5 HP5 HV5 HU5 HPN5 HB5 HPV5
          obtain ⟨t0, t1, t2, t3⟩ := HTC.out.four
          have hzt := HTC.out.lt
          cases hnb2 : nb
          · have HPP : Hid (Nt.plB P = true ∧ ptxtN P e) := Lib.hid (by
              have h := HNB.out
              rw [hnb2] at h
              cases hp : Nt.plB P
              · rw [hp] at h; simp at h
              · rw [hp] at h
                refine ⟨rfl, fun e2 => ?_⟩
                rw [e2, ← Nt.ptxt_ok HE.out.now] at h
                simp at h)
            have HYES : Hid (Nt.doD e ⟨k, a, b⟩ = some ⟨P.n, (e.past ++ [e.now]).drop ((e.past ++ [e.now]).length - 8)⟩) := Lib.hid (by rw [HMAP.out, HMADE.out, if_pos (show Nt.plB P = true ∧ Nt.ptxt P ≠ e.now.t from HPP.out)]; rfl)
            have HPI : Hid (P.n.i = P) := Lib.hid (by obtain ⟨q, hq, _⟩ := Nt.plB_ok HPP.out.1; rw [hq, Nt.Pl.i_n])
            clear hnb2
            have hka : Kept [] wc (wc.alloc (.cells #[.slice va d.now.ns.length vc, .int .i64 d.now.c, .slice ua d.now.ks.length uc] 30)) := (Kept.refl [] wc).alloc _
            have HB7 := Lib.hid (Bk.new wc 30 #[.slice va d.now.ns.length vc, .int .i64 d.now.c, .slice ua d.now.ks.length uc])
            have HONE := Lib.hid (show Ps _ 0 (.slice (some ⟨wc.heap.size, 0, none⟩) 1 1) [d.now] from ⟨_, 1, rfl, (fun h => by cases h), by simp, by omega, fun j hj => by
              have e0 : j = 0 := by simpa using hj
              subst e0
              obtain ⟨b0, b1, b2⟩ := HB7.out.three
              exact ⟨wc.heap.size, 0, rfl, Nat.zero_le _, HB7.out.lt, _, _, b0, b1, b2, (HVC.out.stay hka).mono (Nat.zero_le _), (HUC.out.stay hka).mono (Nat.zero_le _)⟩⟩)
            have HPM : Hid (Pm (wc.alloc (.cells #[.slice va d.now.ns.length vc, .int .i64 d.now.c, .slice ua d.now.ks.length uc] 30)) w1.heap.size (.slice ra n rc) d.past) := Lib.hid (by
              obtain ⟨vs, g1, g2, g3⟩ := HPC.out.stay hka
              refine ⟨vs, g1, g2, fun j hj => ?_⟩
              obtain ⟨x, y, e1, hx, hy⟩ := g3 j hj
              exact ⟨x, y, e1, hx.mono (Nat.zero_le _), hy.mono (Nat.zero_le _)⟩)
            have HR7 := Lib.hid (HRC.out.stay hka)
            have HT7 := Lib.hid (HTC.out.stay hka)
            have HM7 := Lib.hid (HMC.out.stay hka)
            have HPN7 := Lib.hid (HPNC.out.stay hka)
            have HK7 := Lib.hid (HKC.out.trans hka (by simp))
            have HL1 : Hid (d.past.length + [d.now].length ≤ 2000000) := Lib.hid (by rw [← HN.out]; simp; omega)
            have HW17 : Hid (w1.heap.size ≤ (wc.alloc (.cells #[.slice va d.now.ns.length vc, .int .i64 d.now.c, .slice ua d.now.ks.length uc] 30)).heap.size) := Lib.hid (by have := hka.size; have := HZC.out; have := HZ35.out; have := HZ13.out; omega)
            have HAPP : Hid (∀ v9 w9, Pm w9 w1.heap.size v9 (d.past ++ [d.now]) → Kept (Value.slice ra n rc).ownBlock.toList (wc.alloc (.cells #[.slice va d.now.ns.length vc, .int .i64 d.now.c, .slice ua d.now.ks.length uc] 30)) w9 →
                ∃ g9 c9, v9 = .slice (some ⟨g9, 0, none⟩) (n + 1) c9 ∧ n + 1 ≤ c9 ∧ c9 ≤ 9223372036854775807 ∧ Hid (Pm w9 w1.heap.size v9 (d.past ++ [d.now])) ∧ Bk w9 (w.heap.size + 1 + 1) 33 #[.slice none 0 0, .int .i64 0, .slice none 0 0, .slice none 0 0] ∧ Bk w9 w2.heap.size 33 #[.slice va d.now.ns.length vc, .int .i64 d.now.c, .slice ua d.now.ks.length uc, .slice ra n rc] ∧ Bk w9 w4.heap.size 30 #[.slice pa P.ns.length pcap, .int .i64 P.c, .slice pb P.ks.length pcap2] ∧ Hid (Pv w9 0 (.agg #[.slice pa P.ns.length pcap, .int .i64 P.c, .slice pb P.ks.length pcap2]) P) ∧ Hid (Kept [] w w9)) := Lib.hid (fun v9 w9 hp9 hk9 => by
              obtain ⟨vs, htg, hvl, hvp⟩ := id hp9
              obtain ⟨g9, c9, e9, _, _, h3, h4, _⟩ := htg.shape (n := n + 1) (by rw [hvl, List.length_append, ← HN.out]; rfl) (by omega)
              have hrow : ∀ g, g ∈ (Value.slice ra n rc).ownBlock.toList → w1.heap.size ≤ g ∧ g < w2.heap.size := fun g hg => HRB.out g (by simpa using hg)
              have z1 := HZ13.out
              have z2 := HZ35.out
              refine ⟨g9, c9, e9, h3, h4, hp9, HR7.out.kept hk9 (fun hm => ?_), HT7.out.kept hk9 (fun hm => ?_), HM7.out.kept hk9 (fun hm => ?_), ?_, HK7.out.trans hk9 (fun g hm => .inr ?_)⟩
              · have := hrow _ hm; omega
              · have := hrow _ hm; omega
              · have := hrow _ hm; omega
              · obtain ⟨x1, x2, ex, hx1, hx2⟩ := HPN7.out
                obtain ⟨vs7, htg7, _, _⟩ := HPM.out
                exact ⟨x1, x2, ex, hx1.kept hk9 (sl_tg hx1 htg7), hx2.kept hk9 (sl_tg hx2 htg7)⟩
              · have := hrow _ hm; have := HK1Z.out; omega)
            clear hka HR7 HT7 HM7 HPN7 HK7 HB7
            have hne : w.heap.size + 1 + 1 ≠ w2.heap.size := by have := HZ13.out; omega
            have hne2 : w2.heap.size ≠ w.heap.size + 1 + 1 := fun h => hne h.symm
            have hne3 : w4.heap.size ≠ w2.heap.size := by have := HZ35.out; omega
            have hne4 : w2.heap.size ≠ w4.heap.size := fun h => hne3 h.symm
            have HNE9 := Lib.hid hne
            by_cases h8 : n + 1 ≤ 8
            · have d8 : decide ((n : Int) + 1 > 8) = false := dec_not (by omega)
              have d8' : decide ((8 : Int) < (n : Int) + 1) = false := dec_not (by omega)
              go_wp2_with (at_builtin; refine app_places rfl _ _ rfl w1.heap.size _ d.past [d.now] HPM.out rfl _ HONE.out rfl HL1.out HW17.out ?_; intro v9 w9 hp9 hk9; obtain ⟨g9, c9, rfl, hc9, hm9, HP9, hb9r, hb9t, hb9m, HPN9, HK9⟩ := HAPP.out v9 w9 hp9 hk9; clear hp9 hk9; obtain ⟨s0, s1, s2, s3⟩ := hb9t.four; have f0 := hb9t.frozen 0; have f1 := hb9t.frozen 1; have f2 := hb9t.frozen 2; have f3 := hb9t.frozen 3; obtain ⟨m0, m1, m2⟩ := hb9m.three; obtain ⟨r0, r1, r2, r3⟩ := hb9r.four; have p0 := hb9r.frozen 0; have p1 := hb9r.frozen 1; have p2 := hb9r.frozen 2; have p3 := hb9r.frozen 3; have hl9t := hb9t.lt; have hl9m := hb9m.lt; have hl9r := hb9r.lt; have HB9T := Lib.hid hb9t; have HB9R := Lib.hid hb9r; have HC9 := Lib.hid (And.intro hc9 hm9))
              (try simp only [Exit.inBlock, Exit.then])
              have HBF : Hid (Bk ((((w9.setCell ⟨w2.heap.size, 3, none⟩ (.slice (some ⟨g9, 0, none⟩) (n + 1) c9)).setCell ⟨w2.heap.size, 0, none⟩ (.slice pa P.ns.length pcap)).setCell ⟨w2.heap.size, 1, none⟩ (.int .i64 P.c)).setCell ⟨w2.heap.size, 2, none⟩ (.slice pb P.ks.length pcap2)) (w.heap.size + 1 + 1) 33 #[.slice none 0 0, .int .i64 0, .slice none 0 0, .slice none 0 0]) := Lib.hid (HB9R.out.kept (rows := [w2.heap.size]) (by (repeat (refine Kept.setCell ?_ (.inl (by simp)) _)); exact Kept.refl _ _) (by have := HNE9.out; simp; omega))
              refine bodyPost_ret (v := .tuple #[.agg #[.slice pa P.ns.length pcap, .int .i64 P.c, .slice pb P.ks.length pcap2, .slice (some ⟨g9, 0, none⟩) (n + 1) c9], .bool true]) ?_ rfl ?_
              · rw [results_cell_tmp rfl]
                simp [asAddr, ret_desk (HBF.out.set4 (.slice pa P.ns.length pcap) (.int .i64 P.c) (.slice pb P.ks.length pcap2) (.slice (some ⟨g9, 0, none⟩) (n + 1) c9))]
              · rw [HDO.out.1, HDO.out.2, went_is HEI.out HPI.out HYES.out, HYES.out, show d.past.length + 1 - 8 = 0 by rw [← HN.out]; omega]
                refine ⟨_, rfl, went_de (w9 := w9) (rows := [w2.heap.size, w.heap.size + 1 + 1]) ?_ (Alien.two HB9T.out HB9R.out) HPN9.out (by rw [List.drop_zero]; exact HP9.out.ps) (by obtain ⟨vs, htg, _, _⟩ := HP9.out; exact htg.pt), ?_, ⟨_, _, _, _, _, _, rfl, fun q hq => by cases hq; exact Nat.le_trans HK1Z.out (HP9.out.block (g := g9) rfl).1⟩, fun _ => ⟨_, _, _, _, rfl, by rw [List.drop_zero]; exact (HP9.out.alien (rows := [w2.heap.size, w.heap.size + 1 + 1]) (by (repeat (refine Kept.setCell ?_ (.inl (by simp)) _)); exact Kept.refl _ _) (Alien.two HB9T.out HB9R.out)).mono HK1Z.out⟩⟩
                · (repeat (refine Kept.setCell ?_ (.inl (by simp)) _))
                  exact Kept.refl _ _
                · have hzA : w.heap.size ≤ w2.heap.size := by have := HZ13.out; omega
                  have hzB : w.heap.size ≤ w.heap.size + 1 + 1 := by omega
                  (repeat (refine Kept.setCell ?_ (.inr (by first | (with_reducible exact hzA) | (with_reducible exact hzB))) _))
                  exact HK9.out
            · have hn8 : n = 8 := by omega
              have HN8 := Lib.hid hn8
              have d8 : decide ((n : Int) + 1 > 8) = true := dec_of (by omega)
              have d8' : decide ((8 : Int) < (n : Int) + 1) = true := dec_of (by omega)
              have hn1 : (1 : Int) ≤ (n : Int) + 1 := by omega
              have hn1' : 1 ≤ n + 1 := by omega
              clear hn8
              go_wp2_with (at_builtin; refine app_places rfl _ _ rfl w1.heap.size _ d.past [d.now] HPM.out rfl _ HONE.out rfl HL1.out HW17.out ?_; intro v9 w9 hp9 hk9; obtain ⟨g9, c9, rfl, hc9, hm9, HP9, hb9r, hb9t, hb9m, HPN9, HK9⟩ := HAPP.out v9 w9 hp9 hk9; clear hp9 hk9; obtain ⟨s0, s1, s2, s3⟩ := hb9t.four; have f0 := hb9t.frozen 0; have f1 := hb9t.frozen 1; have f2 := hb9t.frozen 2; have f3 := hb9t.frozen 3; obtain ⟨m0, m1, m2⟩ := hb9m.three; obtain ⟨r0, r1, r2, r3⟩ := hb9r.four; have p0 := hb9r.frozen 0; have p1 := hb9r.frozen 1; have p2 := hb9r.frozen 2; have p3 := hb9r.frozen 3; have hl9t := hb9t.lt; have hl9m := hb9m.lt; have hl9r := hb9r.lt; have HB9T := Lib.hid hb9t; have HB9R := Lib.hid hb9r; have HC9 := Lib.hid (And.intro hc9 hm9); have hcc : ¬ c9 = 1 := by (have := HN8.out; omega))
              (try simp only [Exit.inBlock, Exit.then])
              have HBF : Hid (Bk (((((w9.setCell ⟨w2.heap.size, 3, none⟩ (.slice (some ⟨g9, 0, none⟩) (n + 1) c9)).setCell ⟨w2.heap.size, 3, none⟩ (.slice (some ⟨g9, 3, none⟩) n (c9 - 1))).setCell ⟨w2.heap.size, 0, none⟩ (.slice pa P.ns.length pcap)).setCell ⟨w2.heap.size, 1, none⟩ (.int .i64 P.c)).setCell ⟨w2.heap.size, 2, none⟩ (.slice pb P.ks.length pcap2)) (w.heap.size + 1 + 1) 33 #[.slice none 0 0, .int .i64 0, .slice none 0 0, .slice none 0 0]) := Lib.hid (HB9R.out.kept (rows := [w2.heap.size]) (by (repeat (refine Kept.setCell ?_ (.inl (by simp)) _)); exact Kept.refl _ _) (by have := HNE9.out; simp; omega))
              refine bodyPost_ret (v := .tuple #[.agg #[.slice pa P.ns.length pcap, .int .i64 P.c, .slice pb P.ks.length pcap2, .slice (some ⟨g9, 3, none⟩) n (c9 - 1)], .bool true]) ?_ rfl ?_
              · rw [results_cell_tmp rfl]
                simp [asAddr, ret_desk (HBF.out.set4 (.slice pa P.ns.length pcap) (.int .i64 P.c) (.slice pb P.ks.length pcap2) (.slice (some ⟨g9, 3, none⟩) n (c9 - 1)))]
              · rw [HDO.out.1, HDO.out.2, went_is HEI.out HPI.out HYES.out, HYES.out, show d.past.length + 1 - 8 = 1 by rw [← HN.out]; have := HN8.out; omega]
                refine ⟨_, rfl, went_de (w9 := w9) (rows := [w2.heap.size, w.heap.size + 1 + 1]) ?_ (Alien.two HB9T.out HB9R.out) HPN9.out (by have h := HP9.out.ps.from 1 (by rw [List.length_append]; simp); exact h) (fun a' n' cap' e3 _ => by simp only [Value.slice.injEq, Option.some.injEq] at e3; obtain ⟨rfl, _, _⟩ := e3; obtain ⟨vs, htg, _, _⟩ := HP9.out; exact htg.pt ⟨g9, 0, none⟩ (n + 1) c9 rfl (by omega)), ?_, ⟨_, _, _, _, _, _, rfl, fun q hq => by cases hq; exact Nat.le_trans HK1Z.out (HP9.out.block (g := g9) rfl).1⟩, fun h8 => absurd h8 (by have := HN8.out; omega)⟩
                · (repeat (refine Kept.setCell ?_ (.inl (by simp)) _))
                  exact Kept.refl _ _
                · have hzA : w.heap.size ≤ w2.heap.size := by have := HZ13.out; omega
                  have hzB : w.heap.size ≤ w.heap.size + 1 + 1 := by omega
                  (repeat (refine Kept.setCell ?_ (.inr (by first | (with_reducible exact hzA) | (with_reducible exact hzB))) _))
                  exact HK9.out
          · have HNO : Hid (Nt.doD e ⟨k, a, b⟩ = none) := Lib.hid (by
              have h := HNB.out
              rw [hnb2] at h
              rw [HMAP.out, HMADE.out, if_neg]
              · rfl
              · rintro ⟨g1, g2⟩
                rw [g1] at h
                have e2 : Nt.ptxt P = Nt.ptxt e.now.i := by simpa using h
                rw [Nt.ptxt_ok HE.out.now] at e2
                exact g2 e2)
            have HDEC : Hid (De wc (.agg #[.slice va d.now.ns.length vc, .int .i64 d.now.c, .slice ua d.now.ks.length uc, .slice ra n rc]) d) := Lib.hid (by
              obtain ⟨vs, htg, _, _⟩ := id HPC.out
              exact ⟨_, _, _, rfl, HVC.out.mono (Nat.zero_le _), HUC.out.mono (Nat.zero_le _), HPC.out.ps.mono (Nat.zero_le _), htg.pt⟩)
            clear hnb2
            obtain ⟨r0, r1, r2, r3⟩ := HRC.out.four
            have f0 := HRC.out.frozen 0
            have f1 := HRC.out.frozen 1
            have f2 := HRC.out.frozen 2
            have f3 := HRC.out.frozen 3
            have hzr := HRC.out.lt
            go_wp2
            (try simp only [Exit.inBlock, Exit.then])
            refine bodyPost_ret (v := .tuple #[.agg #[.slice va d.now.ns.length vc, .int .i64 d.now.c, .slice ua d.now.ks.length uc, .slice ra n rc], .bool false]) ?_ rfl ?_
            · rw [results_cell_tmp rfl]
              simp [asAddr, ret_desk (HRC.out.set4 _ _ _ _)]
            · have e2 : (Nt.goD e ⟨k, a, b⟩).i = d := by unfold Nt.goD; rw [HNO.out, HEI.out]; rfl
              rw [HDO.out.1, HDO.out.2, HNO.out, e2]
              exact ⟨_, rfl, HDEC.out.alien (Kept.rows4 wc (w.heap.size + 1 + 1) _ _ _ _) (Alien.one HRC.out), HKC.out.set4 (by omega) _ _ _ _, ⟨_, _, _, _, _, _, rfl, fun q hq => Nat.le_trans HK1Z.out (HRB.out q.block (by rw [hq]; rfl)).1⟩, fun _ => ⟨_, _, _, _, rfl, (HPC.out.pm.alien (Kept.rows4 wc (w.heap.size + 1 + 1) _ _ _ _) (Alien.one HRC.out)).mono HK1Z.out⟩⟩

theorem sDeskDo_any (d : Nt.Di) (k a b : Int) (w : World) (x : Value) (h : De w x d) :
    Calls Tryz.prog 76 #[x, .agg #[.int .i64 k, .int .i64 a, .int .i64 b]] w fun e' w' => ∃ y, e' = .returned (.tuple #[y, .bool (Nt.ddoB d ⟨k, a, b⟩)]) ∧ De w' y (Nt.ddo d ⟨k, a, b⟩) ∧ Kept [] w w' :=
  (sDeskDoB_any d k a b w x h).mono (by rintro e' w' ⟨y, rfl, h1, h2, _⟩; exact ⟨y, rfl, h1, h2⟩)
end Go.Proofs.YtnajdbnacdnnlaaGreatDoor

namespace Go.Proofs.YtnajdbnacdnnlaaGreatDoor
open Go.RowKit

/-- A slice of deeds, wherever it lies. -/
def Ds (w : World) (v : Value) (ds : List Nt.Dd) : Prop :=
  ∃ (a : Option Addr) (cap : Nat), v = .slice a ds.length cap ∧ ds.length ≤ cap ∧ cap ≤ 9223372036854775807 ∧
    ∀ k, k < ds.length → ∃ g off, a = some ⟨g, off, none⟩ ∧ g < w.heap.size ∧ w.cell? ⟨g, off + k * 3, none⟩ = some (.int .i64 (ds.getD k ⟨0, 0, 0⟩).kind) ∧ w.cell? ⟨g, off + k * 3 + 1, none⟩ = some (.int .i64 (ds.getD k ⟨0, 0, 0⟩).a) ∧ w.cell? ⟨g, off + k * 3 + 2, none⟩ = some (.int .i64 (ds.getD k ⟨0, 0, 0⟩).b)
theorem Ds.stay {w w' : World} {v : Value} {ds : List Nt.Dd} (h : Ds w v ds) (hk : Kept [] w w') : Ds w' v ds := by
  obtain ⟨a, cap, rfl, h1, h2, h3⟩ := h
  refine ⟨a, cap, rfl, h1, h2, fun k hkl => ?_⟩
  obtain ⟨g, off, e, hg, c0, c1, c2⟩ := h3 k hkl
  exact ⟨g, off, e, Nat.lt_of_lt_of_le hg hk.size, (hk.cell (p := ⟨g, off + k * 3, none⟩) hg (by simp)).trans c0, (hk.cell (p := ⟨g, off + k * 3 + 1, none⟩) hg (by simp)).trans c1, (hk.cell (p := ⟨g, off + k * 3 + 2, none⟩) hg (by simp)).trans c2⟩
theorem Dg.ds {w : World} {base : Nat} {v : Value} {ds : List Nt.Dd} (h : Dg w base v ds) : Ds w v ds := by
  have hl : (ds.map d3).length = ds.length := List.length_map ..
  rcases Tg.form h with ⟨rfl, e⟩ | ⟨g, cap, rfl, hb, hg, hc, hm, hcell, _⟩
  · have e2 : ds = [] := by simpa using e
    subst e2
    exact ⟨none, 0, rfl, by simp, by simp, fun k hk => by simp at hk⟩
  · refine ⟨_, cap, by rw [hl], by omega, hm, fun k hk => ⟨g, 0, rfl, hg, ?_⟩⟩
    obtain ⟨c0, c1, c2⟩ := hcell k (by omega)
    rw [d3_at ds hk] at c0 c1 c2
    rw [Nat.zero_add]
    exact ⟨c0, c1, c2⟩
theorem take_dd {ds : List Nt.Dd} {k : Nat} (h : k < ds.length) : ds.take (k + 1) = ds.take k ++ [ds.getD k ⟨0, 0, 0⟩] := by
  rw [List.take_succ_eq_append_getElem h, List.getD_eq_getElem?_getD, List.getElem?_eq_getElem h]; rfl
theorem run_next {e : Nt.Dk} {ds : List Nt.Dd} {k : Nat} (h : k < ds.length) :
    Nt.runD e (ds.take (k + 1)) = Nt.goD (Nt.runD e (ds.take k)) (ds.getD k ⟨0, 0, 0⟩) ∧ Nt.cntD e (ds.take (k + 1)) = Nt.cntD e (ds.take k) + if (Nt.doD (Nt.runD e (ds.take k)) (ds.getD k ⟨0, 0, 0⟩)).isSome then 1 else 0 := by
  rw [take_dd h, Nt.runD_append, Nt.cntD_append]
  exact ⟨rfl, rfl⟩

set_option maxHeartbeats 4000000 in
set_option maxRecDepth 100000 in
theorem deskAfterAll_any (e : Nt.Dk) (he : Nt.DkOk e) (ds : List Nt.Dd) (hds : ds.length ≤ 2000000) (w : World) (x v : Value) (h : De w x e.i) (hv : Ds w v ds) :
    Calls Tryz.prog 71 #[x, v] w fun e' w' => ∃ y, e' = .returned (.tuple #[y, .int .i64 ((Nt.cntD e ds : Nat) : Int)]) ∧ De w' y (Nt.runD e ds).i ∧ Kept [] w w' := by
  have HE := Lib.hid he
  obtain ⟨n, hn⟩ : ∃ n, n = ds.length := ⟨_, rfl⟩
  have HN := Lib.hid hn
  have HNEXT := Lib.hid (fun k (hk : k < n) => run_next (e := e) (ds := ds) (k := k) (by omega))
  have HCL := Lib.hid (fun k => Nt.cntD_le e (ds.take k))
  have HV := Lib.hid hv
  obtain ⟨av, vcap, rfl, hvc, hvm, hvp⟩ := hv
  rw [← hn] at HV hvc hvp hds
  have HVP := Lib.hid hvp
  obtain ⟨xa, xn, xcap, xb, xm, xcap2, x3, xn3, xcap3, rfl⟩ := h.form
  obtain ⟨hk0, hb0, hr0⟩ := two_new w 33 33 #[.slice xa xn xcap, .int .i64 e.i.now.c, .slice xb xm xcap2, .slice x3 xn3 xcap3] #[.slice none 0 0, .int .i64 0, .slice none 0 0, .slice none 0 0]
  have HB := Lib.hid hb0
  have HR := Lib.hid hr0
  have HK0 := Lib.hid hk0
  have HX0 := Lib.hid (h.stay hk0)
  rw [← hn]
  clear hk0 hb0 hr0 h he hvp hn
  have hn63 : n ≤ 9223372036854775807 := by omega
  go_enter Tryz.func71, Tryz.ntmps71
  go_wp2
  generalize ((w.alloc (.cells #[.slice xa xn xcap, .int .i64 e.i.now.c, .slice xb xm xcap2, .slice x3 xn3 xcap3] 33)).alloc (.cells #[.slice none 0 0, .int .i64 0, .slice none 0 0, .slice none 0 0] 33)) = W0 at *
  go_loopw [6, 13] (fun c i wr => ∃ (k : Nat) (y : Value) (ya yb y3 : Option Addr) (yn ycap ym ycap2 yn3 ycap3 : Nat) (E : Nt.Dk), k ≤ n ∧ i = .int .i64 k ∧ c = .int .i64 ((Nt.cntD e (ds.take k) : Nat) : Int) ∧ E = Nt.runD e (ds.take k) ∧
      Bk wr w.heap.size 33 #[.slice ya yn ycap, .int .i64 E.i.now.c, .slice yb ym ycap2, .slice y3 yn3 ycap3] ∧ y = .agg #[.slice ya yn ycap, .int .i64 E.i.now.c, .slice yb ym ycap2, .slice y3 yn3 ycap3] ∧ De wr y E.i ∧
      Bk wr (w.heap.size + 1) 33 #[.slice none 0 0, .int .i64 0, .slice none 0 0, .slice none 0 0] ∧ Kept [] w wr) (fun _ i _ => n - (intOf i).toNat)
  case atStart => exact ⟨0, _, xa, xb, x3, xn, xcap, xm, xcap2, xn3, xcap3, e, Nat.zero_le _, rfl, rfl, rfl, HB.out, rfl, HX0.out, HR.out, HK0.out⟩
  case round =>
    clear HB HR HK0 HX0
    obtain ⟨k, y, ya, yb, y3, yn, ycap, ym, ycap2, yn3, ycap3, E, hk, rfl, rfl, hE, hbk, hy, hde, hrk, hkept⟩ := hrel
    subst hy
    have HDE := Lib.hid hde
    have HBK := Lib.hid hbk
    have HRK := Lib.hid hrk
    have HK := Lib.hid hkept
    have HEE := Lib.hid hE
    have HEO : Hid (Nt.DkOk E) := Lib.hid (by rw [hE]; exact Nt.runD_ok HE.out _)
    have hcl := HCL.out k
    have hcl2 : Nt.cntD e (ds.take k) ≤ 2000000 := Nat.le_trans hcl (by rw [List.length_take, ← HN.out]; omega)
    clear hde hrk hkept hcl
    by_cases hlt : k < n
    · obtain ⟨HNX1, HNX2⟩ := HNEXT.out k hlt
      rw [← hE] at HNX1 HNX2
      obtain ⟨g, off, rfl, hg, q0, q1, q2⟩ := HVP.out k hlt
      have s0 := (HK.out.cell (p := ⟨g, off + k * 3, none⟩) hg (by simp)).trans q0
      have s1 := (HK.out.cell (p := ⟨g, off + k * 3 + 1, none⟩) hg (by simp)).trans q1
      have s2 := (HK.out.cell (p := ⟨g, off + k * 3 + 2, none⟩) hg (by simp)).trans q2
      generalize ds.getD k ⟨0, 0, 0⟩ = dd at *
      obtain ⟨dk, da, db⟩ := dd
      simp only at s0 s1 s2
      have H1 := Lib.hid HNX1
      have H2 := Lib.hid HNX2
      have hka : Kept [] wr (wr.alloc (.cells #[.int .i64 dk, .int .i64 da, .int .i64 db] 41)) := (Kept.refl [] wr).alloc _
      have HD5 := Lib.hid (Bk.new wr 41 #[.int .i64 dk, .int .i64 da, .int .i64 db])
      have HB5 := Lib.hid (HBK.out.stay hka)
      have HR5 := Lib.hid (HRK.out.stay hka)
      have HK5 := Lib.hid (HK.out.trans hka (by simp))
      have HDE5 := Lib.hid (HDE.out.stay hka)
      obtain ⟨c0, c1, c2, c3⟩ := HB5.out.four
      obtain ⟨d0, d1, d2⟩ := HD5.out.three
      have hzb := HB5.out.lt
      have hzd := HD5.out.lt
      clear hka q0 q1 q2 HNX1 HNX2 hbk HDE hE
      generalize hcn : Nt.cntD e (ds.take k) = cn at *
      have HCN := Lib.hid hcn
      clear hcn
      go_wp2_with fail
      generalize wr.alloc (.cells #[.int .i64 dk, .int .i64 da, .int .i64 db] 41) = W5 at *
      refine (deskAfter_any E HEO.out dk da db _ _ HDE5.out).mono ?_
      rintro e' w6 ⟨y6, rfl, hde6, hk6⟩
      have HDE6 := Lib.hid hde6
      obtain ⟨za, zn, zcap, zb, zm, zcap2, z3, zn3, zcap3, rfl⟩ := hde6.form
      generalize hE6 : Nt.goD E ⟨dk, da, db⟩ = E6 at *
      have HE6 := Lib.hid hE6
      clear hE6
      have hka : Kept [] w6 (w6.alloc (.cells #[.slice za zn zcap, .int .i64 E6.i.now.c, .slice zb zm zcap2, .slice z3 zn3 zcap3] 33)) := (Kept.refl [] w6).alloc _
      have HT7 := Lib.hid (Bk.new w6 33 #[.slice za zn zcap, .int .i64 E6.i.now.c, .slice zb zm zcap2, .slice z3 zn3 zcap3])
      have HB7 := Lib.hid ((HB5.out.stay hk6).stay hka)
      have HR7 := Lib.hid ((HR5.out.stay hk6).stay hka)
      have HK7 := Lib.hid ((HK5.out.trans hk6 (by simp)).trans hka (by simp))
      have HDE7 := Lib.hid (HDE6.out.stay hka)
      have HDE7o := Lib.hid ((HDE5.out.stay hk6).stay hka)
      clear hde6 hk6 hka c0 c1 c2 c3 d0 d1 d2 hzb hzd HDE6 HB5 HR5 HK5 HDE5 HD5 s0 s1 s2
      obtain ⟨t0, t1, t2, t3⟩ := HT7.out.four
      obtain ⟨c0, c1, c2, c3⟩ := HB7.out.four
      have f0 := HB7.out.frozen 0
      have f1 := HB7.out.frozen 1
      have f2 := HB7.out.frozen 2
      have f3 := HB7.out.frozen 3
      have hzt := HT7.out.lt
      have hzb := HB7.out.lt
      cases hdone : (Nt.doD E ⟨dk, da, db⟩).isSome
      · rw [hdone] at H2
        have HSAME : Hid (E6 = E) := Lib.hid (by
          rw [← HE6.out]
          unfold Nt.goD
          cases e2 : Nt.doD E ⟨dk, da, db⟩ with
          | none => rfl
          | some z => rw [e2] at hdone; simp at hdone)
        clear hdone
        go_wp2
        go_roundw
        case rel => exact ⟨k + 1, _, ya, yb, y3, yn, ycap, ym, ycap2, yn3, ycap3, E, by omega, by go_num, by rw [H2.out]; go_num, by rw [H1.out, HSAME.out], HB7.out, rfl, HDE7o.out, HR7.out, HK7.out⟩
        case measure => simp [intOf]; omega
      · rw [hdone] at H2
        clear hdone
        go_wp2
        go_roundw
        case rel =>
          have hk4 := Kept.rows4 (w6.alloc (.cells #[.slice za zn zcap, .int .i64 E6.i.now.c, .slice zb zm zcap2, .slice z3 zn3 zcap3] 33)) w.heap.size (.slice za zn zcap) (.int .i64 E6.i.now.c) (.slice zb zm zcap2) (.slice z3 zn3 zcap3)
          exact ⟨k + 1, _, za, zb, z3, zn, zcap, zm, zcap2, zn3, zcap3, E6, by omega, by go_num, by rw [H2.out]; go_num, H1.out.symm, HB7.out.set4 _ _ _ _, rfl, HDE7.out.alien hk4 (Alien.one HB7.out), HR7.out.kept hk4 (by simp), HK7.out.set4 (Nat.le_refl _) _ _ _ _⟩
        case measure => simp [intOf]; omega
    · have hk' : k = n := by omega
      have HT : Hid (ds.take k = ds) := Lib.hid (by rw [hk', HN.out, List.take_length])
      rw [HT.out] at HEE
      obtain ⟨c0, c1, c2, c3⟩ := HBK.out.four
      obtain ⟨r0, r1, r2, r3⟩ := HRK.out.four
      have f0 := HRK.out.frozen 0
      have f1 := HRK.out.frozen 1
      have f2 := HRK.out.frozen 2
      have f3 := HRK.out.frozen 3
      have hzb := HBK.out.lt
      have hzr := HRK.out.lt
      rw [HT.out]
      clear hbk hE hk'
      go_wp2
      (try simp only [Exit.inBlock, Exit.then])
      refine bodyPost_ret (v := .tuple #[.agg #[.slice ya yn ycap, .int .i64 E.i.now.c, .slice yb ym ycap2, .slice y3 yn3 ycap3], .int .i64 ((Nt.cntD e ds : Nat) : Int)]) ?_ rfl ?_
      · rw [results_cell_tmp rfl]
        simp [asAddr, ret_desk (HRK.out.set4 _ _ _ _)]
      · rw [← HEE.out]
        exact ⟨_, rfl, HDE.out.alien (Kept.rows4 wr (w.heap.size + 1) _ _ _ _) (Alien.one HRK.out), HK.out.set4 (by omega) _ _ _ _⟩
end Go.Proofs.YtnajdbnacdnnlaaGreatDoor

namespace Go.Proofs.YtnajdbnacdnnlaaGreatDoor
open Go.RowKit

theorem drun_no1 {d : Nt.Di} (h : Nt.dkB d = false) (l : List Nt.Dd) : Nt.drun d l = Nt.Di.zero ∧ Nt.drunN d l = 0 := by
  unfold Nt.drun Nt.drunN
  rw [h, Bool.false_and, if_neg (by simp), if_neg (by simp)]
  exact ⟨rfl, rfl⟩
theorem drun_no2 (d : Nt.Di) {l : List Nt.Dd} (h : ¬ l.length ≤ 40) : Nt.drun d l = Nt.Di.zero ∧ Nt.drunN d l = 0 := by
  unfold Nt.drun Nt.drunN
  rw [decide_eq_false h, Bool.and_false, if_neg (by simp), if_neg (by simp)]
  exact ⟨rfl, rfl⟩
theorem drun_ok {e : Nt.Dk} (h : Nt.DkOk e) {l : List Nt.Dd} (hl : l.length ≤ 40) : Nt.drun e.i l = (Nt.runD e l).i ∧ Nt.drunN e.i l = ((Nt.cntD e l : Nat) : Int) := by
  unfold Nt.drun Nt.drunN
  rw [Nt.dkB_yes h, decide_eq_true hl, Bool.and_self, if_pos rfl, if_pos rfl, Nt.Dk.i_n]
  exact ⟨rfl, rfl⟩

set_option maxHeartbeats 4000000 in
set_option maxRecDepth 100000 in
theorem iDeskRun_any (d : Nt.Di) (ds : List Nt.Dd) (w : World) (x v : Value) (h : De w x d) (hv : Ds w v ds) :
    Calls Tryz.prog 19 #[x, v] w fun e' w' => ∃ y, e' = .returned (.tuple #[y, .int .i64 (Nt.drunN d ds)]) ∧ DxR w' w.heap.size y (Nt.drun d ds) ∧ Kept [] w w' := by
  have HV := Lib.hid hv
  obtain ⟨n, hn⟩ : ∃ n, n = ds.length := ⟨_, rfl⟩
  have HN := Lib.hid hn
  obtain ⟨av, vcap, rfl, hvc, hvm, _⟩ := hv
  rw [← hn] at HV hvc
  have hn63 : n ≤ 9223372036854775807 := by omega
  obtain ⟨xa, xn, xcap, xb, xm, xcap2, x3, xn3, xcap3, rfl⟩ := h.form
  obtain ⟨hk0, hb0, hr0⟩ := two_new w 33 33 #[.slice xa xn xcap, .int .i64 d.now.c, .slice xb xm xcap2, .slice x3 xn3 xcap3] #[.slice none 0 0, .int .i64 0, .slice none 0 0, .slice none 0 0]
  have HB := Lib.hid hb0
  have HR := Lib.hid hr0
  have HK0 := Lib.hid hk0
  have HX0 := Lib.hid (h.stay hk0)
  obtain ⟨c0, c1, c2, c3⟩ := hb0.four
  have hzb := hb0.lt
  rw [← hn]
  clear hk0 hb0 hr0 h hn
  go_enter Tryz.func19, Tryz.ntmps19
  go_wp2_with fail
  generalize ((w.alloc (.cells #[.slice xa xn xcap, .int .i64 d.now.c, .slice xb xm xcap2, .slice x3 xn3 xcap3] 33)).alloc (.cells #[.slice none 0 0, .int .i64 0, .slice none 0 0, .slice none 0 0] 33)) = W0 at *
  refine (iDeskOk_any d _ _ 0 HX0.out.dv).mono ?_
  rintro e' w1 ⟨rfl, hk1⟩
  have HB1 := Lib.hid (HB.out.stay hk1)
  have HR1 := Lib.hid (HR.out.stay hk1)
  have HK1 := Lib.hid (HK0.out.trans hk1 (by simp))
  have HX1 := Lib.hid (HX0.out.stay hk1)
  have HV1 := Lib.hid (HV.out.stay HK1.out)
  clear hk1 c0 c1 c2 c3 hzb HB HR HK0 HX0
  obtain ⟨c0, c1, c2, c3⟩ := HB1.out.four
  obtain ⟨r0, r1, r2, r3⟩ := HR1.out.four
  have f0 := HR1.out.frozen 0
  have f1 := HR1.out.frozen 1
  have f2 := HR1.out.frozen 2
  have f3 := HR1.out.frozen 3
  have hzb := HB1.out.lt
  have hzr := HR1.out.lt
  cases hok : Nt.dkB d
  · have HNO := Lib.hid (drun_no1 hok ds)
    clear hok
    go_wp2
    (try simp only [Exit.inBlock, Exit.then])
    refine bodyPost_ret (v := .tuple #[.agg #[.slice none 0 0, .int .i64 0, .slice none 0 0, .slice none 0 0], .int .i64 0]) ?_ rfl ?_
    · rw [results_cell_tmp rfl]
      simp [asAddr, ret_desk (HR1.out.set4 _ _ _ _)]
    · rw [HNO.out.1, HNO.out.2]
      exact ⟨_, rfl, .inl ⟨rfl, rfl⟩, HK1.out.set4 (by omega) _ _ _ _⟩
  · by_cases h40 : n ≤ 40
    · obtain ⟨e, he, hek⟩ := Nt.dkB_ok hok
      have HE := Lib.hid hek
      have HDO := Lib.hid (drun_ok hek (l := ds) (by rw [← HN.out]; exact h40))
      have HOK2 : Hid (Nt.dkB (Nt.runD e ds).i = true) := Lib.hid (Nt.dkB_yes (Nt.runD_ok hek _))
      have HX2 : Hid (De w1 (.agg #[.slice xa xn xcap, .int .i64 d.now.c, .slice xb xm xcap2, .slice x3 xn3 xcap3]) e.i) := Lib.hid (by rw [← he]; exact HX1.out)
      rw [← he] at HDO
      have d40 : decide ((n : Int) > 40) = false := dec_not (by omega)
      have d40' : decide ((40 : Int) < (n : Int)) = false := dec_not (by omega)
      clear hok he hek r0 r1 r2 r3 f0 f1 f2 f3
      go_wp2_with fail
      refine (deskAfterAll_any e HE.out ds (by rw [← HN.out]; omega) _ _ _ HX2.out HV1.out).mono ?_
      rintro e' w2 ⟨y2, rfl, hde, hk2⟩
      generalize hg : Nt.runD e ds = E2 at *
      generalize ho : ((Nt.cntD e ds : Nat) : Int) = O2 at *
      have HDE := Lib.hid hde
      have HR2 := Lib.hid (HR1.out.stay hk2)
      have HK2 := Lib.hid (HK1.out.trans hk2 (by simp))
      obtain ⟨ya, yn, ycap, yb, ym, ycap2, y3, yn3, ycap3, rfl⟩ := hde.form
      have hka : Kept [] w2 (w2.alloc (.cells #[.slice ya yn ycap, .int .i64 E2.i.now.c, .slice yb ym ycap2, .slice y3 yn3 ycap3] 33)) := (Kept.refl [] w2).alloc _
      have HT3 := Lib.hid (Bk.new w2 33 #[.slice ya yn ycap, .int .i64 E2.i.now.c, .slice yb ym ycap2, .slice y3 yn3 ycap3])
      have HR3 := Lib.hid (HR2.out.stay hka)
      have HK3 := Lib.hid (HK2.out.trans hka (by simp))
      have HDE3 := Lib.hid (HDE.out.stay hka)
      clear hg ho hde hk2 hka c0 c1 c2 c3 hzb hzr HB1 HR1 HK1 HX1 HX2 HR2 HK2 HDE HV1
      obtain ⟨t0, t1, t2, t3⟩ := HT3.out.four
      have hzt := HT3.out.lt
      go_wp2_with fail
      generalize w2.alloc (.cells #[.slice ya yn ycap, .int .i64 E2.i.now.c, .slice yb ym ycap2, .slice y3 yn3 ycap3] 33) = W3 at *
      refine (copiedDesk_any E2.i HOK2.out _ _ 0 HDE3.out.dv).mono ?_
      rintro e' w4 ⟨y4, G, C, r, vs, rfl, hdx, hk4⟩
      have HDX := Lib.hid hdx
      have HR4 := Lib.hid (HR3.out.stay hk4)
      have HK4 := Lib.hid (HK3.out.trans hk4 (by simp))
      have HZ := Lib.hid HR3.out.lt
      have HZ0 := Lib.hid HK3.out.size
      obtain ⟨g1, q1, g2, q2, z3, zn3, zc3, rfl⟩ := hdx.form
      clear hdx hk4 t0 t1 t2 t3 hzt
      obtain ⟨r0, r1, r2, r3⟩ := HR4.out.four
      have f0 := HR4.out.frozen 0
      have f1 := HR4.out.frozen 1
      have f2 := HR4.out.frozen 2
      have f3 := HR4.out.frozen 3
      have hrl := HR4.out.lt
      go_wp2
      (try simp only [Exit.inBlock, Exit.then])
      refine bodyPost_ret (v := .tuple #[.agg #[.slice (some ⟨g1, 0, none⟩) E2.i.now.ns.length q1, .int .i64 E2.i.now.c, .slice (some ⟨g2, 0, none⟩) E2.i.now.ks.length q2, .slice z3 zn3 zc3], .int .i64 O2]) ?_ rfl ?_
      · rw [results_cell_tmp rfl]
        simp [asAddr, ret_desk (HR4.out.set4 _ _ _ _)]
      · rw [HDO.out.1, HDO.out.2]
        exact ⟨_, rfl, .inr ⟨HOK2.out, G, C, r, vs, (HDX.out.kept (Kept.rows4 w4 (w.heap.size + 1) _ _ _ _) (fun g hg _ => by have := HZ.out; simp; omega)).mono HZ0.out⟩, HK4.out.set4 (by omega) _ _ _ _⟩
    · have HNO := Lib.hid (drun_no2 d (l := ds) (by rw [← HN.out]; exact h40))
      have d40 : decide ((n : Int) > 40) = true := dec_of (by omega)
      have d40' : decide ((40 : Int) < (n : Int)) = true := dec_of (by omega)
      clear hok h40
      go_wp2
      (try simp only [Exit.inBlock, Exit.then])
      refine bodyPost_ret (v := .tuple #[.agg #[.slice none 0 0, .int .i64 0, .slice none 0 0, .slice none 0 0], .int .i64 0]) ?_ rfl ?_
      · rw [results_cell_tmp rfl]
        simp [asAddr, ret_desk (HR1.out.set4 _ _ _ _)]
      · rw [HNO.out.1, HNO.out.2]
        exact ⟨_, rfl, .inl ⟨rfl, rfl⟩, HK1.out.set4 (by omega) _ _ _ _⟩
end Go.Proofs.YtnajdbnacdnnlaaGreatDoor

namespace Go.Proofs.YtnajdbnacdnnlaaGreatDoor
open Go.RowKit

set_option maxHeartbeats 4000000 in
set_option maxRecDepth 100000 in
theorem sRun_any (e : Nt.Dk) (he : Nt.DkOk e) (ds : List Nt.Dd) (hds : ds.length ≤ 2000000) (w : World) (x v : Value) (h : De w x e.i) (hv : Ds w v ds) :
    Calls Tryz.prog 152 #[x, v] w fun e' w' => ∃ y, e' = .returned (.tuple #[y, .int .i64 ((Nt.cntD e ds : Nat) : Int)]) ∧ De w' y (Nt.runD e ds).i ∧ Kept [] w w' := by
  have HE := Lib.hid he
  have HOK := Lib.hid (Nt.dkB_yes he)
  obtain ⟨n, hn⟩ : ∃ n, n = ds.length := ⟨_, rfl⟩
  have HN := Lib.hid hn
  have HNEXT := Lib.hid (fun k (hk : k < n) => run_next (e := e) (ds := ds) (k := k) (by omega))
  have HCL := Lib.hid (fun k => Nt.cntD_le e (ds.take k))
  obtain ⟨av, vcap, rfl, hvc, hvm, hvp⟩ := hv
  rw [← hn] at hvc hvp hds
  have HVP := Lib.hid hvp
  obtain ⟨xa, xn, xcap, xb, xm, xcap2, x3, xn3, xcap3, rfl⟩ := h.form
  obtain ⟨hk0, hb0, hr0⟩ := two_new w 33 33 #[.slice xa xn xcap, .int .i64 e.i.now.c, .slice xb xm xcap2, .slice x3 xn3 xcap3] #[.slice none 0 0, .int .i64 0, .slice none 0 0, .slice none 0 0]
  have HB := Lib.hid hb0
  have HR := Lib.hid hr0
  have HK0 := Lib.hid hk0
  have HX0 := Lib.hid (h.stay hk0)
  obtain ⟨c0, c1, c2, c3⟩ := hb0.four
  have hzb := hb0.lt
  rw [← hn]
  clear hk0 hb0 hr0 h he hvp hn
  have hn63 : n ≤ 9223372036854775807 := by omega
  go_enter Tryz.func152, Tryz.ntmps152
  go_wp2_with fail
  generalize ((w.alloc (.cells #[.slice xa xn xcap, .int .i64 e.i.now.c, .slice xb xm xcap2, .slice x3 xn3 xcap3] 33)).alloc (.cells #[.slice none 0 0, .int .i64 0, .slice none 0 0, .slice none 0 0] 33)) = W0 at *
  refine (sCopy_any e.i HOK.out _ _ 0 HX0.out.dv).mono ?_
  rintro e' w1 ⟨y1, rfl, hdv1, hk1⟩
  have HDE1 := Lib.hid hdv1.de
  obtain ⟨ga, gn, gcap, gb, gm, gcap2, g3, gn3, gcap3, rfl⟩ := hdv1.de.form
  have hka : Kept [] w1 (w1.alloc (.cells #[.slice ga gn gcap, .int .i64 e.i.now.c, .slice gb gm gcap2, .slice g3 gn3 gcap3] 33)) := (Kept.refl [] w1).alloc _
  have HT2 := Lib.hid (Bk.new w1 33 #[.slice ga gn gcap, .int .i64 e.i.now.c, .slice gb gm gcap2, .slice g3 gn3 gcap3])
  have HR2 := Lib.hid ((HR.out.stay hk1).stay hka)
  have HK2 := Lib.hid ((HK0.out.trans hk1 (by simp)).trans hka (by simp))
  have HDE2 := Lib.hid (HDE1.out.stay hka)
  have HZ1 : Hid (w.heap.size + 1 < w1.heap.size) := Lib.hid (HR.out.stay hk1).lt
  clear hdv1 hk1 hka c0 c1 c2 c3 hzb HB HR HK0 HX0 HDE1
  go_wp2_with fail
  generalize w1.alloc (.cells #[.slice ga gn gcap, .int .i64 e.i.now.c, .slice gb gm gcap2, .slice g3 gn3 gcap3] 33) = W2 at *
  go_loopw [7, 8] (fun c i wr => ∃ (k : Nat) (y : Value) (ya yb y3 : Option Addr) (yn ycap ym ycap2 yn3 ycap3 : Nat) (E : Nt.Dk), k ≤ n ∧ i = .int .i64 k ∧ c = .int .i64 ((Nt.cntD e (ds.take k) : Nat) : Int) ∧ E = Nt.runD e (ds.take k) ∧
      Bk wr w1.heap.size 33 #[.slice ya yn ycap, .int .i64 E.i.now.c, .slice yb ym ycap2, .slice y3 yn3 ycap3] ∧ y = .agg #[.slice ya yn ycap, .int .i64 E.i.now.c, .slice yb ym ycap2, .slice y3 yn3 ycap3] ∧ De wr y E.i ∧
      Bk wr (w.heap.size + 1) 33 #[.slice none 0 0, .int .i64 0, .slice none 0 0, .slice none 0 0] ∧ Kept [] w wr) (fun _ i _ => n - (intOf i).toNat)
  case atStart => exact ⟨0, _, ga, gb, g3, gn, gcap, gm, gcap2, gn3, gcap3, e, Nat.zero_le _, rfl, rfl, rfl, HT2.out, rfl, HDE2.out, HR2.out, HK2.out⟩
  case round =>
    clear HT2 HR2 HK2 HDE2
    obtain ⟨k, y, ya, yb, y3, yn, ycap, ym, ycap2, yn3, ycap3, E, hk, rfl, rfl, hE, hbk, hy, hde, hrk, hkept⟩ := hrel
    subst hy
    have HDE := Lib.hid hde
    have HBK := Lib.hid hbk
    have HRK := Lib.hid hrk
    have HK := Lib.hid hkept
    have HEE := Lib.hid hE
    have HEO : Hid (Nt.DkOk E) := Lib.hid (by rw [hE]; exact Nt.runD_ok HE.out _)
    have hcl := HCL.out k
    have hcl2 : Nt.cntD e (ds.take k) ≤ 2000000 := Nat.le_trans hcl (by rw [List.length_take, ← HN.out]; omega)
    clear hde hrk hkept hcl
    by_cases hlt : k < n
    · obtain ⟨HNX1, HNX2⟩ := HNEXT.out k hlt
      rw [← hE] at HNX1 HNX2
      obtain ⟨g, off, rfl, hg, q0, q1, q2⟩ := HVP.out k hlt
      have s0 := (HK.out.cell (p := ⟨g, off + k * 3, none⟩) hg (by simp)).trans q0
      have s1 := (HK.out.cell (p := ⟨g, off + k * 3 + 1, none⟩) hg (by simp)).trans q1
      have s2 := (HK.out.cell (p := ⟨g, off + k * 3 + 2, none⟩) hg (by simp)).trans q2
      generalize ds.getD k ⟨0, 0, 0⟩ = dd at *
      obtain ⟨dk, da, db⟩ := dd
      simp only at s0 s1 s2
      have H1 := Lib.hid HNX1
      have H2 := Lib.hid HNX2
      obtain ⟨c0, c1, c2, c3⟩ := HBK.out.four
      have hzb := HBK.out.lt
      have s0d : wr.drew.cell? ⟨g, off + k * 3, none⟩ = some (.int .i64 dk) := s0
      have s1d : wr.drew.cell? ⟨g, off + k * 3 + 1, none⟩ = some (.int .i64 da) := s1
      have s2d : wr.drew.cell? ⟨g, off + k * 3 + 2, none⟩ = some (.int .i64 db) := s2
      have c0d : wr.drew.cell? ⟨w1.heap.size, 0, none⟩ = some (.slice ya yn ycap) := c0
      have c1d : wr.drew.cell? ⟨w1.heap.size, 1, none⟩ = some (.int .i64 E.i.now.c) := c1
      have c2d : wr.drew.cell? ⟨w1.heap.size, 2, none⟩ = some (.slice yb ym ycap2) := c2
      have c3d : wr.drew.cell? ⟨w1.heap.size, 3, none⟩ = some (.slice y3 yn3 ycap3) := c3
      have HGL := Lib.hid (Nat.lt_of_lt_of_le hg HK.out.size)
      have HSB : Hid (∀ w', Kept [] wr w' → w'.cell? ⟨w1.heap.size, 0, none⟩ = some (.slice ya yn ycap) ∧ w'.cell? ⟨w1.heap.size, 1, none⟩ = some (.int .i64 E.i.now.c) ∧ w'.cell? ⟨w1.heap.size, 2, none⟩ = some (.slice yb ym ycap2) ∧ w'.cell? ⟨w1.heap.size, 3, none⟩ = some (.slice y3 yn3 ycap3) ∧ w'.cell? ⟨g, off + k * 3, none⟩ = some (.int .i64 dk) ∧ w'.cell? ⟨g, off + k * 3 + 1, none⟩ = some (.int .i64 da) ∧ w'.cell? ⟨g, off + k * 3 + 2, none⟩ = some (.int .i64 db)) := Lib.hid (fun w' k' => ⟨(HBK.out.stay k').four.1, (HBK.out.stay k').four.2.1, (HBK.out.stay k').four.2.2.1, (HBK.out.stay k').four.2.2.2, (k'.cell (p := ⟨g, off + k * 3, none⟩) HGL.out (by simp)).trans s0, (k'.cell (p := ⟨g, off + k * 3 + 1, none⟩) HGL.out (by simp)).trans s1, (k'.cell (p := ⟨g, off + k * 3 + 2, none⟩) HGL.out (by simp)).trans s2⟩)
      have HCALL : Hid (∀ W, Kept [] wr W → Calls Tryz.prog 76 #[.agg #[.slice ya yn ycap, .int .i64 E.i.now.c, .slice yb ym ycap2, .slice y3 yn3 ycap3], .agg #[.int .i64 dk, .int .i64 da, .int .i64 db]] W fun e' w' => ∃ za zn zcap zb zm zcap2 z3 zn3 zcap3, e' = .returned (.tuple #[.agg #[.slice za zn zcap, .int .i64 (Nt.goD E ⟨dk, da, db⟩).i.now.c, .slice zb zm zcap2, .slice z3 zn3 zcap3], .bool (Nt.doD E ⟨dk, da, db⟩).isSome]) ∧ Hid (De w' (.agg #[.slice za zn zcap, .int .i64 (Nt.goD E ⟨dk, da, db⟩).i.now.c, .slice zb zm zcap2, .slice z3 zn3 zcap3]) (Nt.goD E ⟨dk, da, db⟩).i) ∧ Kept [] W w' ∧ Kept [] wr w') := Lib.hid (fun W k' => (sDeskDo_any E.i dk da db W _ (HDE.out.stay k')).mono (by
        rintro e' w' ⟨y, rfl, hde, hk⟩
        obtain ⟨g1, g2⟩ := Nt.ddo_ok HEO.out ⟨dk, da, db⟩
        rw [g1] at hde
        rw [g2]
        obtain ⟨za, zn, zcap, zb, zm, zcap2, z3, zn3, zcap3, rfl⟩ := hde.form
        exact ⟨za, zn, zcap, zb, zm, zcap2, z3, zn3, zcap3, rfl, hde, hk, k'.trans hk (by simp)⟩))
      clear s0d s1d s2d c0d c1d c2d c3d
      clear q0 q1 q2 HNX1 HNX2 hbk hE
      generalize hcn : Nt.cntD e (ds.take k) = cn at *
      have HCN := Lib.hid hcn
      clear hcn
      go_wp2_with fail
      go_cut [9, 10] from 13 to 31 (fun u9 u10 wc => ∃ (bp : Nat) (za zb z3 : Option Addr) (zn zcap zm zcap2 zn3 zcap3 : Nat), u9 = .pointer (some ⟨bp, 0, none⟩) ∧ u10 = .bool (Nt.doD E ⟨dk, da, db⟩).isSome ∧ Bk wc bp 33 #[.slice za zn zcap, .int .i64 (Nt.goD E ⟨dk, da, db⟩).i.now.c, .slice zb zm zcap2, .slice z3 zn3 zcap3] ∧ De wc (.agg #[.slice za zn zcap, .int .i64 (Nt.goD E ⟨dk, da, db⟩).i.now.c, .slice zb zm zcap2, .slice z3 zn3 zcap3]) (Nt.goD E ⟨dk, da, db⟩).i ∧ Kept [] wr wc)
      case first =>
        generalize Nt.goD E ⟨dk, da, db⟩ = E6 at *
        generalize (Nt.doD E ⟨dk, da, db⟩).isSome = O6 at *
        go_region_held3 (fun w' => w'.cell? ⟨w1.heap.size, 0, none⟩ = some (.slice ya yn ycap) ∧ w'.cell? ⟨w1.heap.size, 1, none⟩ = some (.int .i64 E.i.now.c) ∧ w'.cell? ⟨w1.heap.size, 2, none⟩ = some (.slice yb ym ycap2) ∧ w'.cell? ⟨w1.heap.size, 3, none⟩ = some (.slice y3 yn3 ycap3) ∧ w'.cell? ⟨g, off + k * 3, none⟩ = some (.int .i64 dk) ∧ w'.cell? ⟨g, off + k * 3 + 1, none⟩ = some (.int .i64 da) ∧ w'.cell? ⟨g, off + k * 3 + 2, none⟩ = some (.int .i64 db))
          ((refine HSB.out _ ?_; repeat (first | exact Kept.refl _ _ | assumption | apply Kept.alloc | apply Kept.drew | (refine Kept.setCell ?_ (.inr (by first | assumption | (simp; done) | (simp; omega) | omega)) _))))
          (first
          | (go_simp; go_at_call 76; refine (HCALL.out _ (by repeat (first | exact Kept.refl _ _ | assumption | apply Kept.alloc | apply Kept.drew))).mono ?_; rintro e' w6 ⟨za, zn, zcap, zb, zm, zcap2, z3, zn3, zcap3, rfl, HZ6, kk6, k6⟩; have z6 := k6.size; (first | (have hp6 : Bk w6 wr.heap.size 33 #[.slice none 0 0, .int .i64 0, .slice none 0 0, .slice none 0 0] := Bk.stay (Bk.new wr.drew _ _) kk6; have HP6 := Lib.hid hp6; obtain ⟨e0, e1, e2, e3⟩ := hp6.four; have f0 := hp6.frozen 0; have f1 := hp6.frozen 1; have f2 := hp6.frozen 2; have f3 := hp6.frozen 3; have hl6 := hp6.lt; clear hp6) | skip); clear kk6))
        · go_wp2_with fail
          go_meet
          have hka : Kept [] w6 (w6.alloc (.cells #[.slice za zn zcap, .int .i64 E6.i.now.c, .slice zb zm zcap2, .slice z3 zn3 zcap3] 33)) := (Kept.refl [] w6).alloc _
          exact ⟨_, za, zb, z3, zn, zcap, zm, zcap2, zn3, zcap3, rfl, rfl, Bk.new w6 _ _, HZ6.out.stay hka, k6.alloc _⟩
        · go_wp2_with fail
          go_meet
          have hk4 := Kept.rows4 w6 wr.heap.size (.slice za zn zcap) (.int .i64 E6.i.now.c) (.slice zb zm zcap2) (.slice z3 zn3 zcap3)
          exact ⟨_, za, zb, z3, zn, zcap, zm, zcap2, zn3, zcap3, rfl, rfl, HP6.out.set4 _ _ _ _, HZ6.out.alien hk4 (Alien.one HP6.out), k6.set4 (Nat.le_refl _) _ _ _ _⟩
      case rest =>
        obtain ⟨bp, za, zb, z3, zn, zcap, zm, zcap2, zn3, zcap3, rfl, rfl, hbc, hdc, hkc⟩ := hcut
        generalize hE6 : Nt.goD E ⟨dk, da, db⟩ = E6 at *
        have HE6 := Lib.hid hE6
        clear hE6
        have HT7 := Lib.hid hbc
        have HDE7 := Lib.hid hdc
        have HKC := Lib.hid hkc
        have HB7 := Lib.hid (HBK.out.stay hkc)
        have HR7 := Lib.hid (HRK.out.stay hkc)
        have HK7 := Lib.hid (HK.out.trans hkc (by simp))
        have HDE7o := Lib.hid (HDE.out.stay hkc)
        clear c0 c1 c2 c3 hzb s0 s1 s2 hbc hdc hkc HSB HCALL
        obtain ⟨t0, t1, t2, t3⟩ := HT7.out.four
        obtain ⟨c0, c1, c2, c3⟩ := HB7.out.four
        have f0 := HB7.out.frozen 0
        have f1 := HB7.out.frozen 1
        have f2 := HB7.out.frozen 2
        have f3 := HB7.out.frozen 3
        have hzt := HT7.out.lt
        have hzb := HB7.out.lt
        have HW1 : Hid (w.heap.size ≤ w1.heap.size) := Lib.hid (by have := HZ1.out; omega)
        cases hdone : (Nt.doD E ⟨dk, da, db⟩).isSome
        · rw [hdone] at H2
          have HSAME : Hid (E6 = E) := Lib.hid (by
            rw [← HE6.out]
            unfold Nt.goD
            cases e2 : Nt.doD E ⟨dk, da, db⟩ with
            | none => rfl
            | some z => rw [e2] at hdone; simp at hdone)
          clear hdone
          go_wp2
          go_roundw
          case rel => exact ⟨k + 1, _, ya, yb, y3, yn, ycap, ym, ycap2, yn3, ycap3, E, by omega, by go_num, by rw [H2.out]; go_num, by rw [H1.out, HSAME.out], HB7.out, rfl, HDE7o.out, HR7.out, HK7.out⟩
          case measure => simp [intOf]; omega
        · rw [hdone] at H2
          clear hdone
          go_wp2
          go_roundw
          case rel =>
            have hk4 := Kept.rows4 wc w1.heap.size (.slice za zn zcap) (.int .i64 E6.i.now.c) (.slice zb zm zcap2) (.slice z3 zn3 zcap3)
            exact ⟨k + 1, _, za, zb, z3, zn, zcap, zm, zcap2, zn3, zcap3, E6, by omega, by go_num, by rw [H2.out]; go_num, H1.out.symm, HB7.out.set4 _ _ _ _, rfl, HDE7.out.alien hk4 (Alien.one HB7.out), HR7.out.kept hk4 (by have := HZ1.out; simp; omega), HK7.out.set4 HW1.out _ _ _ _⟩
          case measure => simp [intOf]; omega
    · have hk' : k = n := by omega
      have HT : Hid (ds.take k = ds) := Lib.hid (by rw [hk', HN.out, List.take_length])
      rw [HT.out] at HEE
      obtain ⟨c0, c1, c2, c3⟩ := HBK.out.four
      obtain ⟨r0, r1, r2, r3⟩ := HRK.out.four
      have f0 := HRK.out.frozen 0
      have f1 := HRK.out.frozen 1
      have f2 := HRK.out.frozen 2
      have f3 := HRK.out.frozen 3
      have hzb := HBK.out.lt
      have hzr := HRK.out.lt
      rw [HT.out]
      clear hbk hE hk'
      go_wp2
      (try simp only [Exit.inBlock, Exit.then])
      refine bodyPost_ret (v := .tuple #[.agg #[.slice ya yn ycap, .int .i64 E.i.now.c, .slice yb ym ycap2, .slice y3 yn3 ycap3], .int .i64 ((Nt.cntD e ds : Nat) : Int)]) ?_ rfl ?_
      · rw [results_cell_tmp rfl]
        simp [asAddr, ret_desk (HRK.out.set4 _ _ _ _)]
      · rw [← HEE.out]
        exact ⟨_, rfl, HDE.out.alien (Kept.rows4 wr (w.heap.size + 1) _ _ _ _) (Alien.one HRK.out), HK.out.set4 (by omega) _ _ _ _⟩

end Go.Proofs.YtnajdbnacdnnlaaGreatDoor
