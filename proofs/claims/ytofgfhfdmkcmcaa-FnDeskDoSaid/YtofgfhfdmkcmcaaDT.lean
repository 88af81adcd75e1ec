/-
  Walks: a desk is drawn for DeskOk.
  Walks: desks and deeds drawn together.
  Walks: a desk and deeds drawn.
-/
import Derived.Test.YtofgfhfdmkcmcaaD35
namespace Go.Proofs.Ytofgfhfdmkcmcaa
open Go.RowKit

def DrawnDe (w : World) (e : Ending) (w' : World) : Prop := ∃ y, ∃ d : Nt.Di, e = .returned y ∧ De w' y d ∧ Kept [] w w'

set_option maxHeartbeats 1000000 in
set_option maxRecDepth 100000 in
theorem drawDeskOk_any (w : World) (v : Value) (ha : ArgB w v) : Calls Try.prog 17 #[v] w (DrawnDe w) := by
  have hka : Kept [] w (w.alloc (.cells #[.slice none 0 0, .int .i64 0, .slice none 0 0, .slice none 0 0] 32)) := (Kept.refl _ _).alloc _
  have HB0 := Lib.hid (Bk.new w 32 #[.slice none 0 0, .int .i64 0, .slice none 0 0, .slice none 0 0])
  have HA := Lib.hid (ha.stay hka)
  have HK0 := Lib.hid hka
  clear hka
  obtain ⟨a, n, cap, rfl, _, _, _⟩ := ha
  go_enter Try.func17, Try.ntmps17
  go_wp2_with fail
  generalize w.alloc (.cells #[.slice none 0 0, .int .i64 0, .slice none 0 0, .slice none 0 0] 32) = W0 at *
  refine (open_any _ _ HA.out).mono ?_
  rintro e w1 ⟨rfl, hr, hk⟩
  have HR := Lib.hid hr
  have HK := Lib.hid (HK0.out.trans hk (by simp))
  have HB1 := Lib.hid (HB0.out.stay hk)
  have HZ : Hid (w.heap.size < W0.heap.size) := Lib.hid HB0.out.lt
  clear hr hk HB0
  go_wp2_with fail
  refine (desk_any _ _ 0 (by omega) 2 (by omega) (by omega) _ HR.out).mono ?_
  rintro e w2 ⟨y, d, rfl, hdq, _, _, hk2⟩
  have hd := hdq.de
  clear hdq
  obtain ⟨b1, n1, c1, b2, n2, c2, b3, n3, c3, rfl⟩ := hd.form
  have HD := Lib.hid hd
  have HB2 := Lib.hid (HB1.out.kept hk2 (by have := HZ.out; simp; omega))
  have HK2 := Lib.hid (HK.out.trans hk2 (fun x hx => by have := HZ.out; right; simp at hx; omega))
  obtain ⟨r0, r1, r2, r3⟩ := HB2.out.four
  have f0 := HB2.out.frozen 0
  have f1 := HB2.out.frozen 1
  have f2 := HB2.out.frozen 2
  have f3 := HB2.out.frozen 3
  have hzr := HB2.out.lt
  clear hd hk2
  go_wp2
  (try simp only [Exit.inBlock, Exit.then])
  refine bodyPost_ret (results_cell_row rfl _ _ w.heap.size 32 #[.slice b1 n1 c1, .int .i64 d.now.c, .slice b2 n2 c2, .slice b3 n3 c3] (0, 0) _ rfl (HB2.out.set4 _ _ _ _) Try.underlying32 rfl (by kernel_rfl)) rfl ?_
  exact ⟨_, d, rfl, HD.out.alien (Kept.rows4 _ w.heap.size _ _ _ _) (Alien.one HB2.out), HK2.out.set4 (Nat.le_refl _) _ _ _ _⟩
end Go.Proofs.Ytofgfhfdmkcmcaa

namespace Go.Proofs.Ytofgfhfdmkcmcaa
open Go.RowKit

theorem results_cell_cell {fn : Func} {p q : Tmp} {ty tz : TypeId} (h : fn.results = #[.cell p ty, .cell q tz]) (tmps : Array Value) (P : Program) (w : World) :
    (results fn tmps).run P w =
      ((asAddr (tmps.getD p undef)).run P w).andThen fun a w₁ => ((loadVar ty a).run P w₁).andThen fun v w₂ => ((asAddr (tmps.getD q undef)).run P w₂).andThen fun b w₃ => ((loadVar tz b).run P w₃).andThen fun u w₄ => .ok (.tuple #[v, u]) w₄ := by
  simp only [results, h]
  simp [Sem.run_bind, Result.andThen]
theorem ret_deed {W : World} {g : Nat} {a b c : Value} (h : Bk W g 40 #[a, b, c]) :
    (loadVar 40 ⟨g, 0, none⟩).run Try.prog W = .ok (.agg #[a, b, c]) W :=
  run_loadVar_row W g 40 40 #[a, b, c] (0, 0) _ h Try.underlying40 rfl (by kernel_rfl)
def DrawnDd (w : World) (e : Ending) (w' : World) : Prop := ∃ y, ∃ (d : Nt.Di) (k a b : Int), e = .returned (.tuple #[y, .agg #[.int .i64 k, .int .i64 a, .int .i64 b]]) ∧ De w' y d ∧ Kept [] w w'
def DrawnDs (w : World) (e : Ending) (w' : World) : Prop := ∃ y u, ∃ (d : Nt.Di) (ds : List Nt.Dd), e = .returned (.tuple #[y, u]) ∧ De w' y d ∧ Ds w' u ds ∧ ds.length ≤ 41 ∧ ((u = .slice none 0 0 ∧ ds = []) ∨ ∃ g cap, u = .slice (some ⟨g, 0, none⟩) ds.length cap) ∧ Kept [] w w'
theorem Alien.deed {w : World} {g : Nat} {cs : Array Value} (h : Bk w g 40 cs) : Alien w [g] := fun i hi => by
  have e : i = g := by simpa using hi
  subst e
  exact ⟨cs, _, h, by decide, by decide⟩

set_option maxHeartbeats 4000000 in
set_option maxRecDepth 100000 in
theorem drawDeskDo_any (w : World) (v : Value) (ha : ArgB w v) : Calls Try.prog 26 #[v] w (DrawnDd w) := by
  obtain ⟨hka, hb0, hc0⟩ := two_new w 32 40 #[.slice none 0 0, .int .i64 0, .slice none 0 0, .slice none 0 0] #[.int .i64 0, .int .i64 0, .int .i64 0]
  have HO0 := Lib.hid hb0
  have HC0 := Lib.hid hc0
  have HA := Lib.hid (ha.stay hka)
  have HK0 := Lib.hid hka
  clear hka hb0 hc0
  obtain ⟨a, n, cap, rfl, _, _, _⟩ := ha
  go_enter Try.func26, Try.ntmps26
  go_wp2_with fail
  generalize ((w.alloc (.cells #[.slice none 0 0, .int .i64 0, .slice none 0 0, .slice none 0 0] 32)).alloc (.cells #[.int .i64 0, .int .i64 0, .int .i64 0] 40)) = W0 at *
  refine (open_any _ _ HA.out).mono ?_
  rintro e w1 ⟨rfl, hr, hk⟩
  have HR1 := Lib.hid hr
  have HK1 := Lib.hid (HK0.out.trans hk (by simp))
  have HO1 := Lib.hid (HO0.out.stay hk)
  have HC1 := Lib.hid (HC0.out.stay hk)
  have HRe : Hid (w.heap.size + 1 < W0.heap.size) := Lib.hid HC0.out.lt
  clear hr hk HO0 HC0 HA HK0
  go_wp2_with fail
  refine (desk_any _ _ 0 (by omega) 12 (by omega) (by omega) _ HR1.out).mono ?_
  rintro e w2 ⟨y, d, rfl, hd, hsm, hr2, hk2⟩
  generalize W0.heap.size = R at *
  have hR := HRe.out
  obtain ⟨ya, yn, yq, yb, ym, yr, y3, yl, ys, rfl⟩ := hd.de.form
  have hyn : yn ≤ 100 := by
    obtain ⟨v, u, r, e, hv, _⟩ := hd.de
    obtain ⟨a, c, e2, _⟩ := hv.any
    simp only [Value.agg.injEq, Array.mk.injEq, List.cons.injEq] at e
    rw [e2] at e
    simp only [Value.slice.injEq] at e
    rw [e.1.2.1]; exact hsm
  have hRB : R < w1.heap.size + 1 := by have := HR1.out.lt; omega
  have HYN := Lib.hid hyn
  have HB5W : Hid (w.heap.size + 1 < w2.heap.size) := Lib.hid (HC1.out.kept hk2 (by rw [List.mem_singleton]; omega)).lt
  have hka : Kept [] w2 (w2.alloc (.cells #[.slice ya yn yq, .int .i64 d.now.c, .slice yb ym yr, .slice y3 yl ys] 32)) := (Kept.refl _ _).alloc _
  have HB3 := Lib.hid (Bk.new w2 32 #[.slice ya yn yq, .int .i64 d.now.c, .slice yb ym yr, .slice y3 yl ys])
  have HD3 := Lib.hid (hd.stay hka)
  have HR3 := Lib.hid (hr2.kept hka (by simp))
  have HO3 := Lib.hid ((HO1.out.kept hk2 (by rw [List.mem_singleton]; omega)).stay hka)
  have HC3 := Lib.hid ((HC1.out.kept hk2 (by rw [List.mem_singleton]; omega)).stay hka)
  have HK3 := Lib.hid ((HK1.out.trans hk2 (fun x hx => .inr (by rw [List.mem_singleton] at hx; omega))).trans hka (by simp))
  have HRB := Lib.hid hRB
  clear hd hr2 hk2 hka hsm hyn HO1 HC1 HR1 HK1
  go_wp2_with fail
  generalize w2.alloc (.cells #[.slice ya yn yq, .int .i64 d.now.c, .slice yb ym yr, .slice y3 yl ys] 32) = W3 at *
  obtain ⟨b5, hb5⟩ : ∃ g, g = w2.heap.size := ⟨_, rfl⟩
  rw [← hb5] at HB3 HB5W ⊢
  have hb5R : b5 ≠ R := by
    have h1 := HB3.out
    intro e
    subst e
    obtain ⟨_, a, n, c, p, ty, hh, _⟩ := HR3.out
    unfold Bk at h1
    rw [h1] at hh
    have := congrArg Array.size (Obj.cells.inj (Option.some.inj hh)).1
    simp at this
  clear hb5
  have HSB : Hid (∀ w', Kept [R, w.heap.size, w.heap.size + 1] W3 w' → w'.cell? ⟨b5, 0, none⟩ = some (.slice ya yn yq) ∧ w'.cell? ⟨b5, 1, none⟩ = some (.int .i64 d.now.c) ∧ w'.cell? ⟨b5, 2, none⟩ = some (.slice yb ym yr) ∧ w'.cell? ⟨b5, 3, none⟩ = some (.slice y3 yl ys)) := Lib.hid (fun w' k' => (HB3.out.kept k' (by have := HB5W.out; simp; omega)).four)
  have K1x : Hid (Kept [R, w.heap.size, w.heap.size + 1] W3 W3.drew) := Lib.hid ((Kept.refl _ W3).drew)
  have HR4 := Lib.hid (HR3.out.kept ((Kept.refl [] W3).drew) (by simp))
  have HD4 := Lib.hid (HD3.out.stay ((Kept.refl [] W3).drew))
  have HO4 := Lib.hid (HO3.out.stay ((Kept.refl [] W3).drew))
  have HC4 := Lib.hid (HC3.out.stay ((Kept.refl [] W3).drew))
  have HK4 := Lib.hid (HK3.out.trans ((Kept.refl [] W3).drew) (by simp))
  clear HR3 HD3 HO3 HC3 HK3
  refine wp_region_held_drew (S := (fun w' => w'.cell? ⟨b5, 0, none⟩ = some (.slice ya yn yq) ∧ w'.cell? ⟨b5, 1, none⟩ = some (.int .i64 d.now.c) ∧ w'.cell? ⟨b5, 2, none⟩ = some (.slice yb ym yr) ∧ w'.cell? ⟨b5, 3, none⟩ = some (.slice y3 yl ys))) (by kernel_rfl) (HSB.out _ K1x.out) (fun hHeld => ?_)
  generalize W3.drew = X1 at *
  refine wpAnyH_take (i := 0) (v := ?_) (opAt_lst5 rfl) (by kernel_rfl) (by kernel_rfl) (by kernel_rfl) (fun _ _ _ h => h) (Or.inl ⟨by rfl, ?_⟩) (by assumption) ?_
  rotate_left
  · intro w9 hSw
    (try dsimp only at hSw)
    go_simp
    try with_reducible rfl
  try simp only [Act.put, List.setIfInBounds_toArray, List.set_cons_zero, List.set_cons_succ]
  refine wpAnyH_take (i := 1) (v := ?_) (opAt_lst5 rfl) (by kernel_rfl) (by kernel_rfl) (by kernel_rfl) (fun _ _ _ h => h) (Or.inl ⟨by rfl, ?_⟩) (by assumption) ?_
  rotate_left
  · intro w9 hSw
    (try dsimp only at hSw)
    go_simp
    try with_reducible rfl
  try simp only [Act.put, List.setIfInBounds_toArray, List.set_cons_zero, List.set_cons_succ]
  refine wpAnyH_take (i := 2) (v := ?_) (opAt_lst5 rfl) (by kernel_rfl) (by kernel_rfl) (by kernel_rfl) (fun _ _ _ h => h) (Or.inl ⟨by rfl, ?_⟩) (by assumption) ?_
  rotate_left
  · intro w9 hSw
    (try dsimp only at hSw)
    go_simp
    try with_reducible rfl
  try simp only [Act.put, List.setIfInBounds_toArray, List.set_cons_zero, List.set_cons_succ]
  refine wpAnyH_take (i := 3) (v := ?_) (opAt_lst5 rfl) (by kernel_rfl) (by kernel_rfl) (by kernel_rfl) (fun _ _ _ h => h) (Or.inl ⟨by rfl, ?_⟩) (by assumption) ?_
  rotate_left
  · intro w9 hSw
    (try dsimp only at hSw)
    go_simp
    try with_reducible rfl
  try simp only [Act.put, List.setIfInBounds_toArray, List.set_cons_zero, List.set_cons_succ]
  refine wpAnyH_ready (rs := [4]) (by kernel_rfl) (by simp) ?_
  refine AllReadyH.cons (opAt_lst5 rfl) (fun K hK => ?_) AllReadyH.nil
  go_simp
  go_at_call 58
  refine (deed_any _ R _ (by omega) _ HR4.out ya yb yn yq ym yr d.now.c HYN.out).mono ?_
  rintro e' X2 ⟨k, a, b, rfl, hr, hk⟩
  refine hK.out _ _ (HSB.out _ (K1x.out.trans hk (fun x hx => .inl (by simp at hx; simp [hx])))) (fun hHeld => ?_)
  clear hK K
  try simp only [Act.put, List.setIfInBounds_toArray, List.set_cons_zero, List.set_cons_succ]
  have HD5 := Lib.hid (HD4.out.rd HR4.out HRB.out hk)
  have HO5 := Lib.hid (HO4.out.kept hk (by rw [List.mem_singleton]; omega))
  have HC5 := Lib.hid (HC4.out.kept hk (by rw [List.mem_singleton]; omega))
  have HK5 := Lib.hid (HK4.out.trans hk (fun x hx => .inr (by rw [List.mem_singleton] at hx; omega)))
  have K2x := Lib.hid (K1x.out.trans hk (fun x hx => .inl (by simp at hx; simp [hx])))
  clear hr hk HD4 HO4 HC4 HK4 HR4
  have hk6 := Kept.rows4 X2 w.heap.size (.slice ya yn yq) (.int .i64 d.now.c) (.slice yb ym yr) (.slice y3 yl ys)
  have HD6 := Lib.hid (HD5.out.alien hk6 (Alien.one HO5.out))
  have HO6 := Lib.hid (HO5.out.set4 (.slice ya yn yq) (.int .i64 d.now.c) (.slice yb ym yr) (.slice y3 yl ys))
  have HC6 := Lib.hid (HC5.out.kept hk6 (by simp))
  have HK6 := Lib.hid (HK5.out.trans hk6 (fun x hx => .inr (by rw [List.mem_singleton] at hx; omega)))
  have K3x := Lib.hid (K2x.out.trans hk6 (fun x hx => .inl (by simp at hx; simp [hx])))
  refine wpAnyH_ready (rs := [5]) (by kernel_rfl) (by simp) ?_
  refine AllReadyH.cons (opAt_lst5 rfl) (fun K hK => ?_) AllReadyH.nil
  obtain ⟨o0, o1, o2, o3⟩ := HO5.out.four
  have of0 := HO5.out.frozen 0
  have of1 := HO5.out.frozen 1
  have of2 := HO5.out.frozen 2
  have of3 := HO5.out.frozen 3
  have ol := HO5.out.lt
  go_simp
  refine hK.out _ _ (HSB.out _ K3x.out) (fun hHeld => ?_)
  clear hK K
  try simp only [Act.put, List.setIfInBounds_toArray, List.set_cons_zero, List.set_cons_succ]
  clear o0 o1 o2 o3 of0 of1 of2 of3 ol hk6
  generalize ((((X2.setCell ⟨w.heap.size, 0, none⟩ (.slice ya yn yq)).setCell ⟨w.heap.size, 1, none⟩ (.int .i64 d.now.c)).setCell ⟨w.heap.size, 2, none⟩ (.slice yb ym yr)).setCell ⟨w.heap.size, 3, none⟩ (.slice y3 yl ys)) = X3 at *
  have hk7 := Kept.rows3 X3 (w.heap.size + 1) (.int .i64 k) (.int .i64 a) (.int .i64 b)
  have HD7 := Lib.hid (HD6.out.alien hk7 (Alien.deed HC6.out))
  have HC7 := Lib.hid (HC6.out.set3 (.int .i64 k) (.int .i64 a) (.int .i64 b))
  have HO7 := Lib.hid (HO6.out.kept hk7 (by simp))
  have HK7 := Lib.hid (HK6.out.trans hk7 (fun x hx => .inr (by rw [List.mem_singleton] at hx; omega)))
  have K4x := Lib.hid (K3x.out.trans hk7 (fun x hx => .inl (by simp at hx; simp [hx])))
  refine wpAnyH_ready (rs := [6]) (by kernel_rfl) (by simp) ?_
  refine AllReadyH.cons (opAt_lst5 rfl) (fun K hK => ?_) AllReadyH.nil
  obtain ⟨o0, o1, o2⟩ := HC6.out.three
  have of0 := HC6.out.frozen 0
  have of1 := HC6.out.frozen 1
  have of2 := HC6.out.frozen 2
  have ol := HC6.out.lt
  go_simp
  refine hK.out _ _ (HSB.out _ K4x.out) (fun hHeld => ?_)
  clear hK K
  try simp only [Act.put, List.setIfInBounds_toArray, List.set_cons_zero, List.set_cons_succ]
  refine wpAnyH_done (by kernel_rfl) ?_ _
  go_wp2
  (try simp only [Exit.inBlock, Exit.then])
  refine bodyPost_ret (v := .tuple #[.agg #[.slice ya yn yq, .int .i64 d.now.c, .slice yb ym yr, .slice y3 yl ys], .agg #[.int .i64 k, .int .i64 a, .int .i64 b]]) ?_ rfl ?_
  · rw [results_cell_cell rfl]
    simp [asAddr, ret_desk HO7.out, ret_deed HC7.out]
  · exact ⟨_, d, k, a, b, rfl, HD7.out.de, HK7.out⟩
end Go.Proofs.Ytofgfhfdmkcmcaa

namespace Go.Proofs.Ytofgfhfdmkcmcaa
open Go.RowKit

theorem dg_zeros {w : World} {g n : Nat} {v : Value} (h : Tg 40 w g v (List.replicate n (.int .i64 0, .int .i64 0, .int .i64 0))) : Dg w g v (List.replicate n ⟨0, 0, 0⟩) := by
  unfold Dg
  rw [show (List.replicate n (⟨0, 0, 0⟩ : Nt.Dd)).map d3 = List.replicate n (Value.int .i64 0, Value.int .i64 0, Value.int .i64 0) from by simp [d3]]
  exact h
theorem Dg.own {w : World} {base : Nat} {u : Value} {ds : List Nt.Dd} (h : Dg w base u ds) : (u = .slice none 0 0 ∧ ds = []) ∨ ∃ g cap, u = .slice (some ⟨g, 0, none⟩) ds.length cap := by
  rcases Tg.form h with ⟨rfl, e⟩ | ⟨g, cap, e, _⟩
  · exact .inl ⟨rfl, by simpa using e⟩
  · exact .inr ⟨g, cap, by rw [e, List.length_map]⟩

set_option maxRecDepth 100000 in
theorem upon_make41 {o : Oper} {a : Act} {K : Act → World → Prop} {Q : Exit → Act → World → Prop} {w : World}
    (h : ∀ g w', g = w.heap.size → Dg w' g (.slice (some ⟨g, 0, none⟩) 41 41) (List.replicate 41 ⟨0, 0, 0⟩) → Kept [] w w' →
      Oper.upon Try.prog o a K Q (Result.ok (Next.value (.slice (some ⟨g, 0, none⟩) 41 41)) w')) :
    Oper.upon Try.prog o a K Q ((Sem.run Try.prog (Instr.makeSlice 46 (.int .i64 41) (.int .i64 41)) w).andThen fun a w' => Result.ok (Next.value a) w') := by
  obtain ⟨i0, hi, hz0, hz1, hz2⟩ := info_parts info_deed
  obtain ⟨w', hrun, r1, r2⟩ := run_make_full (P := Try.prog) w w.heap.size 46 40 i0 (.agg #[.int .i64 0, .int .i64 0, .int .i64 0]) 3 Try.underlying46 hi hz0 hz1 .i64 .i64 41 (by rw [hz2]; omega) (by unfold maxLen; omega) (Nat.le_refl _)
  have hrun2 : Sem.run Try.prog (Instr.makeSlice 46 (.int .i64 41) (.int .i64 41)) w = Result.ok (.slice (some ⟨w.heap.size, 0, none⟩) 41 41) w' := hrun
  rw [hrun2]
  refine h _ w' rfl (dg_zeros ?_) ((Kept.refl _ _).grown r2 (by simp))
  have h1 := r1
  rw [show (Value.agg #[.int .i64 0, .int .i64 0, .int .i64 0]).cells = #[.int .i64 0, .int .i64 0, .int .i64 0] from rfl, tri_rep] at h1
  unfold Tg
  rw [List.length_replicate]
  exact h1

set_option maxHeartbeats 4000000 in
set_option maxRecDepth 100000 in
theorem drawDeskRun_any (w : World) (v : Value) (ha : ArgB w v) : Calls Try.prog 30 #[v] w (DrawnDs w) := by
  have hka : Kept [] w (w.alloc (.cells #[.slice none 0 0, .int .i64 0, .slice none 0 0, .slice none 0 0] 32)) := (Kept.refl _ _).alloc _
  have HO0 := Lib.hid (Bk.new w 32 #[.slice none 0 0, .int .i64 0, .slice none 0 0, .slice none 0 0])
  have HA := Lib.hid (ha.stay hka)
  have HK0 := Lib.hid hka
  clear hka
  obtain ⟨a, n, cap, rfl, _, _, _⟩ := ha
  go_enter Try.func30, Try.ntmps30
  go_wp2_with fail
  generalize w.alloc (.cells #[.slice none 0 0, .int .i64 0, .slice none 0 0, .slice none 0 0] 32) = W0 at *
  refine (open_any _ _ HA.out).mono ?_
  rintro e w1 ⟨rfl, hr, hk⟩
  have HR1 := Lib.hid hr
  have HK1 := Lib.hid (HK0.out.trans hk (by simp))
  have HO1 := Lib.hid (HO0.out.stay hk)
  have HRe : Hid (w.heap.size < W0.heap.size) := Lib.hid HO0.out.lt
  clear hr hk HO0 HA HK0
  go_wp2_with fail
  refine (desk_any _ _ 0 (by omega) 12 (by omega) (by omega) _ HR1.out).mono ?_
  rintro e w2 ⟨y, d, rfl, hd, hsm, hr2, hk2⟩
  generalize W0.heap.size = R at *
  have hR := HRe.out
  obtain ⟨ya, yn, yq, yb, ym, yr, y3, yl, ys, rfl⟩ := hd.de.form
  have hyn : yn ≤ 100 := by
    obtain ⟨v, u, r, e, hv, _⟩ := hd.de
    obtain ⟨a, c, e2, _⟩ := hv.any
    simp only [Value.agg.injEq, Array.mk.injEq, List.cons.injEq] at e
    rw [e2] at e
    simp only [Value.slice.injEq] at e
    rw [e.1.2.1]; exact hsm
  have hRB : R < w1.heap.size + 1 := by have := HR1.out.lt; omega
  have HYN := Lib.hid hyn
  have HB5W : Hid (w.heap.size < w2.heap.size) := Lib.hid (HO1.out.kept hk2 (by rw [List.mem_singleton]; omega)).lt
  have hka : Kept [] w2 (w2.alloc (.cells #[.slice ya yn yq, .int .i64 d.now.c, .slice yb ym yr, .slice y3 yl ys] 32)) := (Kept.refl _ _).alloc _
  have HB3 := Lib.hid (Bk.new w2 32 #[.slice ya yn yq, .int .i64 d.now.c, .slice yb ym yr, .slice y3 yl ys])
  have HD3 := Lib.hid (hd.stay hka)
  have HR3 := Lib.hid (hr2.kept hka (by simp))
  have HO3 := Lib.hid ((HO1.out.kept hk2 (by rw [List.mem_singleton]; omega)).stay hka)
  have HK3 := Lib.hid ((HK1.out.trans hk2 (fun x hx => .inr (by rw [List.mem_singleton] at hx; omega))).trans hka (by simp))
  have HRB := Lib.hid hRB
  clear hd hr2 hk2 hka hsm hyn HO1 HR1 HK1
  go_wp2_with fail
  generalize w2.alloc (.cells #[.slice ya yn yq, .int .i64 d.now.c, .slice yb ym yr, .slice y3 yl ys] 32) = W3 at *
  obtain ⟨b5, hb5⟩ : ∃ g, g = w2.heap.size := ⟨_, rfl⟩
  rw [← hb5] at HB3 HB5W ⊢
  have hb5R : b5 ≠ R := by
    have h1 := HB3.out
    intro e
    subst e
    obtain ⟨_, a, n, c, p, ty, hh, _⟩ := HR3.out
    unfold Bk at h1
    rw [h1] at hh
    have := congrArg Array.size (Obj.cells.inj (Option.some.inj hh)).1
    simp at this
  clear hb5
  go_wp2_with fail
  refine (odd_any _ R _ (by omega) 30 (by omega) (by omega) _ HR3.out).mono ?_
  rintro e w4 ⟨o, rfl, hr4, hk4⟩
  have HD3' := Lib.hid (HD3.out.rd HR3.out HRB.out hk4)
  have HB3' := Lib.hid (HB3.out.kept hk4 (by rw [List.mem_singleton]; exact hb5R))
  have HO3' := Lib.hid (HO3.out.kept hk4 (by rw [List.mem_singleton]; omega))
  have HK3' := Lib.hid (HK3.out.trans hk4 (fun x hx => .inr (by rw [List.mem_singleton] at hx; omega)))
  have HR3' := Lib.hid hr4
  clear hr4 hk4 HD3 HB3 HO3 HK3 HR3
  have HSB : Hid (∀ w', Kept [R, w.heap.size] w4 w' → w'.cell? ⟨b5, 0, none⟩ = some (.slice ya yn yq) ∧ w'.cell? ⟨b5, 1, none⟩ = some (.int .i64 d.now.c) ∧ w'.cell? ⟨b5, 2, none⟩ = some (.slice yb ym yr) ∧ w'.cell? ⟨b5, 3, none⟩ = some (.slice y3 yl ys)) := Lib.hid (fun w' k' => (HB3'.out.kept k' (by have := HB5W.out; simp; omega)).four)
  have K1x : Hid (Kept [R, w.heap.size] w4 w4.drew) := Lib.hid ((Kept.refl _ w4).drew)
  have HR4 := Lib.hid (HR3'.out.kept ((Kept.refl [] w4).drew) (by simp))
  have HD4 := Lib.hid (HD3'.out.stay ((Kept.refl [] w4).drew))
  have HO4 := Lib.hid (HO3'.out.stay ((Kept.refl [] w4).drew))
  have HK4 := Lib.hid (HK3'.out.trans ((Kept.refl [] w4).drew) (by simp))
  clear HR3' HD3' HO3' HK3'
  cases o
  · go_wp2_with fail
    refine wp_region_held_drew (S := (fun w' => w'.cell? ⟨b5, 0, none⟩ = some (.slice ya yn yq) ∧ w'.cell? ⟨b5, 1, none⟩ = some (.int .i64 d.now.c) ∧ w'.cell? ⟨b5, 2, none⟩ = some (.slice yb ym yr) ∧ w'.cell? ⟨b5, 3, none⟩ = some (.slice y3 yl ys))) (by kernel_rfl) (HSB.out _ K1x.out) (fun hHeld => ?_)
    generalize w4.drew = X1 at *
    have HX1 : Hid (w.heap.size < X1.heap.size) := Lib.hid HO4.out.lt
    refine wpAnyH_take (i := 0) (v := ?_) (opAt_lst5 rfl) (by kernel_rfl) (by kernel_rfl) (by kernel_rfl) (fun _ _ _ h => h) (Or.inl ⟨by rfl, ?_⟩) (by assumption) ?_
    rotate_left
    · intro w9 hSw
      (try dsimp only at hSw)
      go_simp
      try with_reducible rfl
    try simp only [Act.put, List.setIfInBounds_toArray, List.set_cons_zero, List.set_cons_succ]
    refine wpAnyH_take (i := 1) (v := ?_) (opAt_lst5 rfl) (by kernel_rfl) (by kernel_rfl) (by kernel_rfl) (fun _ _ _ h => h) (Or.inl ⟨by rfl, ?_⟩) (by assumption) ?_
    rotate_left
    · intro w9 hSw
      (try dsimp only at hSw)
      go_simp
      try with_reducible rfl
    try simp only [Act.put, List.setIfInBounds_toArray, List.set_cons_zero, List.set_cons_succ]
    refine wpAnyH_take (i := 2) (v := ?_) (opAt_lst5 rfl) (by kernel_rfl) (by kernel_rfl) (by kernel_rfl) (fun _ _ _ h => h) (Or.inl ⟨by rfl, ?_⟩) (by assumption) ?_
    rotate_left
    · intro w9 hSw
      (try dsimp only at hSw)
      go_simp
      try with_reducible rfl
    try simp only [Act.put, List.setIfInBounds_toArray, List.set_cons_zero, List.set_cons_succ]
    refine wpAnyH_take (i := 3) (v := ?_) (opAt_lst5 rfl) (by kernel_rfl) (by kernel_rfl) (by kernel_rfl) (fun _ _ _ h => h) (Or.inl ⟨by rfl, ?_⟩) (by assumption) ?_
    rotate_left
    · intro w9 hSw
      (try dsimp only at hSw)
      go_simp
      try with_reducible rfl
    try simp only [Act.put, List.setIfInBounds_toArray, List.set_cons_zero, List.set_cons_succ]
    refine wpAnyH_ready (rs := [4]) (by kernel_rfl) (by simp) ?_
    refine AllReadyH.cons (opAt_lst5 rfl) (fun K hK => ?_) AllReadyH.nil
    go_simp
    go_at_call 67
    refine (deeds_any _ R _ (by omega) _ HR4.out ya yb yn yq ym yr d.now.c HYN.out).mono ?_
    rintro e' X2 ⟨u, l, rfl, hdg, hl5, hr, hk⟩
    refine hK.out _ _ (HSB.out _ (K1x.out.trans hk (fun x hx => .inl (by simp at hx; simp [hx])))) (fun hHeld => ?_)
    clear hK K
    try simp only [Act.put, List.setIfInBounds_toArray, List.set_cons_zero, List.set_cons_succ]
    obtain ⟨ua, uc, rfl⟩ : ∃ a c, u = .slice a l.length c := by obtain ⟨a, c, e, _⟩ := Dg.ds hdg; exact ⟨a, c, e⟩
    have HU5 := Lib.hid hdg
    have HL5 := Lib.hid hl5
    have HD5 := Lib.hid (HD4.out.rd HR4.out HRB.out hk)
    have HO5 := Lib.hid (HO4.out.kept hk (by rw [List.mem_singleton]; omega))
    have HK5 := Lib.hid (HK4.out.trans hk (fun x hx => .inr (by rw [List.mem_singleton] at hx; omega)))
    have K2x := Lib.hid (K1x.out.trans hk (fun x hx => .inl (by simp at hx; simp [hx])))
    clear hr hk hdg hl5 HD4 HO4 HK4 HR4
    have hk6 := Kept.rows4 X2 w.heap.size (.slice ya yn yq) (.int .i64 d.now.c) (.slice yb ym yr) (.slice y3 yl ys)
    have HD6 := Lib.hid (HD5.out.alien hk6 (Alien.one HO5.out))
    have HO6 := Lib.hid (HO5.out.set4 (.slice ya yn yq) (.int .i64 d.now.c) (.slice yb ym yr) (.slice y3 yl ys))
    have HU6 := Lib.hid (Tg.kept HU5.out hk6 (fun g hg => by have := (Tg.block HU5.out hg).1; have := HX1.out; rw [List.mem_singleton]; omega))
    have HK6 := Lib.hid (HK5.out.trans hk6 (fun x hx => .inr (by rw [List.mem_singleton] at hx; omega)))
    have K3x := Lib.hid (K2x.out.trans hk6 (fun x hx => .inl (by simp at hx; simp [hx])))
    refine wpAnyH_ready (rs := [5]) (by kernel_rfl) (by simp) ?_
    refine AllReadyH.cons (opAt_lst5 rfl) (fun K hK => ?_) AllReadyH.nil
    obtain ⟨o0, o1, o2, o3⟩ := HO5.out.four
    have of0 := HO5.out.frozen 0
    have of1 := HO5.out.frozen 1
    have of2 := HO5.out.frozen 2
    have of3 := HO5.out.frozen 3
    have ol := HO5.out.lt
    go_simp
    refine hK.out _ _ (HSB.out _ K3x.out) (fun hHeld => ?_)
    clear hK K
    try simp only [Act.put, List.setIfInBounds_toArray, List.set_cons_zero, List.set_cons_succ]
    clear o0 o1 o2 o3 of0 of1 of2 of3 ol hk6
    generalize ((((X2.setCell ⟨w.heap.size, 0, none⟩ (.slice ya yn yq)).setCell ⟨w.heap.size, 1, none⟩ (.int .i64 d.now.c)).setCell ⟨w.heap.size, 2, none⟩ (.slice yb ym yr)).setCell ⟨w.heap.size, 3, none⟩ (.slice y3 yl ys)) = X3 at *
    refine wpAnyH_take (i := 6) (v := ?_) (opAt_lst5 rfl) (by kernel_rfl) (by kernel_rfl) (by kernel_rfl) (fun _ _ _ h => h) (Or.inl ⟨by rfl, ?_⟩) (by assumption) ?_
    rotate_left
    · intro w9 hSw
      (try dsimp only at hSw)
      go_simp
      try with_reducible rfl
    try simp only [Act.put, List.setIfInBounds_toArray, List.set_cons_zero, List.set_cons_succ]
    refine wpAnyH_done (by kernel_rfl) ?_ _
    go_wp2
    (try simp only [Exit.inBlock, Exit.then])
    refine bodyPost_ret (v := .tuple #[.agg #[.slice ya yn yq, .int .i64 d.now.c, .slice yb ym yr, .slice y3 yl ys], .slice ua l.length uc]) ?_ rfl ?_
    · rw [results_cell_tmp rfl]
      simp [asAddr, ret_desk HO6.out]
    · exact ⟨_, _, d, l, rfl, HD6.out.de, Dg.ds HU6.out, by have := HL5.out; omega, Dg.own HU6.out, HK6.out⟩
  · go_wp2_with fail
    refine wp_region_held_drew (S := (fun w' => w'.cell? ⟨b5, 0, none⟩ = some (.slice ya yn yq) ∧ w'.cell? ⟨b5, 1, none⟩ = some (.int .i64 d.now.c) ∧ w'.cell? ⟨b5, 2, none⟩ = some (.slice yb ym yr) ∧ w'.cell? ⟨b5, 3, none⟩ = some (.slice y3 yl ys))) (by kernel_rfl) (HSB.out _ K1x.out) (fun hHeld => ?_)
    generalize w4.drew = X1 at *
    have HX1 : Hid (w.heap.size < X1.heap.size) := Lib.hid HO4.out.lt
    refine wpAnyH_take (i := 0) (v := ?_) (opAt_lst5 rfl) (by kernel_rfl) (by kernel_rfl) (by kernel_rfl) (fun _ _ _ h => h) (Or.inl ⟨by rfl, ?_⟩) (by assumption) ?_
    rotate_left
    · intro w9 hSw
      (try dsimp only at hSw)
      go_simp
      try with_reducible rfl
    try simp only [Act.put, List.setIfInBounds_toArray, List.set_cons_zero, List.set_cons_succ]
    refine wpAnyH_ready (rs := [1, 2]) (by kernel_rfl) (by simp) ?_
    refine (AllReadyH.cons (opAt_lst5 rfl) (fun K hK => ?_) (AllReadyH.cons (opAt_lst5 rfl) (fun K hK => ?_) AllReadyH.nil))
    · go_simp
      refine upon_make41 ?_
      intro gM X2 hgM hdg hk
      subst hgM
      go_simp
      refine hK.out _ _ (HSB.out _ (K1x.out.trans hk (by simp))) (fun hHeld => ?_)
      clear hK K
      try simp only [Act.put, List.setIfInBounds_toArray, List.set_cons_zero, List.set_cons_succ]
      have HU5 := Lib.hid hdg
      have HD5 := Lib.hid (HD4.out.stay hk)
      have HO5 := Lib.hid (HO4.out.stay hk)
      have HK5 := Lib.hid (HK4.out.trans hk (by simp))
      have K2x := Lib.hid (K1x.out.trans hk (by simp))
      clear hk hdg HD4 HO4 HK4 HR4
      have hk6 := Kept.rows4 X2 w.heap.size (.slice ya yn yq) (.int .i64 d.now.c) (.slice yb ym yr) (.slice y3 yl ys)
      have HD6 := Lib.hid (HD5.out.alien hk6 (Alien.one HO5.out))
      have HO6 := Lib.hid (HO5.out.set4 (.slice ya yn yq) (.int .i64 d.now.c) (.slice yb ym yr) (.slice y3 yl ys))
      have HU6 := Lib.hid (Tg.kept HU5.out hk6 (fun g hg => by have := (Tg.block HU5.out hg).1; have := HX1.out; rw [List.mem_singleton]; omega))
      have HK6 := Lib.hid (HK5.out.trans hk6 (fun x hx => .inr (by rw [List.mem_singleton] at hx; omega)))
      have K3x := Lib.hid (K2x.out.trans hk6 (fun x hx => .inl (by simp at hx; simp [hx])))
      refine wpAnyH_ready (rs := [2]) (by kernel_rfl) (by simp) ?_
      refine AllReadyH.cons (opAt_lst5 rfl) (fun K hK => ?_) AllReadyH.nil
      obtain ⟨o0, o1, o2, o3⟩ := HO5.out.four
      have of0 := HO5.out.frozen 0
      have of1 := HO5.out.frozen 1
      have of2 := HO5.out.frozen 2
      have of3 := HO5.out.frozen 3
      have ol := HO5.out.lt
      go_simp
      refine hK.out _ _ (HSB.out _ K3x.out) (fun hHeld => ?_)
      clear hK K
      try simp only [Act.put, List.setIfInBounds_toArray, List.set_cons_zero, List.set_cons_succ]
      clear o0 o1 o2 o3 of0 of1 of2 of3 ol hk6
      generalize ((((X2.setCell ⟨w.heap.size, 0, none⟩ (.slice ya yn yq)).setCell ⟨w.heap.size, 1, none⟩ (.int .i64 d.now.c)).setCell ⟨w.heap.size, 2, none⟩ (.slice yb ym yr)).setCell ⟨w.heap.size, 3, none⟩ (.slice y3 yl ys)) = X3 at *
      refine wpAnyH_take (i := 3) (v := ?_) (opAt_lst5 rfl) (by kernel_rfl) (by kernel_rfl) (by kernel_rfl) (fun _ _ _ h => h) (Or.inl ⟨by rfl, ?_⟩) (by assumption) ?_
      rotate_left
      · intro w9 hSw
        (try dsimp only at hSw)
        go_simp
        try with_reducible rfl
      try simp only [Act.put, List.setIfInBounds_toArray, List.set_cons_zero, List.set_cons_succ]
      refine wpAnyH_done (by kernel_rfl) ?_ _
      go_wp2
      (try simp only [Exit.inBlock, Exit.then])
      refine bodyPost_ret (v := .tuple #[.agg #[.slice ya yn yq, .int .i64 d.now.c, .slice yb ym yr, .slice y3 yl ys], .slice (some ⟨X1.heap.size, 0, none⟩) 41 41]) ?_ rfl ?_
      · rw [results_cell_tmp rfl]
        simp [asAddr, ret_desk HO6.out]
      · exact ⟨_, _, d, List.replicate 41 ⟨0, 0, 0⟩, rfl, HD6.out.de, Dg.ds HU6.out, by simp, Dg.own HU6.out, HK6.out⟩
    · have hk6 := Kept.rows4 X1 w.heap.size (.slice ya yn yq) (.int .i64 d.now.c) (.slice yb ym yr) (.slice y3 yl ys)
      have HD5 := Lib.hid (HD4.out.alien hk6 (Alien.one HO4.out))
      have HO5 := Lib.hid (HO4.out.set4 (.slice ya yn yq) (.int .i64 d.now.c) (.slice yb ym yr) (.slice y3 yl ys))
      have HK5 := Lib.hid (HK4.out.trans hk6 (fun x hx => .inr (by rw [List.mem_singleton] at hx; omega)))
      have K2x := Lib.hid (K1x.out.trans hk6 (fun x hx => .inl (by simp at hx; simp [hx])))
      obtain ⟨o0, o1, o2, o3⟩ := HO4.out.four
      have of0 := HO4.out.frozen 0
      have of1 := HO4.out.frozen 1
      have of2 := HO4.out.frozen 2
      have of3 := HO4.out.frozen 3
      have ol := HO4.out.lt
      go_simp
      refine hK.out _ _ (HSB.out _ K2x.out) (fun hHeld => ?_)
      clear hK K
      try simp only [Act.put, List.setIfInBounds_toArray, List.set_cons_zero, List.set_cons_succ]
      clear o0 o1 o2 o3 of0 of1 of2 of3 ol hk6
      generalize ((((X1.setCell ⟨w.heap.size, 0, none⟩ (.slice ya yn yq)).setCell ⟨w.heap.size, 1, none⟩ (.int .i64 d.now.c)).setCell ⟨w.heap.size, 2, none⟩ (.slice yb ym yr)).setCell ⟨w.heap.size, 3, none⟩ (.slice y3 yl ys)) = X2 at *
      refine wpAnyH_ready (rs := [1]) (by kernel_rfl) (by simp) ?_
      refine AllReadyH.cons (opAt_lst5 rfl) (fun K hK => ?_) AllReadyH.nil
      go_simp
      refine upon_make41 ?_
      intro gM X3 hgM hdg hk
      subst hgM
      go_simp
      refine hK.out _ _ (HSB.out _ (K2x.out.trans hk (by simp))) (fun hHeld => ?_)
      clear hK K
      try simp only [Act.put, List.setIfInBounds_toArray, List.set_cons_zero, List.set_cons_succ]
      refine wpAnyH_take (i := 3) (v := ?_) (opAt_lst5 rfl) (by kernel_rfl) (by kernel_rfl) (by kernel_rfl) (fun _ _ _ h => h) (Or.inl ⟨by rfl, ?_⟩) (by assumption) ?_
      rotate_left
      · intro w9 hSw
        (try dsimp only at hSw)
        go_simp
        try with_reducible rfl
      try simp only [Act.put, List.setIfInBounds_toArray, List.set_cons_zero, List.set_cons_succ]
      have HU6 := Lib.hid hdg
      have HD6 := Lib.hid (HD5.out.stay hk)
      have HO6 := Lib.hid (HO5.out.stay hk)
      have HK6 := Lib.hid (HK5.out.trans hk (by simp))
      clear hk hdg
      refine wpAnyH_done (by kernel_rfl) ?_ _
      go_wp2
      (try simp only [Exit.inBlock, Exit.then])
      refine bodyPost_ret (v := .tuple #[.agg #[.slice ya yn yq, .int .i64 d.now.c, .slice yb ym yr, .slice y3 yl ys], .slice (some ⟨X2.heap.size, 0, none⟩) 41 41]) ?_ rfl ?_
      · rw [results_cell_tmp rfl]
        simp [asAddr, ret_desk HO6.out]
      · exact ⟨_, _, d, List.replicate 41 ⟨0, 0, 0⟩, rfl, HD6.out.de, Dg.ds HU6.out, by simp, Dg.own HU6.out, HK6.out⟩
end Go.Proofs.Ytofgfhfdmkcmcaa
