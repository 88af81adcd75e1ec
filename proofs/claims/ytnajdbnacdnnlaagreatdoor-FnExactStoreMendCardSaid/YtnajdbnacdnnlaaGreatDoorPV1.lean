/-
  Places in memory; whether a place is one, copies of places, by the model.
-/
import Derived.Test.YtnajdbnacdnnlaaGreatDoorFA
import Derived.Test.YtnajdbnacdnnlaaGreatDoorWA
import Derived.ArgAppend
import Derived.Deep.RegionLaw
import Derived.Deep.RegionHeld3
import Derived.Laws.ResultCell
import Derived.Laws.Rows
import Derived.StillTailTactics
namespace Go.Proofs.YtnajdbnacdnnlaaGreatDoor
open Go.RowKit

/-- A place as a value. -/
def Pv (w : World) (base : Nat) (x : Value) (p : Nt.Pi) : Prop := ∃ v u, x = .agg #[v, .int .i64 p.c, u] ∧ Sl w base v p.ns ∧ Sl w base u p.ks
theorem Pv.stay {w w' : World} {base : Nat} {x : Value} {p : Nt.Pi} (h : Pv w base x p) (hk : Kept [] w w') : Pv w' base x p := by
  obtain ⟨v, u, rfl, h1, h2⟩ := h
  exact ⟨v, u, rfl, h1.stay hk, h2.stay hk⟩
theorem Pv.mono {w : World} {base base' : Nat} {x : Value} {p : Nt.Pi} (h : Pv w base x p) (hb : base' ≤ base) : Pv w base' x p := by
  obtain ⟨v, u, rfl, h1, h2⟩ := h
  exact ⟨v, u, rfl, h1.mono hb, h2.mono hb⟩
theorem Pv.zero (w : World) (base : Nat) : Pv w base (.agg #[.slice none 0 0, .int .i64 0, .slice none 0 0]) Nt.Pi.zero := ⟨_, _, rfl, Sl.nil w base, Sl.nil w base⟩

/-- 'append([]int{}, ys...)', inside a statement whose order is open. -/
theorem step_app_fresh {ops : Array Oper} {o : Oper} {a : Act} {K : Act → World → Prop} {Q : Exit → Act → World → Prop} {E : Prop} {W : World} (hgd : o.guard = none) (s y : Operand)
    (ho : o.op = .call { callee := .builtin .append, args := #[s, y], argTypes := #[28, 28] })
    (b0 : Addr) (hs : a.eval s = .slice (some b0) 0 0) (v : Value) (base : Nat) (ys : List Int) (hy : Sl W base v ys) (hp : 0 < ys.length) (hx : a.eval y = v)
    (hlen : ys.length ≤ 1000000)
    (h : ∀ v' w', Sl w' W.heap.size v' ys → Kept [] W w' → K (a.put o.dst v') w') :
    if Region.wanted o (yielded ops a.tmps) = true then Oper.wp Tryz.prog o a W K Q else E := by
  have hw : Region.wanted o (yielded ops a.tmps) = true := by simp [Region.wanted, hgd]
  rw [if_pos hw]
  obtain ⟨i0, hi, hz0, hz1, hz2⟩ := info_parts info_int
  obtain ⟨b, c, rfl, _, _⟩ := hy.shape rfl hp
  obtain ⟨v', w', hrun, r1, r2⟩ := run_append_arg_grows (P := Tryz.prog) W 28 o.type 3 i0 (.int .i64 0) 1 8 Tryz.underlying28 hi hz0 hz1 hz2 rfl (by decide) b0 0 0 [] rfl (fun j u hu => by simp at hu) ⟨b, 0, none⟩ ys.length c (ints ys) (by simp [ints]) (fun j z hz => by
      have hj : j < ys.length := by
        have := (List.getElem?_eq_some_iff.1 hz).1
        simpa [ints] using this
      rw [ints_get ys j hj] at hz
      have e : (⟨b, 0, none⟩ : Addr).add j = ⟨b, j, none⟩ := by unfold Addr.add; split <;> simp_all
      rw [e, (hy.at j hj).1, hz]) (by omega) (by unfold maxLen; omega) (by omega)
  unfold Oper.wp
  simp [execOp, ho, resolve, invoke, builtin, hs, hx, hrun, Result.andThen]
  have hs' : Sl w' W.heap.size v' ys := by
    unfold Sl
    have e : 0 + ys.length = ys.length := by omega
    rw [List.nil_append, e] at r1
    exact r1
  exact h v' w' hs' ((Kept.refl _ _).grown r2 (by simp))

/-- The same, told of a world of before. -/
theorem step_app_fresh0 {ops : Array Oper} {o : Oper} {a : Act} {K : Act → World → Prop} {Q : Exit → Act → World → Prop} {E : Prop} {W : World} (W0 : World) (hkW : Kept [] W0 W) (hgd : o.guard = none) (s y : Operand)
    (ho : o.op = .call { callee := .builtin .append, args := #[s, y], argTypes := #[28, 28] })
    (b0 : Addr) (hs : a.eval s = .slice (some b0) 0 0) (v : Value) (base : Nat) (ys : List Int) (hy : Sl W0 base v ys) (hp : 0 < ys.length) (hx : a.eval y = v)
    (hlen : ys.length ≤ 1000000)
    (h : ∀ g q w', Sl w' W0.heap.size (.slice (some ⟨g, 0, none⟩) ys.length q) ys → Kept [] W0 w' → Kept [] W w' → W.heap.size ≤ g → K (a.put o.dst (.slice (some ⟨g, 0, none⟩) ys.length q)) w') :
    if Region.wanted o (yielded ops a.tmps) = true then Oper.wp Tryz.prog o a W K Q else E :=
  step_app_fresh hgd s y ho b0 hs v base ys (hy.stay hkW) hp hx hlen fun v' w' h1 h2 => by
    obtain ⟨g, q, rfl, hg, _⟩ := h1.shape rfl hp
    exact h g q w' (h1.mono hkW.size) (hkW.trans h2 (by simp)) h2 hg

/-- A block whose cells are known. -/
def Bk (w : World) (g : Nat) (T : TypeId) (cs : Array Value) : Prop := w.heap[g]? = some (.cells cs T (0, 0))
theorem Bk.lt {w : World} {g : Nat} {T : TypeId} {cs : Array Value} (h : Bk w g T cs) : g < w.heap.size := (Array.getElem?_eq_some_iff.1 h).1
theorem Bk.cell {w : World} {g : Nat} {T : TypeId} {cs : Array Value} (h : Bk w g T cs) (j : Nat) {v : Value} (hv : cs[j]? = some v) : w.cell? ⟨g, j, none⟩ = some v := by
  unfold Bk at h
  simp [World.cell?, h, hv]
theorem Bk.frozen {w : World} {g : Nat} {T : TypeId} {cs : Array Value} (h : Bk w g T cs) (j : Nat) : w.frozen? ⟨g, j, none⟩ = false := by
  unfold Bk at h
  simp [World.frozen?, h]
theorem Bk.set {w : World} {g : Nat} {T : TypeId} {cs : Array Value} (h : Bk w g T cs) (j : Nat) (v : Value) : Bk (w.setCell ⟨g, j, none⟩ v) g T (cs.setIfInBounds j v) := heap_setCell_same w g j cs T v h
theorem Bk.other {w : World} {g : Nat} {T : TypeId} {cs : Array Value} (h : Bk w g T cs) (p : Addr) (v : Value) (hp : g ≠ p.block) : Bk (w.setCell p v) g T cs := (heap_setCell_other w p g v hp).trans h
theorem Bk.kept {w w' : World} {g : Nat} {T : TypeId} {cs : Array Value} {rows : List Nat} (h : Bk w g T cs) (hk : Kept rows w w') (hn : ¬ g ∈ rows) : Bk w' g T cs := (hk.block g h.lt hn).trans h
theorem Bk.stay {w w' : World} {g : Nat} {T : TypeId} {cs : Array Value} (h : Bk w g T cs) (hk : Kept [] w w') : Bk w' g T cs := h.kept hk (by simp)
theorem Bk.new (w : World) (T : TypeId) (cs : Array Value) : Bk (w.alloc (.cells cs T)) w.heap.size T cs := heap_alloc_new _ _
theorem Bk.three {w : World} {g : Nat} {T : TypeId} {a b c : Value} (h : Bk w g T #[a, b, c]) : w.cell? ⟨g, 0, none⟩ = some a ∧ w.cell? ⟨g, 1, none⟩ = some b ∧ w.cell? ⟨g, 2, none⟩ = some c := ⟨h.cell 0 rfl, h.cell 1 rfl, h.cell 2 rfl⟩
theorem Bk.set3 {w : World} {g : Nat} {T : TypeId} {a b c : Value} (h : Bk w g T #[a, b, c]) (d e f : Value) : Bk (((w.setCell ⟨g, 0, none⟩ d).setCell ⟨g, 1, none⟩ e).setCell ⟨g, 2, none⟩ f) g T #[d, e, f] := ((h.set 0 d).set 1 e).set 2 f
theorem Kept.weak {w w' : World} (rows : List Nat) (h : Kept [] w w') : Kept rows w w' := ⟨h.os, h.tape, h.output, h.size, fun k hk _ => h.block k hk (by simp)⟩
theorem Kept.set3 {w w' : World} {g : Nat} (h : Kept [] w w') (hg : w.heap.size ≤ g) (d e f : Value) : Kept [] w (((w'.setCell ⟨g, 0, none⟩ d).setCell ⟨g, 1, none⟩ e).setCell ⟨g, 2, none⟩ f) :=
  ((h.setCell (.inr hg) d).setCell (.inr hg) e).setCell (.inr hg) f
theorem Kept.rows3 (w : World) (g : Nat) (d e f : Value) : Kept [g] w (((w.setCell ⟨g, 0, none⟩ d).setCell ⟨g, 1, none⟩ e).setCell ⟨g, 2, none⟩ f) :=
  (((Kept.refl [g] w).setCell (.inl (by simp)) d).setCell (.inl (by simp)) e).setCell (.inl (by simp)) f
/-- Two blocks, one behind the other: what comes in and what goes out. -/
theorem two_new (w : World) (T T2 : TypeId) (cs ds : Array Value) : Kept [] w ((w.alloc (.cells cs T)).alloc (.cells ds T2)) ∧ Bk ((w.alloc (.cells cs T)).alloc (.cells ds T2)) w.heap.size T cs ∧ Bk ((w.alloc (.cells cs T)).alloc (.cells ds T2)) (w.heap.size + 1) T2 ds := by
  have e1 : (w.alloc (.cells cs T)).heap.size = w.heap.size + 1 := by simp
  refine ⟨((Kept.refl _ _).alloc _).alloc _, (Bk.new w T cs).stay ((Kept.refl _ _).alloc _), ?_⟩
  rw [← e1]
  exact Bk.new _ _ _

set_option maxHeartbeats 1000000 in
set_option maxRecDepth 100000 in
theorem sPlaceOk_any (p : Nt.Pi) (w : World) (x : Value) (base : Nat) (h : Pv w base x p) :
    Calls Tryz.prog 64 #[x] w fun e w' => e = .returned (.bool (Nt.plB p)) ∧ Kept [] w w' := by
  obtain ⟨v, u, rfl, h1, h2⟩ := h
  have HK : Hid (Kept [] w (w.alloc (.cells #[v, .int .i64 p.c, u] 30))) := Lib.hid ((Kept.refl [] w).alloc _)
  have H1 := Lib.hid (h1.stay HK.out)
  have H2 := Lib.hid (h2.stay HK.out)
  obtain ⟨a, cap, rfl, _, _, _⟩ := h1.any
  obtain ⟨b, cap2, rfl, _, _, _⟩ := h2.any
  clear h1 h2
  go_enter Tryz.func64, Tryz.ntmps64
  go_wp2_with fail
  refine (l3Ok_any p.ns p.c p.ks _ _ _ _ _ H1.out H2.out).mono ?_
  rintro e w1 ⟨rfl, hq⟩
  have HK1 := Lib.hid (HK.out.trans hq.kept (by simp))
  clear hq
  go_wp2
  go_ret
  exact ⟨rfl, HK1.out⟩

set_option maxHeartbeats 1000000 in
set_option maxRecDepth 100000 in
theorem sPlaceA_any (p : Nt.Pi) (hn : 0 < p.ns.length ∧ p.ns.length ≤ 100) (hk : 0 < p.ks.length ∧ p.ks.length ≤ 100) (w : World) (x : Value) (base : Nat) (h : Pv w base x p) :
    Calls Tryz.prog 124 #[x] w fun e w' => ∃ g1 q1 g2 q2, e = .returned (.agg #[.slice (some ⟨g1, 0, none⟩) p.ns.length q1, .int .i64 p.c, .slice (some ⟨g2, 0, none⟩) p.ks.length q2]) ∧
      Sl w' w.heap.size (.slice (some ⟨g1, 0, none⟩) p.ns.length q1) p.ns ∧ Sl w' w.heap.size (.slice (some ⟨g2, 0, none⟩) p.ks.length q2) p.ks ∧ g1 ≠ g2 ∧ Kept [] w w' := by
  obtain ⟨v, u, rfl, h1, h2⟩ := h
  obtain ⟨hk0, hb0, hr0⟩ := two_new w 30 30 #[v, .int .i64 p.c, u] #[.slice none 0 0, .int .i64 0, .slice none 0 0]
  have H1 := Lib.hid (h1.stay hk0)
  have H2 := Lib.hid (h2.stay hk0)
  obtain ⟨a, cap, rfl, _, _, _⟩ := h1.any
  obtain ⟨b, cap2, rfl, _, _, _⟩ := h2.any
  have HB := Lib.hid hb0
  have HR := Lib.hid hr0
  have HK0 := Lib.hid hk0
  have hzz := hb0.lt
  have hzr := hr0.lt
  obtain ⟨c0, c1, c2⟩ := hb0.three
  clear h1 h2 hb0 hr0 hk0
  go_enter Tryz.func124, Tryz.ntmps124
  go_wp2_with fail
  generalize ((w.alloc (.cells #[.slice a p.ns.length cap, .int .i64 p.c, .slice b p.ks.length cap2] 30)).alloc (.cells #[.slice none 0 0, .int .i64 0, .slice none 0 0] 30)) = W0 at *
  have HSB : Hid (∀ w', Kept [w.heap.size + 1] W0 w' → w'.cell? ⟨w.heap.size, 0, none⟩ = some (.slice a p.ns.length cap) ∧ w'.cell? ⟨w.heap.size, 1, none⟩ = some (.int .i64 p.c) ∧ w'.cell? ⟨w.heap.size, 2, none⟩ = some (.slice b p.ks.length cap2)) := Lib.hid (fun w' k => (HB.out.kept k (by simp)).three)
  go_region_held3 (fun w' => w'.cell? ⟨w.heap.size, 0, none⟩ = some (.slice a p.ns.length cap) ∧ w'.cell? ⟨w.heap.size, 1, none⟩ = some (.int .i64 p.c) ∧ w'.cell? ⟨w.heap.size, 2, none⟩ = some (.slice b p.ks.length cap2))
    ((refine HSB.out _ ?_; repeat (first | exact Kept.refl _ _ | (refine Kept.weak _ ?_; assumption) | (refine Kept.setCell ?_ (.inl (by simp)) _) | apply Kept.alloc | apply Kept.drew)))
    (first
    | (refine step_app_fresh0 W0 ?_ rfl _ _ rfl _ rfl (.slice a p.ns.length cap) base p.ns H1.out hn.1 rfl (by omega) ?_; (repeat (first | exact Kept.refl _ _ | assumption | apply Kept.alloc | apply Kept.drew)); intro g1 q1 w1 hs1 k1 _ _; have HS1 := Lib.hid hs1; have z1 := (HR.out.stay k1).lt; obtain ⟨r0, r1, r2⟩ := (HR.out.stay k1).three; have f0 := (HR.out.stay k1).frozen 0; have f1 := (HR.out.stay k1).frozen 1; have f2 := (HR.out.stay k1).frozen 2; clear hs1)
    | (refine step_app_fresh0 W0 ?_ rfl _ _ rfl _ rfl (.slice b p.ks.length cap2) base p.ks H2.out hk.1 rfl (by omega) ?_; (repeat (first | exact Kept.refl _ _ | assumption | apply Kept.alloc | apply Kept.drew)); intro g2 q2 w2 hs2 k2 kk2 hg12; have HGN : Hid (g1 ≠ g2) := Lib.hid (Nat.ne_of_lt (Nat.lt_of_lt_of_le (Nat.lt_of_lt_of_le (HS1.out.block rfl).2 (Kept.size (rows := []) (by repeat (first | exact Kept.refl _ _ | apply Kept.alloc | apply Kept.drew)))) hg12)); clear hg12; have HS2 := Lib.hid hs2; have HS1b := Lib.hid (HS1.out.stay (Kept.trans (rows' := []) (by repeat (first | exact Kept.refl _ _ | apply Kept.alloc | apply Kept.drew)) kk2 (by simp))); have z2 := (HR.out.stay k2).lt; obtain ⟨s0, s1, s2⟩ := (HR.out.stay k2).three; have t0 := (HR.out.stay k2).frozen 0; have t1 := (HR.out.stay k2).frozen 1; have t2 := (HR.out.stay k2).frozen 2; clear hs2 kk2))
  all_goals
    go_wp2
    (try simp only [Exit.inBlock, Exit.then])
    refine bodyPost_ret (results_cell_row rfl _ _ (w.heap.size + 1) 30 #[.slice (some ⟨g1, 0, none⟩) p.ns.length q1, .int .i64 p.c, .slice (some ⟨g2, 0, none⟩) p.ks.length q2] (0, 0) _ rfl ((HR.out.stay k2).set3 _ _ _) Tryz.underlying30 rfl (by kernel_rfl)) rfl ?_
    have hsz := HK0.out.size
    refine ⟨_, _, _, _, rfl, (HS1b.out.kept (Kept.rows3 w2 _ _ _ _) ?_).mono hsz, (HS2.out.kept (Kept.rows3 w2 _ _ _ _) ?_).mono hsz, HGN.out, (HK0.out.trans k2 (by simp)).set3 (by omega) _ _ _⟩
    · intro g hg; have h1 := (HS1b.out.block hg).1; have h2 := HR.out.lt; simp; omega
    · intro g hg; have h1 := (HS2.out.block hg).1; have h2 := HR.out.lt; simp; omega
theorem sPlace_any (p : Nt.Pi) (hn : 0 < p.ns.length ∧ p.ns.length ≤ 100) (hk : 0 < p.ks.length ∧ p.ks.length ≤ 100) (w : World) (x : Value) (base : Nat) (h : Pv w base x p) :
    Calls Tryz.prog 124 #[x] w fun e w' => ∃ y, e = .returned y ∧ Pv w' w.heap.size y p ∧ Kept [] w w' :=
  (sPlaceA_any p hn hk w x base h).mono (by
    rintro e w' ⟨g1, q1, g2, q2, rfl, h1, h2, _, h3⟩
    exact ⟨_, rfl, ⟨_, _, rfl, h1, h2⟩, h3⟩)

theorem Pv.form {w : World} {base : Nat} {y : Value} {p : Nt.Pi} (h : Pv w base y p) : ∃ a n cap b m cap2, y = .agg #[.slice a n cap, .int .i64 p.c, .slice b m cap2] := by
  obtain ⟨v, u, rfl, h1, h2⟩ := h
  obtain ⟨a, cap, rfl, _, _, _⟩ := h1.any
  obtain ⟨b, cap2, rfl, _, _, _⟩ := h2.any
  exact ⟨_, _, _, _, _, _, rfl⟩
end Go.Proofs.YtnajdbnacdnnlaaGreatDoor
