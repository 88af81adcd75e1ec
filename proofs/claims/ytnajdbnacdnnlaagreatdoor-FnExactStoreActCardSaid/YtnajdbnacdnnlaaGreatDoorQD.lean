/-
  Slices of triples made and written to.
  Slices of structs of three cells: made, and written to; desks whose parts all lie apart.
  Places by the program: whether a place is one, copies of places.
  Desks by the program: whether a desk is one.
  Copies of desks by the program: all parts lie apart.
-/
import Derived.Test.YtnajdbnacdnnlaaGreatDoorQC
import Derived.Test.YtnajdbnacdnnlaaGreatDoorPJ
import Derived.Test.YtnajdbnacdnnlaaGreatDoorQA
namespace Go.Proofs.YtnajdbnacdnnlaaGreatDoor
open Go.RowKit

theorem tri_rep (a b c : Value) (n : Nat) : (madeCells #[a, b, c] (n * 3)).toList = tri (List.replicate n (a, b, c)) := by
  apply List.ext_getElem?
  intro i
  by_cases h : i < n * 3
  · obtain ⟨g0, g1, g2⟩ := tri_get (List.replicate n (a, b, c)) (i / 3) (by simp; omega)
    have e : at3 (List.replicate n (a, b, c)) (i / 3) = (a, b, c) := by
      unfold at3
      rw [List.getD_eq_getElem?_getD, List.getElem?_replicate, if_pos (by omega)]; rfl
    rw [e] at g0 g1 g2
    have e1 : (madeCells #[a, b, c] (n * 3)).toList[i]? = some (#[a, b, c][i % 3]!) := by
      unfold madeCells
      simp [h]
    rw [e1]
    have hm : i % 3 = 0 ∨ i % 3 = 1 ∨ i % 3 = 2 := by omega
    rcases hm with hm | hm | hm
    · rw [show i / 3 * 3 = i by omega] at g0
      rw [hm, g0]; rfl
    · rw [show i / 3 * 3 + 1 = i by omega] at g1
      rw [hm, g1]; rfl
    · rw [show i / 3 * 3 + 2 = i by omega] at g2
      rw [hm, g2]; rfl
  · rw [List.getElem?_eq_none (by rw [Array.length_toList, size_madeCells]; omega), List.getElem?_eq_none (by rw [tri_length]; simp; omega)]

/-- 'make([]T, n)' of structs of three cells. -/
theorem make_tri {ops : Array Oper} {rest : List Oper} {o : Oper} {a : Act} {Q : Exit → Act → World → Prop} (T TS : TypeId) (x y z : Value) (bytes : Nat) (ht : Tryz.prog.underlying TS = some (.slice T)) (hinfo : (Tryz.prog.info? T).map (fun i => (i.zero, i.size, i.bytes)) = some (some (.agg #[x, y, z]), 3, bytes)) (hby : bytes ≤ 100) (hce : (Value.agg #[x, y, z]).cells = #[x, y, z])
    (w : World) (n : Nat) (hg : o.guard = none) (l c : Operand) (hop : o.op = Op.makeSlice TS l c) (hl : a.eval l = .int .i64 n) (hc : a.eval c = .int .i64 n) (hn : n ≤ 2000000)
    (h : ∀ w', Tg T w' w.heap.size (.slice (some ⟨w.heap.size, 0, none⟩) n n) (List.replicate n (x, y, z)) → Kept [] w w' → w.heap.size < w'.heap.size →
      wpList Tryz.prog ops Q rest (a.put o.dst (.slice (some ⟨w.heap.size, 0, none⟩) n n)) w') : wpList Tryz.prog ops Q (o :: rest) a w := by
  obtain ⟨i0, hi, hz0, hz1, hz2⟩ := info_parts hinfo
  have hbb : bytes * n ≤ 100 * 2000000 := Nat.mul_le_mul hby hn
  refine wpList_make_full w hg l c _ hop w.heap.size T i0 (.agg #[x, y, z]) 3 ht hi hz0 hz1 .i64 .i64 n n n hl hc rfl rfl (by rw [hz2]; omega) (by unfold maxLen; omega) (Nat.le_refl _) ?_
  intro w' h1 h2
  have hs : Tg T w' w.heap.size (.slice (some ⟨w.heap.size, 0, none⟩) n n) (List.replicate n (x, y, z)) := by
    unfold Tg
    rw [hce, tri_rep] at h1
    rw [List.length_replicate]
    exact h1
  exact h w' hs ((Kept.refl _ _).grown h2 (by simp)) (hs.block (g := w.heap.size) rfl).2

theorem tri_set : ∀ (xs : List (Value × Value × Value)) (k : Nat) (a b c : Value), k < xs.length → (((tri xs).set (k * 3) a).set (k * 3 + 1) b).set (k * 3 + 2) c = tri (xs.set k (a, b, c))
  | [], _, _, _, _, h => absurd h (by simp)
  | x :: xs, 0, a, b, c, _ => rfl
  | x :: xs, k + 1, a, b, c, h => by
    have ih := tri_set xs k a b c (by simpa using h)
    have e : ∀ (y : Value × Value × Value) (ys : List (Value × Value × Value)), tri (y :: ys) = y.1 :: y.2.1 :: y.2.2 :: tri ys := fun _ _ => rfl
    rw [e, show (k + 1) * 3 = k * 3 + 1 + 1 + 1 by omega]
    rw [show k * 3 + 1 + 1 + 1 + 1 = (k * 3 + 1) + 1 + 1 + 1 by omega, show k * 3 + 1 + 1 + 1 + 2 = (k * 3 + 2) + 1 + 1 + 1 by omega]
    simp only [List.set_cons_succ]
    rw [ih, e]

/-- A struct written at a place. -/
theorem Tg.set3 {T : TypeId} {w : World} {base g cap n : Nat} {xs : List (Value × Value × Value)} (h : Tg T w base (.slice (some ⟨g, 0, none⟩) n cap) xs) (hn : n = xs.length) (k : Nat) (hk : k < n) (a b c : Value) :
    Tg T (((w.setCell ⟨g, k * 3, none⟩ a).setCell ⟨g, k * 3 + 1, none⟩ b).setCell ⟨g, k * 3 + 2, none⟩ c) base (.slice (some ⟨g, 0, none⟩) n cap) (xs.set k (a, b, c)) := by
  subst hn
  have h1 := (World.ownsRow.stored h (k * 3) a).1
  have h2 := (World.ownsRow.stored h1 (k * 3 + 1) b).1
  have h3 := (World.ownsRow.stored h2 (k * 3 + 2) c).1
  unfold Tg
  rw [tri_set xs k a b c hk] at h3
  rw [List.length_set]
  exact h3

theorem at3_set (xs : List (Value × Value × Value)) (k j : Nat) (x : Value × Value × Value) (h : k < xs.length) : at3 (xs.set k x) j = if j = k then x else at3 xs j := by
  unfold at3
  rw [List.getD_eq_getElem?_getD, List.getElem?_set]
  by_cases e : k = j
  · subst e; rw [if_pos rfl, if_pos rfl, if_pos h]; rfl
  · rw [if_neg e, if_neg (fun h => e h.symm), List.getD_eq_getElem?_getD]

theorem Kept.tri3 {rows : List Nat} {w w' : World} {g : Nat} (h : Kept rows w w') (hg : g ∈ rows ∨ w.heap.size ≤ g) (i j k : Nat) (a b c : Value) : Kept rows w (((w'.setCell ⟨g, i, none⟩ a).setCell ⟨g, j, none⟩ b).setCell ⟨g, k, none⟩ c) :=
  ((h.setCell hg a).setCell hg b).setCell hg c

/-! A desk whose parts all lie apart, one behind the other. -/
end Go.Proofs.YtnajdbnacdnnlaaGreatDoor

namespace Go.Proofs.YtnajdbnacdnnlaaGreatDoor
open Go.RowKit

def z3 : Value × Value × Value := (.slice none 0 0, .int .i64 0, .slice none 0 0)

/-- The places of before: each one's two slices at the blocks that G tells. -/
def PastAt (w : World) (base : Nat) (G C : Nat → Nat) (vs : List (Value × Value × Value)) (ps : List Nt.Pi) (k : Nat) : Prop :=
  at3 vs k = (.slice (some ⟨G (2 * k + 2), 0, none⟩) (piAt ps k).ns.length (C (2 * k + 2)), .int .i64 (piAt ps k).c, .slice (some ⟨G (2 * k + 3), 0, none⟩) (piAt ps k).ks.length (C (2 * k + 3))) ∧
    Sl w base (.slice (some ⟨G (2 * k + 2), 0, none⟩) (piAt ps k).ns.length (C (2 * k + 2))) (piAt ps k).ns ∧
    Sl w base (.slice (some ⟨G (2 * k + 3), 0, none⟩) (piAt ps k).ks.length (C (2 * k + 3))) (piAt ps k).ks

structure Dx (w : World) (base : Nat) (x : Value) (d : Nt.Di) (G C : Nat → Nat) (r : Value) (vs : List (Value × Value × Value)) : Prop where
  val : x = .agg #[.slice (some ⟨G 0, 0, none⟩) d.now.ns.length (C 0), .int .i64 d.now.c, .slice (some ⟨G 1, 0, none⟩) d.now.ks.length (C 1), r]
  net : Sl w base (.slice (some ⟨G 0, 0, none⟩) d.now.ns.length (C 0)) d.now.ns
  st : Sl w base (.slice (some ⟨G 1, 0, none⟩) d.now.ks.length (C 1)) d.now.ks
  row : Tg 30 w base r vs
  len : vs.length = d.past.length
  past : ∀ k, k < d.past.length → PastAt w base G C vs d.past k
  inc : ∀ i j, i < j → j < 2 * d.past.length + 2 → G i < G j

theorem Dx.dvo {w : World} {base : Nat} {x : Value} {d : Nt.Di} {G C : Nat → Nat} {r : Value} {vs : List (Value × Value × Value)} (h : Dx w base x d G C r vs) : DvO w base x d :=
  ⟨_, _, r, h.val, h.net, h.st, vs, h.row, h.len, fun k hk => ⟨_, _, (h.past k hk).1, (h.past k hk).2.1, (h.past k hk).2.2⟩⟩

theorem Dx.dv {w : World} {base : Nat} {x : Value} {d : Nt.Di} {G C : Nat → Nat} {r : Value} {vs : List (Value × Value × Value)} (h : Dx w base x d G C r vs) : Dv w base x d := h.dvo.dv

theorem Dx.stay {w w' : World} {base : Nat} {x : Value} {d : Nt.Di} {G C : Nat → Nat} {r : Value} {vs : List (Value × Value × Value)} (h : Dx w base x d G C r vs) (hk : Kept [] w w') : Dx w' base x d G C r vs :=
  ⟨h.val, h.net.stay hk, h.st.stay hk, h.row.stay hk, h.len, fun k hk2 => ⟨(h.past k hk2).1, (h.past k hk2).2.1.stay hk, (h.past k hk2).2.2.stay hk⟩, h.inc⟩

theorem Dx.mono {w : World} {base base' : Nat} {x : Value} {d : Nt.Di} {G C : Nat → Nat} {r : Value} {vs : List (Value × Value × Value)} (h : Dx w base x d G C r vs) (hb : base' ≤ base) : Dx w base' x d G C r vs :=
  ⟨h.val, h.net.mono hb, h.st.mono hb, h.row.mono hb, h.len, fun k hk2 => ⟨(h.past k hk2).1, (h.past k hk2).2.1.mono hb, (h.past k hk2).2.2.mono hb⟩, h.inc⟩

theorem Dx.kept {w w' : World} {base : Nat} {x : Value} {d : Nt.Di} {G C : Nat → Nat} {r : Value} {vs : List (Value × Value × Value)} {rows : List Nat} (h : Dx w base x d G C r vs) (hk : Kept rows w w') (hn : ∀ g, base ≤ g → g < w.heap.size → ¬ g ∈ rows) : Dx w' base x d G C r vs :=
  ⟨h.val, h.net.kept hk (fun g hg => hn g (h.net.block hg).1 (h.net.block hg).2), h.st.kept hk (fun g hg => hn g (h.st.block hg).1 (h.st.block hg).2), h.row.kept hk (fun g hg => hn g (h.row.block hg).1 (h.row.block hg).2), h.len,
    fun k hk2 => ⟨(h.past k hk2).1, (h.past k hk2).2.1.kept hk (fun g hg => hn g ((h.past k hk2).2.1.block hg).1 ((h.past k hk2).2.1.block hg).2), (h.past k hk2).2.2.kept hk (fun g hg => hn g ((h.past k hk2).2.2.block hg).1 ((h.past k hk2).2.2.block hg).2)⟩, h.inc⟩

/-- A desk that is returned: one that is one, in memory of its own; or none. -/
def DxR (w : World) (base : Nat) (x : Value) (d : Nt.Di) : Prop := (d = Nt.Di.zero ∧ x = .agg #[.slice none 0 0, .int .i64 0, .slice none 0 0, .slice none 0 0]) ∨ (Nt.dkB d = true ∧ ∃ G C r vs, Dx w base x d G C r vs)

theorem DxR.dv {w : World} {base : Nat} {x : Value} {d : Nt.Di} (h : DxR w base x d) : Dv w base x d := by
  rcases h with ⟨rfl, rfl⟩ | ⟨_, G, C, r, vs, h⟩
  · exact Dv.zero w base
  · exact h.dv

theorem DxR.stay {w w' : World} {base : Nat} {x : Value} {d : Nt.Di} (h : DxR w base x d) (hk : Kept [] w w') : DxR w' base x d := by
  rcases h with ⟨rfl, rfl⟩ | ⟨h1, G, C, r, vs, h⟩
  · exact .inl ⟨rfl, rfl⟩
  · exact .inr ⟨h1, G, C, r, vs, h.stay hk⟩

theorem DxR.mono {w : World} {base base' : Nat} {x : Value} {d : Nt.Di} (h : DxR w base x d) (hb : base' ≤ base) : DxR w base' x d := by
  rcases h with ⟨rfl, rfl⟩ | ⟨h1, G, C, r, vs, h⟩
  · exact .inl ⟨rfl, rfl⟩
  · exact .inr ⟨h1, G, C, r, vs, h.mono hb⟩
end Go.Proofs.YtnajdbnacdnnlaaGreatDoor

namespace Go.Proofs.YtnajdbnacdnnlaaGreatDoor
open Go.RowKit

set_option maxHeartbeats 1000000 in
set_option maxRecDepth 100000 in
theorem iPlaceOk_any (p : Nt.Pi) (w : World) (x : Value) (base : Nat) (h : Pv w base x p) :
    Calls Tryz.prog 78 #[x] w fun e w' => e = .returned (.bool (Nt.plB p)) ∧ Kept [] w w' := by
  obtain ⟨v, u, rfl, h1, h2⟩ := h
  have HK : Hid (Kept [] w (w.alloc (.cells #[v, .int .i64 p.c, u] 30))) := Lib.hid ((Kept.refl [] w).alloc _)
  have H1 := Lib.hid (h1.stay HK.out)
  have H2 := Lib.hid (h2.stay HK.out)
  obtain ⟨a, cap, rfl, _, _, _⟩ := h1.any
  obtain ⟨b, cap2, rfl, _, _, _⟩ := h2.any
  clear h1 h2
  go_enter Tryz.func78, Tryz.ntmps78
  go_wp2_with fail
  refine (firingOk_any p.ns p.c p.ks _ _ _ _ _ H1.out H2.out).mono ?_
  rintro e w1 ⟨rfl, rfl⟩
  go_wp2
  go_ret
  exact ⟨rfl, HK.out⟩

set_option maxHeartbeats 1000000 in
set_option maxRecDepth 100000 in
/-- A copy of a place: two slices, one behind the other. -/
theorem copiedPlace_any (p : Nt.Pi) (hn : 0 < p.ns.length ∧ p.ns.length ≤ 100) (hk : 0 < p.ks.length ∧ p.ks.length ≤ 100) (w : World) (x : Value) (base : Nat) (h : Pv w base x p) :
    Calls Tryz.prog 115 #[x] w fun e w' => ∃ g1 q1 g2 q2, e = .returned (.agg #[.slice (some ⟨g1, 0, none⟩) p.ns.length q1, .int .i64 p.c, .slice (some ⟨g2, 0, none⟩) p.ks.length q2]) ∧
      Sl w' w.heap.size (.slice (some ⟨g1, 0, none⟩) p.ns.length q1) p.ns ∧ Sl w' w.heap.size (.slice (some ⟨g2, 0, none⟩) p.ks.length q2) p.ks ∧ g1 < g2 ∧ Kept [] w w' := by
  obtain ⟨v, u, rfl, h1, h2⟩ := h
  obtain ⟨hk0, hb0, hr0⟩ := two_new w 30 30 #[v, .int .i64 p.c, u] #[.slice none 0 0, .int .i64 0, .slice none 0 0]
  have H1 := Lib.hid (h1.stay hk0)
  have H2 := Lib.hid (h2.stay hk0)
  obtain ⟨a, cap, rfl, _, _, _⟩ := h1.any
  obtain ⟨b, cap2, rfl, _, _, _⟩ := h2.any
  have HB := Lib.hid hb0
  have HR := Lib.hid hr0
  have HK0 := Lib.hid hk0
  have hzz := hb0.lt
  have hzr := hr0.lt
  obtain ⟨c0, c1, c2⟩ := hb0.three
  clear h1 h2 hb0 hr0 hk0
  go_enter Tryz.func115, Tryz.ntmps115
  go_wp2_with fail
  generalize ((w.alloc (.cells #[.slice a p.ns.length cap, .int .i64 p.c, .slice b p.ks.length cap2] 30)).alloc (.cells #[.slice none 0 0, .int .i64 0, .slice none 0 0] 30)) = W0 at *
  have HSB : Hid (∀ w', Kept [w.heap.size + 1] W0 w' → w'.cell? ⟨w.heap.size, 0, none⟩ = some (.slice a p.ns.length cap) ∧ w'.cell? ⟨w.heap.size, 1, none⟩ = some (.int .i64 p.c) ∧ w'.cell? ⟨w.heap.size, 2, none⟩ = some (.slice b p.ks.length cap2)) := Lib.hid (fun w' k => (HB.out.kept k (by simp)).three)
  have HC1 : Hid (∀ W, Kept [] W0 W → Calls Tryz.prog 167 #[.slice a p.ns.length cap] W fun e w' => ∃ g q, e = .returned (.slice (some ⟨g, 0, none⟩) p.ns.length q) ∧ Hid (Sl w' W0.heap.size (.slice (some ⟨g, 0, none⟩) p.ns.length q) p.ns) ∧ Kept [] W0 w') := Lib.hid (fun W k => (cloneInts_any p.ns hn.1 (by omega) W _ base (H1.out.stay k)).mono (by
    rintro e w' ⟨z, rfl, hs, hk'⟩
    obtain ⟨g, q, rfl, _, _⟩ := hs.shape rfl hn.1
    exact ⟨g, q, rfl, hs.mono k.size, k.trans hk' (by simp)⟩))
  have HC2 : Hid (∀ W, Kept [] W0 W → Calls Tryz.prog 167 #[.slice b p.ks.length cap2] W fun e w' => ∃ g q, e = .returned (.slice (some ⟨g, 0, none⟩) p.ks.length q) ∧ Hid (Sl w' W0.heap.size (.slice (some ⟨g, 0, none⟩) p.ks.length q) p.ks ∧ Kept [] W w' ∧ W.heap.size ≤ g) ∧ Kept [] W0 w') := Lib.hid (fun W k => (cloneInts_any p.ks hk.1 (by omega) W _ base (H2.out.stay k)).mono (by
    rintro e w' ⟨z, rfl, hs, hk'⟩
    obtain ⟨g, q, rfl, _, _⟩ := hs.shape rfl hk.1
    exact ⟨g, q, rfl, ⟨hs.mono k.size, hk', (hs.block rfl).1⟩, k.trans hk' (by simp)⟩))
  clear hn hk
  go_region_held3 (fun w' => w'.cell? ⟨w.heap.size, 0, none⟩ = some (.slice a p.ns.length cap) ∧ w'.cell? ⟨w.heap.size, 1, none⟩ = some (.int .i64 p.c) ∧ w'.cell? ⟨w.heap.size, 2, none⟩ = some (.slice b p.ks.length cap2))
    ((refine HSB.out _ ?_; repeat (first | exact Kept.refl _ _ | (refine Kept.weak _ ?_; assumption) | (refine Kept.setCell ?_ (.inl (by simp)) _) | apply Kept.alloc | apply Kept.drew)))
    (first
    | (go_simp; go_at_call 167; refine (HC1.out _ (by repeat (first | exact Kept.refl _ _ | assumption | apply Kept.alloc | apply Kept.drew))).mono ?_; rintro e w1 ⟨g1, q1, rfl, HS1, k1⟩; have z1 := (HR.out.stay k1).lt; obtain ⟨r0, r1, r2⟩ := (HR.out.stay k1).three; have f0 := (HR.out.stay k1).frozen 0; have f1 := (HR.out.stay k1).frozen 1; have f2 := (HR.out.stay k1).frozen 2)
    | (go_simp; go_at_call 167; refine (HC2.out _ (by repeat (first | exact Kept.refl _ _ | assumption | apply Kept.alloc | apply Kept.drew))).mono ?_; rintro e w2 ⟨g2, q2, rfl, HS2, k2⟩; have z2 := (HR.out.stay k2).lt; obtain ⟨s0, s1, s2⟩ := (HR.out.stay k2).three; have t0 := (HR.out.stay k2).frozen 0; have t1 := (HR.out.stay k2).frozen 1; have t2 := (HR.out.stay k2).frozen 2))
  all_goals
    go_wp2
    (try simp only [Exit.inBlock, Exit.then])
    refine bodyPost_ret (results_cell_row rfl _ _ (w.heap.size + 1) 30 #[.slice (some ⟨g1, 0, none⟩) p.ns.length q1, .int .i64 p.c, .slice (some ⟨g2, 0, none⟩) p.ks.length q2] (0, 0) _ rfl ((HR.out.stay k2).set3 _ _ _) Tryz.underlying30 rfl (by kernel_rfl)) rfl ?_
    have hsz := HK0.out.size
    have hk12 : Kept [] w1 w2 := Kept.trans (rows' := []) (by repeat (first | exact Kept.refl _ _ | apply Kept.alloc | apply Kept.drew)) HS2.out.2.1 (by simp)
    refine ⟨_, _, _, _, rfl, ((HS1.out.stay hk12).kept (Kept.rows3 w2 _ _ _ _) ?_).mono hsz, (HS2.out.1.kept (Kept.rows3 w2 _ _ _ _) ?_).mono hsz, Nat.lt_of_lt_of_le (HS1.out.block rfl).2 (Nat.le_trans (Kept.size (rows := []) (by repeat (first | exact Kept.refl _ _ | apply Kept.alloc | apply Kept.drew))) HS2.out.2.2), (HK0.out.trans k2 (by simp)).set3 (by omega) _ _ _⟩
    · intro g hg; have h1 := (HS1.out.block hg).1; have h2 := HR.out.lt; simp; omega
    · intro g hg; have h1 := (HS2.out.1.block hg).1; have h2 := HR.out.lt; simp; omega
end Go.Proofs.YtnajdbnacdnnlaaGreatDoor

namespace Go.Proofs.YtnajdbnacdnnlaaGreatDoor
open Go.RowKit

set_option maxHeartbeats 1000000 in
set_option maxRecDepth 100000 in
theorem deskBad_any (p : Nt.Pi) (w : World) (x : Value) (base : Nat) (h : Pv w base x p) :
    Calls Tryz.prog 80 #[x] w fun e w' => e = .returned (.bool (!Nt.plB p)) ∧ Kept [] w w' := by
  have HPV0 := Lib.hid h
  obtain ⟨v, u, rfl, h1, h2⟩ := h
  have hk0 : Kept [] w (w.alloc (.cells #[v, .int .i64 p.c, u] 30)) := (Kept.refl [] w).alloc _
  have HB := Lib.hid (Bk.new w 30 #[v, .int .i64 p.c, u])
  have HPV := Lib.hid (HPV0.out.stay hk0)
  have HK0 := Lib.hid hk0
  obtain ⟨a, cap, rfl, _, _, _⟩ := h1.any
  obtain ⟨b, cap2, rfl, _, _, _⟩ := h2.any
  obtain ⟨c0, c1, c2⟩ := HB.out.three
  clear h1 h2 hk0 HPV0
  go_enter Tryz.func80, Tryz.ntmps80
  go_wp2_with fail
  generalize w.alloc (.cells #[.slice a p.ns.length cap, .int .i64 p.c, .slice b p.ks.length cap2] 30) = W0 at *
  refine (iPlaceOk_any p _ _ _ HPV.out).mono ?_
  rintro e w1 ⟨rfl, hk1⟩
  have HK1 := Lib.hid (HK0.out.trans hk1 (by simp))
  clear hk1 c0 c1 c2
  go_wp2
  go_ret
  exact ⟨rfl, HK1.out⟩

set_option maxHeartbeats 1000000 in
set_option maxRecDepth 100000 in
theorem firstBad_any (ps : List Nt.Pi) (w : World) (v : Value) (base : Nat) (h : Ps w base v ps) :
    Calls Tryz.prog 137 #[v, .func (.func 80) #[] #[]] w fun e w' => ∃ m : Int, e = .returned (.int .i64 m) ∧ (decide (0 ≤ m) = !ps.all Nt.plB) ∧ Kept [] w w' := by
  obtain ⟨a3, cap3, rfl, _, hl3, hc3, hp3⟩ := h
  have HP3 := Lib.hid hp3
  have hm3 : ps.length ≤ 9223372036854775807 := by omega
  clear hp3 hl3
  go_enter Tryz.func137, Tryz.ntmps137
  go_wp2
  go_loopw [8] (fun i wr => ∃ k : Nat, k ≤ ps.length ∧ i = .int .i64 k ∧ okTo ps k ∧ Kept [] w wr) (fun i _ => ps.length - (intOf i).toNat)
  case atStart => exact ⟨0, Nat.zero_le _, rfl, fun j hj => absurd hj (by omega), Kept.refl _ _⟩
  case round =>
    obtain ⟨k, hk, rfl, hok, hkept⟩ := hrel
    have HOK := Lib.hid hok
    have HK := Lib.hid hkept
    clear hok
    by_cases hlt : k < ps.length
    · obtain ⟨g, off, rfl, hbg, hg, hpc⟩ := HP3.out k hlt
      obtain ⟨x, y, p0, p1, p2, hx, hy⟩ := hpc.stay hg hkept
      have HPK : Hid (Pv wr base (.agg #[x, .int .i64 (piAt ps k).c, y]) (piAt ps k)) := Lib.hid ⟨x, y, rfl, hx, hy⟩
      have HNA := Lib.hid (notAll hlt)
      clear hpc hx hy hkept
      generalize hpe : piAt ps k = p at *
      have HPE := Lib.hid hpe
      clear hpe
      go_wp2_with fail
      refine (deskBad_any p _ _ _ HPK.out).mono ?_
      rintro e w2 ⟨rfl, hk2⟩
      have HK2 := Lib.hid (HK.out.trans hk2 (by simp))
      clear hk2
      cases hb : Nt.plB p
      · have HF : Hid (ps.all Nt.plB = false) := Lib.hid (HNA.out hb)
        clear hb
        go_wp2
        go_ret
        exact ⟨_, rfl, by rw [HF.out]; simp, HK2.out⟩
      · have HPB := Lib.hid hb
        clear hb
        go_wp2
        go_roundw
        case rel =>
          refine ⟨k + 1, by omega, by go_num, fun j hj => ?_, HK2.out⟩
          by_cases e : j = k
          · subst e; rw [HPE.out]; exact HPB.out
          · exact HOK.out j (by omega)
        case measure => simp [intOf]; omega
    · have hk' : k = ps.length := by omega
      have HALL : Hid (ps.all Nt.plB = true) := Lib.hid (okTo_all (by rw [← hk']; exact HOK.out))
      clear hkept
      generalize ps.length = N at *
      subst hk'
      go_wp2
      go_ret
      exact ⟨_, rfl, by rw [HALL.out]; simp, HK.out⟩

set_option maxHeartbeats 1000000 in
set_option maxRecDepth 100000 in
theorem containsBad_any (ps : List Nt.Pi) (w : World) (v : Value) (base : Nat) (h : Ps w base v ps) :
    Calls Tryz.prog 79 #[v, .func (.func 80) #[] #[]] w fun e w' => e = .returned (.bool (!ps.all Nt.plB)) ∧ Kept [] w w' := by
  have HP := Lib.hid h
  obtain ⟨a3, cap3, rfl, _, _, _, _⟩ := h
  go_enter Tryz.func79, Tryz.ntmps79
  go_wp2_with fail
  refine (firstBad_any ps _ _ _ HP.out).mono ?_
  rintro e w1 ⟨m, rfl, hm, hk⟩
  have HM := Lib.hid hm
  have HK := Lib.hid hk
  clear hm hk
  go_wp2
  go_ret
  exact ⟨by rw [← HM.out]; rfl, HK.out⟩

set_option maxHeartbeats 2000000 in
set_option maxRecDepth 100000 in
theorem iDeskOk_any (d : Nt.Di) (w : World) (x : Value) (base : Nat) (h : Dv w base x d) :
    Calls Tryz.prog 26 #[x] w fun e w' => e = .returned (.bool (Nt.dkB d)) ∧ Kept [] w w' := by
  obtain ⟨v, u, r, rfl, h1, h2, h3⟩ := h
  have hk0 : Kept [] w (w.alloc (.cells #[v, .int .i64 d.now.c, u, r] 33)) := (Kept.refl [] w).alloc _
  have HB := Lib.hid (Bk.new w 33 #[v, .int .i64 d.now.c, u, r])
  have HK0 := Lib.hid hk0
  have HPV : Hid (Pv (w.alloc (.cells #[v, .int .i64 d.now.c, u, r] 33)) base (.agg #[v, .int .i64 d.now.c, u]) d.now) := Lib.hid ⟨v, u, rfl, h1.stay hk0, h2.stay hk0⟩
  have H3 := Lib.hid (h3.stay hk0)
  obtain ⟨a, cap, rfl, _, _, _⟩ := h1.any
  obtain ⟨b, cap2, rfl, _, _, _⟩ := h2.any
  obtain ⟨a3, cap3, rfl, _, _, hc3, _⟩ := h3
  have HD : Hid (Nt.dkB d = (Nt.plB d.now && d.past.all Nt.plB && decide (d.past.length ≤ 8))) := Lib.hid rfl
  have HCB := Lib.hid (fun W v b h => containsBad_any d.past W v b h)
  obtain ⟨c0, c1, c2, c3⟩ := HB.out.four
  clear h1 h2 hk0
  go_enter Tryz.func26, Tryz.ntmps26
  go_wp2_with fail
  generalize w.alloc (.cells #[.slice a d.now.ns.length cap, .int .i64 d.now.c, .slice b d.now.ks.length cap2, .slice a3 d.past.length cap3] 33) = W0 at *
  refine (iPlaceOk_any d.now _ _ _ HPV.out).mono ?_
  rintro e w1 ⟨rfl, hk1⟩
  have HK1 := Lib.hid (HK0.out.trans hk1 (by simp))
  have H31 := Lib.hid (H3.out.stay hk1)
  obtain ⟨d0, d1, d2, d3⟩ := (HB.out.stay hk1).four
  clear hk1 c0 c1 c2 c3
  generalize hz : d.past.all Nt.plB = z at *
  clear hz
  generalize d.past.length = n at *
  cases hb : Nt.plB d.now
  · rw [hb] at HD
    go_wp2
    go_ret
    exact ⟨by rw [HD.out]; rfl, HK1.out⟩
  · rw [hb] at HD
    by_cases h8 : n ≤ 8
    · have e8 : decide ((n : Int) ≤ 8) = true := dec_of (by omega)
      rw [show decide (n ≤ 8) = true from dec_of h8] at HD
      go_wp2_with fail
      refine (HCB.out _ _ _ H31.out).mono ?_
      rintro e w2 ⟨rfl, hk2⟩
      have HK2 := Lib.hid (HK1.out.trans hk2 (by simp))
      clear hk2
      go_wp2
      go_ret
      exact ⟨by rw [HD.out]; cases z <;> rfl, HK2.out⟩
    · have e8 : decide ((n : Int) ≤ 8) = false := dec_not (by omega)
      rw [show decide (n ≤ 8) = false from dec_not h8] at HD
      go_wp2
      go_ret
      exact ⟨by rw [HD.out]; cases z <;> rfl, HK1.out⟩
end Go.Proofs.YtnajdbnacdnnlaaGreatDoor

namespace Go.Proofs.YtnajdbnacdnnlaaGreatDoor
open Go.RowKit

theorem at3_rep (n k : Nat) (h : k < n) (x : Value × Value × Value) : at3 (List.replicate n x) k = x := by
  unfold at3
  rw [List.getD_eq_getElem?_getD, List.getElem?_replicate, if_pos h]; rfl
/-- Two values more. -/
def put2 (G : Nat → Nat) (k a b : Nat) : Nat → Nat := fun i => if i = 2 * k + 2 then a else if i = 2 * k + 3 then b else G i
theorem put2_a (G : Nat → Nat) (k a b : Nat) : put2 G k a b (2 * k + 2) = a := if_pos rfl
theorem put2_b (G : Nat → Nat) (k a b : Nat) : put2 G k a b (2 * k + 3) = b := by unfold put2; rw [if_neg (by omega), if_pos rfl]
theorem put2_o (G : Nat → Nat) (k a b : Nat) {i : Nat} (h : i < 2 * k + 2) : put2 G k a b i = G i := by unfold put2; rw [if_neg (by omega), if_neg (by omega)]
theorem PastAt.other {w : World} {base : Nat} {G C G' C' : Nat → Nat} {vs vs' : List (Value × Value × Value)} {ps : List Nt.Pi} {k : Nat} (h : PastAt w base G C vs ps k) (hv : at3 vs' k = at3 vs k) (g1 : G' (2 * k + 2) = G (2 * k + 2)) (g2 : G' (2 * k + 3) = G (2 * k + 3)) (c1 : C' (2 * k + 2) = C (2 * k + 2)) (c2 : C' (2 * k + 3) = C (2 * k + 3)) : PastAt w base G' C' vs' ps k := by
  unfold PastAt at *
  rw [hv, g1, g2, c1, c2]
  exact h
theorem PastAt.kept {w w' : World} {base : Nat} {G C : Nat → Nat} {vs : List (Value × Value × Value)} {ps : List Nt.Pi} {k : Nat} {rows : List Nat} (h : PastAt w base G C vs ps k) (hk : Kept rows w w') (hn : ∀ g, base ≤ g → g < w.heap.size → ¬ g ∈ rows) : PastAt w' base G C vs ps k :=
  ⟨h.1, h.2.1.kept hk (fun g hg => hn g (h.2.1.block hg).1 (h.2.1.block hg).2), h.2.2.kept hk (fun g hg => hn g (h.2.2.block hg).1 (h.2.2.block hg).2)⟩
theorem PastAt.mono {w : World} {base base' : Nat} {G C : Nat → Nat} {vs : List (Value × Value × Value)} {ps : List Nt.Pi} {k : Nat} (h : PastAt w base G C vs ps k) (hb : base' ≤ base) : PastAt w base' G C vs ps k := ⟨h.1, h.2.1.mono hb, h.2.2.mono hb⟩

set_option maxHeartbeats 4000000 in
set_option maxRecDepth 100000 in
theorem changedPlaces_any (ps : List Nt.Pi) (hps : ∀ k, k < ps.length → Nt.plB (piAt ps k) = true) (h1000 : ps.length ≤ 1000) (w : World) (v : Value) (base : Nat) (h : Ps w base v ps) :
    Calls Tryz.prog 116 #[v, .func (.func 115) #[] #[]] w fun e w' => ∃ (G C : Nat → Nat) (vs : List (Value × Value × Value)),
      e = .returned (.slice (some ⟨w.heap.size, 0, none⟩) ps.length ps.length) ∧ Tg 30 w' w.heap.size (.slice (some ⟨w.heap.size, 0, none⟩) ps.length ps.length) vs ∧ vs.length = ps.length ∧
      (∀ k, k < ps.length → PastAt w' (w.heap.size + 1) G C vs ps k) ∧ (∀ i j, 2 ≤ i → i < j → j < 2 * ps.length + 2 → G i < G j) ∧ Kept [] w w' := by
  have HP := Lib.hid h
  have HLP := Lib.hid (fun k hk => pl_len (hps k hk))
  obtain ⟨a3, cap3, rfl, _, _, _, hp3⟩ := h
  have HP3 := Lib.hid hp3
  obtain ⟨n, hn⟩ : ∃ n, n = ps.length := ⟨_, rfl⟩
  rw [← hn] at HP3 HLP h1000 ⊢
  clear hps hp3 HP hn
  go_enter Tryz.func116, Tryz.ntmps116
  go_wp2_with (at_make; refine make_tri 30 31 (.slice none 0 0) (.int .i64 0) (.slice none 0 0) 56 Tryz.underlying31 info_place (by omega) rfl w n rfl _ _ rfl rfl rfl (by omega) ?_; intro w1 hs1 hk1 hsz1; have HS1 := Lib.hid hs1; have HK1 := Lib.hid hk1; have HZ1 := Lib.hid hsz1; clear hs1 hk1 hsz1)
  go_wp2_with fail
  go_loopw [13] (fun i wr => ∃ (k : Nat) (G C : Nat → Nat) (vs : List (Value × Value × Value)), k ≤ n ∧ i = .int .i64 k ∧ Tg 30 wr w.heap.size (.slice (some ⟨w.heap.size, 0, none⟩) n n) vs ∧ vs.length = n ∧
    (∀ j, j < k → PastAt wr (w.heap.size + 1) G C vs ps j) ∧ (∀ i j, 2 ≤ i → i < j → j < 2 * k + 2 → G i < G j) ∧ (∀ i, 2 ≤ i → i < 2 * k + 2 → G i < wr.heap.size) ∧ Kept [] w wr ∧ w.heap.size < wr.heap.size) (fun i _ => n - (intOf i).toNat)
  case atStart => exact ⟨0, fun _ => 0, fun _ => 0, _, Nat.zero_le _, rfl, HS1.out, by simp, fun j hj => absurd hj (by omega), fun i j h1 h2 h3 => absurd h3 (by omega), fun i h1 h2 => absurd h2 (by omega), HK1.out, HZ1.out⟩
  case round =>
    clear HS1 HK1 HZ1
    obtain ⟨k, G, C, vs, hk, rfl, hs, hvl, hpast, hinc, htop, hkept, hsz⟩ := hrel
    have HS := Lib.hid hs
    have HVL := Lib.hid hvl
    have HPA := Lib.hid hpast
    have HINC := Lib.hid hinc
    have HTOP := Lib.hid htop
    have HK := Lib.hid hkept
    have HSZ := Lib.hid hsz
    clear hs hvl hpast hinc htop hsz
    by_cases hlt : k < n
    · obtain ⟨g, off, rfl, hbg, hg, hpc⟩ := HP3.out k hlt
      obtain ⟨x, y, q0, q1, q2, hx, hy⟩ := hpc.stay hg hkept
      have HLK := Lib.hid (HLP.out k hlt)
      have hka : Kept [] wr (wr.alloc (.cells #[x, .int .i64 (piAt ps k).c, y] 30)) := (Kept.refl [] wr).alloc _
      have HPK : Hid (Pv (wr.alloc (.cells #[x, .int .i64 (piAt ps k).c, y] 30)) base (.agg #[x, .int .i64 (piAt ps k).c, y]) (piAt ps k)) := Lib.hid ⟨x, y, rfl, hx.stay hka, hy.stay hka⟩
      have HKA := Lib.hid hka
      have HPE : Hid (∀ j, j = k → piAt ps j = piAt ps k) := Lib.hid (fun j e => by rw [e])
      obtain ⟨ax, cx, rfl, _, _, _⟩ := hx.any
      obtain ⟨ay, cy, rfl, _, _, _⟩ := hy.any
      clear hpc hx hy hkept hka
      generalize hpe : piAt ps k = p at *
      have HPQ := Lib.hid hpe
      clear hpe
      go_wp2_with fail
      generalize wr.alloc (.cells #[.slice ax p.ns.length cx, .int .i64 p.c, .slice ay p.ks.length cy] 30) = W5 at *
      refine (copiedPlace_any p HLK.out.1 HLK.out.2 _ _ _ HPK.out).mono ?_
      rintro e w2 ⟨g1, r1, g2, r2, rfl, hv, hu, hg12, hk2⟩
      have HV := Lib.hid hv
      have HU := Lib.hid hu
      have HG := Lib.hid (And.intro hg12 (And.intro (hv.block (g := g1) rfl) (hu.block (g := g2) rfl)))
      have HK2 := Lib.hid (HKA.out.trans hk2 (by simp))
      have HS2 := Lib.hid (HS.out.stay HK2.out)
      have HW5 : Hid (wr.heap.size ≤ W5.heap.size) := Lib.hid HKA.out.size
      have hz2 : w.heap.size < w2.heap.size := Nat.lt_of_lt_of_le HSZ.out HK2.out.size
      rcases HS2.out.form with ⟨hno, _⟩ | ⟨gg, cc, heq, _, _, _, _, hcell, hfr⟩
      · cases hno
      · simp only [Value.slice.injEq, Option.some.injEq, Addr.mk.injEq, and_true] at heq
        obtain ⟨rfl, hx1, hx2⟩ := heq
        clear hx1 hx2
        obtain ⟨s0, s1, s2⟩ := hcell k (by rw [HVL.out]; exact hlt)
        have t0 := hfr (k * 3)
        have t1 := hfr (k * 3 + 1)
        have t2 := hfr (k * 3 + 2)
        clear hcell hfr hv hu hg12 hk2 q0 q1 q2
        go_wp2
        go_roundw
        case rel =>
          have hks : Kept [w.heap.size] w2 (((w2.setCell ⟨w.heap.size, k * 3, none⟩ (.slice (some ⟨g1, 0, none⟩) p.ns.length r1)).setCell ⟨w.heap.size, k * 3 + 1, none⟩ (.int .i64 p.c)).setCell ⟨w.heap.size, k * 3 + 2, none⟩ (.slice (some ⟨g2, 0, none⟩) p.ks.length r2)) := (Kept.refl _ _).tri3 (.inl (by simp)) _ _ _ _ _ _
          have hG1 := HG.out.2.1
          have hG2 := HG.out.2.2
          have hG12 := HG.out.1
          have h5 := HW5.out
          have h6 := HSZ.out
          refine ⟨k + 1, put2 G k g1 g2, put2 C k r1 r2, vs.set k (.slice (some ⟨g1, 0, none⟩) p.ns.length r1, .int .i64 p.c, .slice (some ⟨g2, 0, none⟩) p.ks.length r2), by omega, by go_num, HS2.out.set3 HVL.out.symm k hlt _ _ _, by rw [List.length_set]; exact HVL.out, fun j hj => ?_, fun i j h1 h2 h3 => ?_, fun i h1 h2 => ?_, (HK.out.trans HK2.out (by simp)).tri3 (.inr (Nat.le_refl _)) _ _ _ _ _ _, Nat.lt_of_lt_of_le hz2 hks.size⟩
          · by_cases e : j = k
            · subst e
              unfold PastAt
              rw [at3_set _ _ _ _ (by rw [HVL.out]; exact hlt), if_pos rfl, put2_a, put2_b, put2_a, put2_b, HPQ.out]
              exact ⟨rfl, (HV.out.kept hks (fun g hg => by simp [Value.ownBlock] at hg; subst hg; simp; omega)).mono (by omega), (HU.out.kept hks (fun g hg => by simp [Value.ownBlock] at hg; subst hg; simp; omega)).mono (by omega)⟩
            · have hj' : j < k := by omega
              have h7 := (((HPA.out j hj').kept HK2.out (by simp)).kept hks (fun g hg _ => by simp; omega))
              exact h7.other (by rw [at3_set _ _ _ _ (by rw [HVL.out]; exact hlt), if_neg e]) (put2_o _ _ _ _ (by omega)) (put2_o _ _ _ _ (by omega)) (put2_o _ _ _ _ (by omega)) (put2_o _ _ _ _ (by omega))
          · by_cases e1 : j = 2 * k + 3
            · subst e1
              rw [put2_b]
              by_cases e2 : i = 2 * k + 2
              · subst e2; rw [put2_a]; exact hG12
              · rw [put2_o _ _ _ _ (by omega)]
                have := HTOP.out i h1 (by omega); omega
            · by_cases e2 : j = 2 * k + 2
              · subst e2
                rw [put2_a, put2_o _ _ _ _ (by omega)]
                have := HTOP.out i h1 (by omega); omega
              · rw [put2_o _ _ _ _ (by omega), put2_o _ _ _ _ (by omega)]
                exact HINC.out i j h1 h2 (by omega)
          · have hz := hks.size
            by_cases e1 : i = 2 * k + 3
            · subst e1; rw [put2_b]; omega
            · by_cases e2 : i = 2 * k + 2
              · subst e2; rw [put2_a]; omega
              · rw [put2_o _ _ _ _ (by omega)]
                have h8 := HTOP.out i h1 (by omega)
                have h9 := HK2.out.size
                omega
        case measure => simp [intOf]; omega
    · have hk' : k = n := by omega
      subst hk'
      clear hkept
      go_wp2
      go_ret
      exact ⟨G, C, vs, rfl, HS.out, HVL.out, HPA.out, HINC.out, HK.out⟩
end Go.Proofs.YtnajdbnacdnnlaaGreatDoor
