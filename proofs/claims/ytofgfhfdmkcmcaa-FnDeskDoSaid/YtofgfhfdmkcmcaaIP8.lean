/-
  Copies of desks, new desks, by the program.
-/
import Derived.Test.YtofgfhfdmkcmcaaIP7
import Derived.Test.YtofgfhfdmkcmcaaIP5
namespace Go.Proofs.Ytofgfhfdmkcmcaa
open Go.RowKit

/-- The first two values, and others behind them. -/
def lay2 (a b : Nat) (G : Nat → Nat) : Nat → Nat := fun i => if i = 0 then a else if i = 1 then b else G i
theorem lay2_o (a b : Nat) (G : Nat → Nat) {i : Nat} (h : 2 ≤ i) : lay2 a b G i = G i := by unfold lay2; rw [if_neg (by omega), if_neg (by omega)]
theorem dx_of {w : World} {base m : Nat} {d : Nt.Di} {g1 q1 g2 q2 : Nat} {G C : Nat → Nat} {r : Value} {vs : List (Value × Value × Value)}
    (hv : Sl w base (.slice (some ⟨g1, 0, none⟩) d.now.ns.length q1) d.now.ns) (hu : Sl w base (.slice (some ⟨g2, 0, none⟩) d.now.ks.length q2) d.now.ks) (h12 : g1 < g2) (h2m : g2 < m)
    (hr : Tg 25 w base r vs) (hl : vs.length = d.past.length) (hp : ∀ k, k < d.past.length → PastAt w m G C vs d.past k) (hbm : base ≤ m) (hi : ∀ i j, 2 ≤ i → i < j → j < 2 * d.past.length + 2 → G i < G j) :
    Dx w base (.agg #[.slice (some ⟨g1, 0, none⟩) d.now.ns.length q1, .int .i64 d.now.c, .slice (some ⟨g2, 0, none⟩) d.now.ks.length q2, r]) d (lay2 g1 g2 G) (lay2 q1 q2 C) r vs := by
  have hlow : ∀ i, 2 ≤ i → i < 2 * d.past.length + 2 → m ≤ G i := fun i h1 h2 => by
    by_cases e : i % 2 = 0
    · obtain ⟨k, rfl⟩ : ∃ k, i = 2 * k + 2 := ⟨i / 2 - 1, by omega⟩
      exact ((hp k (by omega)).2.1.block rfl).1
    · obtain ⟨k, rfl⟩ : ∃ k, i = 2 * k + 3 := ⟨i / 2 - 1, by omega⟩
      exact ((hp k (by omega)).2.2.block rfl).1
  refine ⟨rfl, hv, hu, hr, hl, fun k hk => ?_, fun i j h1 h2 => ?_⟩
  · exact ((hp k hk).mono hbm).other rfl (lay2_o _ _ _ (by omega)) (lay2_o _ _ _ (by omega)) (lay2_o _ _ _ (by omega)) (lay2_o _ _ _ (by omega))
  · by_cases e0 : i = 0
    · subst e0
      by_cases e1 : j = 1
      · subst e1; exact h12
      · rw [lay2_o _ _ _ (show 2 ≤ j by omega)]
        have := hlow j (by omega) h2
        show g1 < G j
        omega
    · by_cases e1 : i = 1
      · subst e1
        rw [lay2_o _ _ _ (show 2 ≤ j by omega)]
        have := hlow j (by omega) h2
        show g2 < G j
        omega
      · rw [lay2_o _ _ _ (show 2 ≤ j by omega), lay2_o _ _ _ (show 2 ≤ i by omega)]
        exact hi i j (by omega) h1 h2

set_option maxHeartbeats 4000000 in
set_option maxRecDepth 100000 in
theorem copiedDesk_any (d : Nt.Di) (hd : Nt.dkB d = true) (w : World) (x : Value) (base : Nat) (h : Dv w base x d) :
    Calls Try.prog 55 #[x] w fun e w' => ∃ y G C r vs, e = .returned y ∧ Dx w' w.heap.size y d G C r vs ∧ Kept [] w w' := by
  obtain ⟨hnow, hpast, h8⟩ := dk_parts hd
  have HLN := Lib.hid (pl_len hnow)
  have HLP := Lib.hid hpast
  obtain ⟨v, u, r, rfl, h1, h2, h3⟩ := h
  obtain ⟨hk0, hb0, hr0⟩ := two_new w 32 32 #[v, .int .i64 d.now.c, u, r] #[.slice none 0 0, .int .i64 0, .slice none 0 0, .slice none 0 0]
  have HPV : Hid (Pv ((w.alloc (.cells #[v, .int .i64 d.now.c, u, r] 32)).alloc (.cells #[.slice none 0 0, .int .i64 0, .slice none 0 0, .slice none 0 0] 32)) base (.agg #[v, .int .i64 d.now.c, u]) d.now) := Lib.hid ⟨v, u, rfl, h1.stay hk0, h2.stay hk0⟩
  have H3 := Lib.hid (h3.stay hk0)
  have HB := Lib.hid hb0
  have HR := Lib.hid hr0
  have HK0 := Lib.hid hk0
  obtain ⟨a, cap, rfl, _, _, _⟩ := h1.any
  obtain ⟨b, cap2, rfl, _, _, _⟩ := h2.any
  obtain ⟨a3, cap3, rfl⟩ := h3.any3
  have hzz := hb0.lt
  have hzr := hr0.lt
  obtain ⟨c0, c1, c2, c3⟩ := hb0.four
  clear h1 h2 h3 hk0 hb0 hr0 hnow hpast hd
  go_enter Try.func55, Try.ntmps55
  go_wp2_with fail
  generalize ((w.alloc (.cells #[.slice a d.now.ns.length cap, .int .i64 d.now.c, .slice b d.now.ks.length cap2, .slice a3 d.past.length cap3] 32)).alloc (.cells #[.slice none 0 0, .int .i64 0, .slice none 0 0, .slice none 0 0] 32)) = W0 at *
  have HSB : Hid (∀ w', Kept [w.heap.size + 1] W0 w' → w'.cell? ⟨w.heap.size, 0, none⟩ = some (.slice a d.now.ns.length cap) ∧ w'.cell? ⟨w.heap.size, 1, none⟩ = some (.int .i64 d.now.c) ∧ w'.cell? ⟨w.heap.size, 2, none⟩ = some (.slice b d.now.ks.length cap2) ∧ w'.cell? ⟨w.heap.size, 3, none⟩ = some (.slice a3 d.past.length cap3)) := Lib.hid (fun w' k => (HB.out.kept k (by simp)).four)
  have HC1 : Hid (∀ W, Kept [] W0 W → Calls Try.prog 90 #[.agg #[.slice a d.now.ns.length cap, .int .i64 d.now.c, .slice b d.now.ks.length cap2]] W fun e w' => ∃ g1 q1 g2 q2, e = .returned (.agg #[.slice (some ⟨g1, 0, none⟩) d.now.ns.length q1, .int .i64 d.now.c, .slice (some ⟨g2, 0, none⟩) d.now.ks.length q2]) ∧
      Hid (Sl w' W0.heap.size (.slice (some ⟨g1, 0, none⟩) d.now.ns.length q1) d.now.ns ∧ Sl w' W0.heap.size (.slice (some ⟨g2, 0, none⟩) d.now.ks.length q2) d.now.ks ∧ g1 < g2) ∧ Kept [] W0 w') := Lib.hid (fun W k => (copiedPlace_any d.now HLN.out.1 HLN.out.2 W _ base (HPV.out.stay k)).mono (by
    rintro e w' ⟨g1, q1, g2, q2, rfl, h1, h2, h3, h4⟩
    exact ⟨g1, q1, g2, q2, rfl, ⟨h1.mono k.size, h2.mono k.size, h3⟩, k.trans h4 (by simp)⟩))
  have HC2 : Hid (∀ W, Kept [] W0 W → Calls Try.prog 91 #[.slice a3 d.past.length cap3, .func (.func 90) #[] #[]] W fun e w' => ∃ (B : Nat), e = .returned (.slice (some ⟨B, 0, none⟩) d.past.length d.past.length) ∧
      Hid (B = W.heap.size ∧ (∃ (G C : Nat → Nat) (vs : List (Value × Value × Value)), Tg 25 w' B (.slice (some ⟨B, 0, none⟩) d.past.length d.past.length) vs ∧ vs.length = d.past.length ∧
      (∀ k, k < d.past.length → PastAt w' (B + 1) G C vs d.past k) ∧ (∀ i j, 2 ≤ i → i < j → j < 2 * d.past.length + 2 → G i < G j)) ∧ Kept [] W w') ∧ Kept [] W0 w') := Lib.hid (fun W k => (changedPlaces_any d.past HLP.out (by omega) W _ base (H3.out.stay k)).mono (by
    rintro e w' ⟨G, C, vs, rfl, h1, h2, h3, h4, h5⟩
    exact ⟨_, rfl, ⟨rfl, ⟨G, C, vs, h1, h2, h3, h4⟩, h5⟩, k.trans h5 (by simp)⟩))
  clear h8
  go_region_held3 (fun w' => w'.cell? ⟨w.heap.size, 0, none⟩ = some (.slice a d.now.ns.length cap) ∧ w'.cell? ⟨w.heap.size, 1, none⟩ = some (.int .i64 d.now.c) ∧ w'.cell? ⟨w.heap.size, 2, none⟩ = some (.slice b d.now.ks.length cap2) ∧ w'.cell? ⟨w.heap.size, 3, none⟩ = some (.slice a3 d.past.length cap3))
    ((refine HSB.out _ ?_; repeat (first | exact Kept.refl _ _ | (refine Kept.weak _ ?_; assumption) | (refine Kept.setCell ?_ (.inl (by simp)) _) | apply Kept.alloc | apply Kept.drew)))
    (first
    | (go_simp; go_at_call 90; refine (HC1.out _ (by repeat (first | exact Kept.refl _ _ | assumption | apply Kept.alloc | apply Kept.drew))).mono ?_; rintro e w1 ⟨g1, q1, g2, q2, rfl, HS1, k1⟩; have z1 := (HR.out.stay k1).lt; obtain ⟨r0, r1, r2, r3⟩ := (HR.out.stay k1).four; have f0 := (HR.out.stay k1).frozen 0; have f1 := (HR.out.stay k1).frozen 1; have f2 := (HR.out.stay k1).frozen 2; have f3 := (HR.out.stay k1).frozen 3)
    | (go_simp; go_at_call 91; refine (HC2.out _ (by repeat (first | exact Kept.refl _ _ | assumption | apply Kept.alloc | apply Kept.drew))).mono ?_; rintro e w2 ⟨B, rfl, HS2, k2⟩; have z2 := (HR.out.stay k2).lt; obtain ⟨s0, s1, s2, s3⟩ := (HR.out.stay k2).four; have t0 := (HR.out.stay k2).frozen 0; have t1 := (HR.out.stay k2).frozen 1; have t2 := (HR.out.stay k2).frozen 2; have t3 := (HR.out.stay k2).frozen 3))
  all_goals
    go_wp2
    (try simp only [Exit.inBlock, Exit.then])
    refine bodyPost_ret (results_cell_row rfl _ _ (w.heap.size + 1) 32 #[.slice (some ⟨g1, 0, none⟩) d.now.ns.length q1, .int .i64 d.now.c, .slice (some ⟨g2, 0, none⟩) d.now.ks.length q2, .slice (some ⟨B, 0, none⟩) d.past.length d.past.length] (0, 0) _ rfl ((HR.out.stay k2).set4 _ _ _ _) Try.underlying32 rfl (by kernel_rfl)) rfl ?_
    have hsz := HK0.out.size
    have hlt := HR.out.lt
    obtain ⟨hB, ⟨G, C, vs, htg, hvl, hpa, hinc⟩, hk12a⟩ := HS2.out
    have hk12 : Kept [] w1 w2 := Kept.trans (rows' := []) (by repeat (first | exact Kept.refl _ _ | apply Kept.alloc | apply Kept.drew)) hk12a (by simp)
    have hzB : w1.heap.size ≤ B := by rw [hB]; exact Kept.size (rows := []) (by repeat (first | exact Kept.refl _ _ | apply Kept.alloc | apply Kept.drew))
    have hW1 : W0.heap.size ≤ w1.heap.size := k1.size
    have hgb := (HS1.out.2.1.block (g := g2) rfl).2
    have hk4 := Kept.rows4 w2 (w.heap.size + 1) (.slice (some ⟨g1, 0, none⟩) d.now.ns.length q1) (.int .i64 d.now.c) (.slice (some ⟨g2, 0, none⟩) d.now.ks.length q2) (.slice (some ⟨B, 0, none⟩) d.past.length d.past.length)
    refine ⟨_, _, _, _, _, rfl, dx_of (m := B + 1) (((HS1.out.1.stay hk12).kept hk4 (fun g hg => by have h1 := (HS1.out.1.block hg).1; simp; omega)).mono hsz) (((HS1.out.2.1.stay hk12).kept hk4 (fun g hg => by have h1 := (HS1.out.2.1.block hg).1; simp; omega)).mono hsz) HS1.out.2.2 (by omega)
      ((htg.kept hk4 (fun g hg => by have h1 := (htg.block hg).1; simp; omega)).mono (by omega)) hvl (fun k hk => (hpa k hk).kept hk4 (fun g hg _ => by simp; omega)) (by omega) hinc, (HK0.out.trans k2 (by simp)).set4 (by omega) _ _ _ _⟩

/-- The row of a slice of places is one of places. -/
def Pt (w : World) (r : Value) : Prop := ∀ a n cap, r = .slice (some a) n cap → 0 < n → ∃ cur, w.heap[a.block]? = some (.cells cur 25 (0, 0))
theorem Pt.stay {w w' : World} {r : Value} (h : Pt w r) (hk : Kept [] w w') : Pt w' r := fun a n cap e hn => by
  obtain ⟨cur, hc⟩ := h a n cap e hn
  exact ⟨cur, (hk.block a.block (Array.getElem?_eq_some_iff.1 hc).1 (by simp)).trans hc⟩
theorem Tg.pt {w : World} {base : Nat} {r : Value} {vs : List (Value × Value × Value)} (h : Tg 25 w base r vs) : Pt w r := fun a n cap e hn => by
  rcases h.2 with ⟨h1, h2⟩ | ⟨g, cap', cur, h1, _, h2, _⟩
  · rw [h1] at e; simp at e
  · rw [h1] at e
    simp only [Value.slice.injEq, Option.some.injEq] at e
    obtain ⟨rfl, _, _⟩ := e
    exact ⟨cur, h2⟩
/-- Blocks that are neither of numbers nor of places. -/
def Alien (w : World) (rows : List Nat) : Prop := ∀ g, g ∈ rows → ∃ cs T, w.heap[g]? = some (.cells cs T (0, 0)) ∧ T ≠ 3 ∧ T ≠ 25
theorem Alien.one {w : World} {g : Nat} {cs : Array Value} (h : Bk w g 32 cs) : Alien w [g] := fun j hj => by
  have e : j = g := by simpa using hj
  subst e
  exact ⟨cs, _, h, by decide, by decide⟩
theorem Sl.alien {w w' : World} {base : Nat} {v : Value} {xs : List Int} {rows : List Nat} (h : Sl w base v xs) (hk : Kept rows w w') (ha : Alien w rows) : Sl w' base v xs := h.kept hk (fun g hg hm => by
  obtain ⟨cs, T, h1, h2, _⟩ := ha g hm
  rcases h.2 with ⟨rfl, _⟩ | ⟨g1, c1, cur1, rfl, _, h3, _⟩
  · simp [Value.ownBlock] at hg
  · simp [Value.ownBlock] at hg
    subst hg
    rw [h1] at h3
    exact h2 (Obj.cells.inj (Option.some.inj h3)).2.1)
theorem Ps.alien {w w' : World} {base : Nat} {v : Value} {ps : List Nt.Pi} {rows : List Nat} (h : Ps w base v ps) (ht : Pt w v) (hk : Kept rows w w') (ha : Alien w rows) : Ps w' base v ps := by
  obtain ⟨a, cap, rfl, hz, h1, h2, h3⟩ := h
  refine ⟨a, cap, rfl, hz, h1, h2, fun k hkl => ?_⟩
  obtain ⟨g, off, rfl, hb, hg, x, y, c0, c1, c2, hx, hy⟩ := h3 k hkl
  have hn : ¬ g ∈ rows := fun hm => by
    obtain ⟨cs, T, e1, _, e2⟩ := ha g hm
    obtain ⟨cur, e3⟩ := ht ⟨g, off, none⟩ _ _ rfl (by omega)
    rw [show (⟨g, off, none⟩ : Addr).block = g from rfl, e1] at e3
    exact e2 (Obj.cells.inj (Option.some.inj e3)).2.1
  exact ⟨g, off, rfl, hb, Nat.lt_of_lt_of_le hg hk.size, x, y, (hk.cell (p := ⟨g, off + k * 3, none⟩) hg hn).trans c0, (hk.cell (p := ⟨g, off + k * 3 + 1, none⟩) hg hn).trans c1, (hk.cell (p := ⟨g, off + k * 3 + 2, none⟩) hg hn).trans c2, hx.alien hk ha, hy.alien hk ha⟩
theorem Pt.alien {w w' : World} {r : Value} {rows : List Nat} (h : Pt w r) (hk : Kept rows w w') (ha : Alien w rows) : Pt w' r := fun a n cap e hn => by
  obtain ⟨cur, hc⟩ := h a n cap e hn
  refine ⟨cur, (hk.block a.block (Array.getElem?_eq_some_iff.1 hc).1 (fun hm => ?_)).trans hc⟩
  obtain ⟨cs, T, e1, _, e2⟩ := ha _ hm
  rw [hc] at e1
  exact e2 (Obj.cells.inj (Option.some.inj e1)).2.1.symm
/-- A desk as a value, wherever its parts lie. -/
def De (w : World) (x : Value) (d : Nt.Di) : Prop := ∃ v u r, x = .agg #[v, .int .i64 d.now.c, u, r] ∧ Sl w 0 v d.now.ns ∧ Sl w 0 u d.now.ks ∧ Ps w 0 r d.past ∧ Pt w r
theorem De.dv {w : World} {x : Value} {d : Nt.Di} (h : De w x d) : Dv w 0 x d := by
  obtain ⟨v, u, r, rfl, h1, h2, h3, _⟩ := h
  exact ⟨v, u, r, rfl, h1, h2, h3⟩
theorem De.stay {w w' : World} {x : Value} {d : Nt.Di} (h : De w x d) (hk : Kept [] w w') : De w' x d := by
  obtain ⟨v, u, r, rfl, h1, h2, h3, h4⟩ := h
  exact ⟨v, u, r, rfl, h1.stay hk, h2.stay hk, h3.stay hk, h4.stay hk⟩
theorem De.alien {w w' : World} {x : Value} {d : Nt.Di} {rows : List Nat} (h : De w x d) (hk : Kept rows w w') (ha : Alien w rows) : De w' x d := by
  obtain ⟨v, u, r, rfl, h1, h2, h3, h4⟩ := h
  exact ⟨v, u, r, rfl, h1.alien hk ha, h2.alien hk ha, h3.alien h4 hk ha, h4.alien hk ha⟩
theorem DvO.de {w : World} {base : Nat} {x : Value} {d : Nt.Di} (h : DvO w base x d) : De w x d := by
  obtain ⟨v, u, r, rfl, h1, h2, h3⟩ := h
  obtain ⟨vs, h4, _⟩ := id h3
  exact ⟨v, u, r, rfl, h1.mono (Nat.zero_le _), h2.mono (Nat.zero_le _), h3.ps.mono (Nat.zero_le _), h4.pt⟩
theorem Dx.de {w : World} {base : Nat} {x : Value} {d : Nt.Di} {G C : Nat → Nat} {r : Value} {vs : List (Value × Value × Value)} (h : Dx w base x d G C r vs) : De w x d := h.dvo.de
theorem Pt.none (w : World) (n cap : Nat) : Pt w (.slice none n cap) := fun a n cap e _ => by cases e
theorem De.zero (w : World) : De w (.agg #[.slice none 0 0, .int .i64 0, .slice none 0 0, .slice none 0 0]) Nt.Di.zero := ⟨_, _, _, rfl, Sl.nil w 0, Sl.nil w 0, Ps.nil w 0, Pt.none w 0 0⟩
theorem DxR.de {w : World} {base : Nat} {x : Value} {d : Nt.Di} (h : DxR w base x d) : De w x d := by
  rcases h with ⟨rfl, rfl⟩ | ⟨_, G, C, r, vs, h⟩
  · exact De.zero w
  · exact h.de
theorem De.form {w : World} {x : Value} {d : Nt.Di} (h : De w x d) : ∃ a n cap b m cap2 a3 n3 cap3, x = .agg #[.slice a n cap, .int .i64 d.now.c, .slice b m cap2, .slice a3 n3 cap3] := by
  obtain ⟨v, u, r, rfl, h1, h2, h3, _⟩ := h
  obtain ⟨a, cap, rfl, _, _, _⟩ := h1.any
  obtain ⟨b, cap2, rfl, _, _, _⟩ := h2.any
  obtain ⟨a3, cap3, rfl⟩ := h3.any3
  exact ⟨_, _, _, _, _, _, _, _, _, rfl⟩
end Go.Proofs.Ytofgfhfdmkcmcaa
