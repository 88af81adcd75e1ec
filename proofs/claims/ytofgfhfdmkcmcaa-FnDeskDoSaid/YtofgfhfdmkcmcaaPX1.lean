/-
  Slices of structs of three cells: made, and written to; desks whose parts all lie apart.
-/
import Derived.Test.YtofgfhfdmkcmcaaPK2
import Derived.Test.YtofgfhfdmkcmcaaPureJL
namespace Go.Proofs.Ytofgfhfdmkcmcaa
open Go.RowKit

def z3 : Value × Value × Value := (.slice none 0 0, .int .i64 0, .slice none 0 0)
theorem tri_rep (a b c : Value) (n : Nat) : (madeCells #[a, b, c] (n * 3)).toList = tri (List.replicate n (a, b, c)) := by
  apply List.ext_getElem?
  intro i
  by_cases h : i < n * 3
  · obtain ⟨g0, g1, g2⟩ := tri_get (List.replicate n (a, b, c)) (i / 3) (by simp; omega)
    have e : at3 (List.replicate n (a, b, c)) (i / 3) = (a, b, c) := by
      unfold at3
      rw [List.getD_eq_getElem?_getD, List.getElem?_replicate, if_pos (by omega)]; rfl
    rw [e] at g0 g1 g2
    have e1 : (madeCells #[a, b, c] (n * 3)).toList[i]? = some (#[a, b, c][i % 3]!) := by
      unfold madeCells
      simp [h]
    rw [e1]
    have hm : i % 3 = 0 ∨ i % 3 = 1 ∨ i % 3 = 2 := by omega
    rcases hm with hm | hm | hm
    · rw [show i / 3 * 3 = i by omega] at g0
      rw [hm, g0]; rfl
    · rw [show i / 3 * 3 + 1 = i by omega] at g1
      rw [hm, g1]; rfl
    · rw [show i / 3 * 3 + 2 = i by omega] at g2
      rw [hm, g2]; rfl
  · rw [List.getElem?_eq_none (by rw [Array.length_toList, size_madeCells]; omega), List.getElem?_eq_none (by rw [tri_length]; simp; omega)]
/-- 'make([]T, n)' of structs of three cells. -/
theorem make_tri {ops : Array Oper} {rest : List Oper} {o : Oper} {a : Act} {Q : Exit → Act → World → Prop} (T TS : TypeId) (x y z : Value) (bytes : Nat) (ht : Try.prog.underlying TS = some (.slice T)) (hinfo : (Try.prog.info? T).map (fun i => (i.zero, i.size, i.bytes)) = some (some (.agg #[x, y, z]), 3, bytes)) (hby : bytes ≤ 100) (hce : (Value.agg #[x, y, z]).cells = #[x, y, z])
    (w : World) (n : Nat) (hg : o.guard = none) (l c : Operand) (hop : o.op = Op.makeSlice TS l c) (hl : a.eval l = .int .i64 n) (hc : a.eval c = .int .i64 n) (hn : n ≤ 2000000)
    (h : ∀ w', Tg T w' w.heap.size (.slice (some ⟨w.heap.size, 0, none⟩) n n) (List.replicate n (x, y, z)) → Kept [] w w' → w.heap.size < w'.heap.size →
      wpList Try.prog ops Q rest (a.put o.dst (.slice (some ⟨w.heap.size, 0, none⟩) n n)) w') : wpList Try.prog ops Q (o :: rest) a w := by
  obtain ⟨i0, hi, hz0, hz1, hz2⟩ := info_parts hinfo
  have hbb : bytes * n ≤ 100 * 2000000 := Nat.mul_le_mul hby hn
  refine wpList_make_full w hg l c _ hop w.heap.size T i0 (.agg #[x, y, z]) 3 ht hi hz0 hz1 .i64 .i64 n n n hl hc rfl rfl (by rw [hz2]; omega) (by unfold maxLen; omega) (Nat.le_refl _) ?_
  intro w' h1 h2
  have hs : Tg T w' w.heap.size (.slice (some ⟨w.heap.size, 0, none⟩) n n) (List.replicate n (x, y, z)) := by
    unfold Tg
    rw [hce, tri_rep] at h1
    rw [List.length_replicate]
    exact h1
  exact h w' hs ((Kept.refl _ _).grown h2 (by simp)) (hs.block (g := w.heap.size) rfl).2
theorem tri_set : ∀ (xs : List (Value × Value × Value)) (k : Nat) (a b c : Value), k < xs.length → (((tri xs).set (k * 3) a).set (k * 3 + 1) b).set (k * 3 + 2) c = tri (xs.set k (a, b, c))
  | [], _, _, _, _, h => absurd h (by simp)
  | x :: xs, 0, a, b, c, _ => rfl
  | x :: xs, k + 1, a, b, c, h => by
    have ih := tri_set xs k a b c (by simpa using h)
    have e : ∀ (y : Value × Value × Value) (ys : List (Value × Value × Value)), tri (y :: ys) = y.1 :: y.2.1 :: y.2.2 :: tri ys := fun _ _ => rfl
    rw [e, show (k + 1) * 3 = k * 3 + 1 + 1 + 1 by omega]
    rw [show k * 3 + 1 + 1 + 1 + 1 = (k * 3 + 1) + 1 + 1 + 1 by omega, show k * 3 + 1 + 1 + 1 + 2 = (k * 3 + 2) + 1 + 1 + 1 by omega]
    simp only [List.set_cons_succ]
    rw [ih, e]
/-- A struct written at a place. -/
theorem Tg.set3 {T : TypeId} {w : World} {base g cap n : Nat} {xs : List (Value × Value × Value)} (h : Tg T w base (.slice (some ⟨g, 0, none⟩) n cap) xs) (hn : n = xs.length) (k : Nat) (hk : k < n) (a b c : Value) :
    Tg T (((w.setCell ⟨g, k * 3, none⟩ a).setCell ⟨g, k * 3 + 1, none⟩ b).setCell ⟨g, k * 3 + 2, none⟩ c) base (.slice (some ⟨g, 0, none⟩) n cap) (xs.set k (a, b, c)) := by
  subst hn
  have h1 := (World.ownsRow.stored h (k * 3) a).1
  have h2 := (World.ownsRow.stored h1 (k * 3 + 1) b).1
  have h3 := (World.ownsRow.stored h2 (k * 3 + 2) c).1
  unfold Tg
  rw [tri_set xs k a b c hk] at h3
  rw [List.length_set]
  exact h3
theorem at3_set (xs : List (Value × Value × Value)) (k j : Nat) (x : Value × Value × Value) (h : k < xs.length) : at3 (xs.set k x) j = if j = k then x else at3 xs j := by
  unfold at3
  rw [List.getD_eq_getElem?_getD, List.getElem?_set]
  by_cases e : k = j
  · subst e; rw [if_pos rfl, if_pos rfl, if_pos h]; rfl
  · rw [if_neg e, if_neg (fun h => e h.symm), List.getD_eq_getElem?_getD]
theorem Kept.tri3 {rows : List Nat} {w w' : World} {g : Nat} (h : Kept rows w w') (hg : g ∈ rows ∨ w.heap.size ≤ g) (i j k : Nat) (a b c : Value) : Kept rows w (((w'.setCell ⟨g, i, none⟩ a).setCell ⟨g, j, none⟩ b).setCell ⟨g, k, none⟩ c) :=
  ((h.setCell hg a).setCell hg b).setCell hg c

/-! A desk whose parts all lie apart, one behind the other. -/
/-- The places of before: each one's two slices at the blocks that G tells. -/
def PastAt (w : World) (base : Nat) (G C : Nat → Nat) (vs : List (Value × Value × Value)) (ps : List Nt.Pi) (k : Nat) : Prop :=
  at3 vs k = (.slice (some ⟨G (2 * k + 2), 0, none⟩) (piAt ps k).ns.length (C (2 * k + 2)), .int .i64 (piAt ps k).c, .slice (some ⟨G (2 * k + 3), 0, none⟩) (piAt ps k).ks.length (C (2 * k + 3))) ∧
    Sl w base (.slice (some ⟨G (2 * k + 2), 0, none⟩) (piAt ps k).ns.length (C (2 * k + 2))) (piAt ps k).ns ∧
    Sl w base (.slice (some ⟨G (2 * k + 3), 0, none⟩) (piAt ps k).ks.length (C (2 * k + 3))) (piAt ps k).ks
structure Dx (w : World) (base : Nat) (x : Value) (d : Nt.Di) (G C : Nat → Nat) (r : Value) (vs : List (Value × Value × Value)) : Prop where
  val : x = .agg #[.slice (some ⟨G 0, 0, none⟩) d.now.ns.length (C 0), .int .i64 d.now.c, .slice (some ⟨G 1, 0, none⟩) d.now.ks.length (C 1), r]
  net : Sl w base (.slice (some ⟨G 0, 0, none⟩) d.now.ns.length (C 0)) d.now.ns
  st : Sl w base (.slice (some ⟨G 1, 0, none⟩) d.now.ks.length (C 1)) d.now.ks
  row : Tg 25 w base r vs
  len : vs.length = d.past.length
  past : ∀ k, k < d.past.length → PastAt w base G C vs d.past k
  inc : ∀ i j, i < j → j < 2 * d.past.length + 2 → G i < G j
theorem Dx.dvo {w : World} {base : Nat} {x : Value} {d : Nt.Di} {G C : Nat → Nat} {r : Value} {vs : List (Value × Value × Value)} (h : Dx w base x d G C r vs) : DvO w base x d :=
  ⟨_, _, r, h.val, h.net, h.st, vs, h.row, h.len, fun k hk => ⟨_, _, (h.past k hk).1, (h.past k hk).2.1, (h.past k hk).2.2⟩⟩
theorem Dx.dv {w : World} {base : Nat} {x : Value} {d : Nt.Di} {G C : Nat → Nat} {r : Value} {vs : List (Value × Value × Value)} (h : Dx w base x d G C r vs) : Dv w base x d := h.dvo.dv
theorem Dx.stay {w w' : World} {base : Nat} {x : Value} {d : Nt.Di} {G C : Nat → Nat} {r : Value} {vs : List (Value × Value × Value)} (h : Dx w base x d G C r vs) (hk : Kept [] w w') : Dx w' base x d G C r vs :=
  ⟨h.val, h.net.stay hk, h.st.stay hk, h.row.stay hk, h.len, fun k hk2 => ⟨(h.past k hk2).1, (h.past k hk2).2.1.stay hk, (h.past k hk2).2.2.stay hk⟩, h.inc⟩
theorem Dx.mono {w : World} {base base' : Nat} {x : Value} {d : Nt.Di} {G C : Nat → Nat} {r : Value} {vs : List (Value × Value × Value)} (h : Dx w base x d G C r vs) (hb : base' ≤ base) : Dx w base' x d G C r vs :=
  ⟨h.val, h.net.mono hb, h.st.mono hb, h.row.mono hb, h.len, fun k hk2 => ⟨(h.past k hk2).1, (h.past k hk2).2.1.mono hb, (h.past k hk2).2.2.mono hb⟩, h.inc⟩
theorem Dx.kept {w w' : World} {base : Nat} {x : Value} {d : Nt.Di} {G C : Nat → Nat} {r : Value} {vs : List (Value × Value × Value)} {rows : List Nat} (h : Dx w base x d G C r vs) (hk : Kept rows w w') (hn : ∀ g, base ≤ g → g < w.heap.size → ¬ g ∈ rows) : Dx w' base x d G C r vs :=
  ⟨h.val, h.net.kept hk (fun g hg => hn g (h.net.block hg).1 (h.net.block hg).2), h.st.kept hk (fun g hg => hn g (h.st.block hg).1 (h.st.block hg).2), h.row.kept hk (fun g hg => hn g (h.row.block hg).1 (h.row.block hg).2), h.len,
    fun k hk2 => ⟨(h.past k hk2).1, (h.past k hk2).2.1.kept hk (fun g hg => hn g ((h.past k hk2).2.1.block hg).1 ((h.past k hk2).2.1.block hg).2), (h.past k hk2).2.2.kept hk (fun g hg => hn g ((h.past k hk2).2.2.block hg).1 ((h.past k hk2).2.2.block hg).2)⟩, h.inc⟩
/-- A desk that is returned: one that is one, in memory of its own; or none. -/
def DxR (w : World) (base : Nat) (x : Value) (d : Nt.Di) : Prop := (d = Nt.Di.zero ∧ x = .agg #[.slice none 0 0, .int .i64 0, .slice none 0 0, .slice none 0 0]) ∨ (Nt.dkB d = true ∧ ∃ G C r vs, Dx w base x d G C r vs)
theorem DxR.dv {w : World} {base : Nat} {x : Value} {d : Nt.Di} (h : DxR w base x d) : Dv w base x d := by
  rcases h with ⟨rfl, rfl⟩ | ⟨_, G, C, r, vs, h⟩
  · exact Dv.zero w base
  · exact h.dv
theorem DxR.stay {w w' : World} {base : Nat} {x : Value} {d : Nt.Di} (h : DxR w base x d) (hk : Kept [] w w') : DxR w' base x d := by
  rcases h with ⟨rfl, rfl⟩ | ⟨h1, G, C, r, vs, h⟩
  · exact .inl ⟨rfl, rfl⟩
  · exact .inr ⟨h1, G, C, r, vs, h.stay hk⟩
theorem DxR.mono {w : World} {base base' : Nat} {x : Value} {d : Nt.Di} (h : DxR w base x d) (hb : base' ≤ base) : DxR w base' x d := by
  rcases h with ⟨rfl, rfl⟩ | ⟨h1, G, C, r, vs, h⟩
  · exact .inl ⟨rfl, rfl⟩
  · exact .inr ⟨h1, G, C, r, vs, h.mono hb⟩
end Go.Proofs.Ytofgfhfdmkcmcaa
