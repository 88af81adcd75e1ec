/-
  Slices of whole numbers that a call makes itself, and what a call leaves as it was: words for all walks.
  How the walk's bits of whole numbers read as bits of natural numbers.
  make and append of slices of whole numbers, as laws for the walk.
  Walks of the smallest functions.
  append of a whole slice, and make without elements, as laws for the walk.
  Slices of natural numbers; small facts of numbers.
-/
import Derived.WalkKit
import Derived.WalkSpells
import Derived.WalkLawsBesides
import Derived.Lib.Hide
import Derived.Test.YtnajdbnacdnnlaaGreatDoorPA
import Derived.Test.YtnajdbnacdnnlaaGreatDoorRows
import Derived.Deep.QuietTactic
import Derived.BigQuiet
import Derived.Deep.RegionLaw
namespace Go.Proofs.YtnajdbnacdnnlaaGreatDoor
open Go.RowKit

/-- All but some blocks is as it was. -/
structure Kept (rows : List Nat) (w w' : World) : Prop where
  os : w'.os = w.os
  tape : w'.tape = w.tape
  output : w'.output = w.output
  size : w.heap.size ≤ w'.heap.size
  block : ∀ k, k < w.heap.size → ¬ k ∈ rows → w'.heap[k]? = w.heap[k]?

theorem Kept.refl (rows : List Nat) (w : World) : Kept rows w w := ⟨rfl, rfl, rfl, Nat.le_refl _, fun _ _ _ => rfl⟩

theorem Kept.trans {rows rows' : List Nat} {a b c : World} (h : Kept rows a b) (k : Kept rows' b c) (hr : ∀ x, x ∈ rows' → x ∈ rows ∨ a.heap.size ≤ x) : Kept rows a c :=
  ⟨k.os.trans h.os, k.tape.trans h.tape, k.output.trans h.output, Nat.le_trans h.size k.size, fun i hi hn =>
    (k.block i (Nat.lt_of_lt_of_le hi h.size) (fun e => by
      rcases hr i e with h1 | h1
      · exact hn h1
      · omega)).trans (h.block i hi hn)⟩

theorem Kept.to_below {w w' : World} (h : Kept [] w w') : Below w.heap.size w w' :=
  ⟨h.os, h.tape, h.output, h.size, fun k hk => h.block k hk (by simp)⟩

theorem Kept.of_below {w w' : World} (h : Below w.heap.size w w') : Kept [] w w' :=
  ⟨h.os, h.tape, h.output, h.size, fun k hk _ => h.block k hk⟩

theorem Kept.drew {rows : List Nat} {a w : World} (h : Kept rows a w) : Kept rows a w.drew := ⟨h.os, h.tape, h.output, h.size, h.block⟩

theorem Kept.alloc {rows : List Nat} {a w : World} (h : Kept rows a w) (o : Obj) : Kept rows a (w.alloc o) :=
  h.trans (rows' := []) ⟨rfl, rfl, rfl, by simp, fun k hk _ => Below.heap_alloc _ _ _ hk⟩ (by simp)

theorem Kept.setCell {rows : List Nat} {a w : World} (h : Kept rows a w) {p : Addr} (hp : p.block ∈ rows ∨ a.heap.size ≤ p.block) (u : Value) : Kept rows a (w.setCell p u) :=
  h.trans (rows' := [p.block]) ⟨rfl, rfl, rfl, by simp [World.setCell], fun k _ hn => Below.heap_setCell _ _ _ _ (by simpa using hn)⟩ (by simpa using hp)

theorem Kept.grown {rows : List Nat} {a w w' : World} {row : Option Nat} (h : Kept rows a w) (hg : w.grownBy w' row) (hr : ∀ k, row = some k → k ∈ rows ∨ a.heap.size ≤ k) : Kept rows a w' :=
  h.trans (rows' := row.toList) ⟨hg.os, hg.tape, hg.output, hg.size, fun k hk hn => hg.block k hk (fun e => hn (by rw [← e]; simp))⟩ (by
    intro x hx
    cases row with
    | none => simp at hx
    | some r => simp at hx; subst hx; exact hr _ rfl)

theorem Kept.cell {rows : List Nat} {w w' : World} (h : Kept rows w w') {p : Addr} (hp : p.block < w.heap.size) (hn : ¬ p.block ∈ rows) : w'.cell? p = w.cell? p :=
  World.cell?_of_block (w := w) (h.block p.block hp hn)

/-- Whole numbers as values. -/
def ints (xs : List Int) : List Value := xs.map (Value.int .i64)

theorem ints_length (xs : List Int) : (ints xs).length = xs.length := by simp [ints]
theorem ints_append (xs ys : List Int) : ints (xs ++ ys) = ints xs ++ ints ys := by simp [ints]
theorem ints_get (xs : List Int) (k : Nat) (h : k < xs.length) : (ints xs)[k]? = some (.int .i64 (xs.getD k 0)) := by
  simp [ints, List.getElem?_map, List.getElem?_eq_getElem h, List.getD_eq_getElem?_getD]

/-- A slice of whole numbers, at the head of a block from 'base' on that nothing freezes, or nil. -/
def Sl (w : World) (base : Nat) (v : Value) (xs : List Int) : Prop := w.ownsRow base 3 1 v xs.length (ints xs)

/-- What a slice is, in one form for nil and the others: block g, capacity cap. -/
theorem Sl.form {w : World} {base : Nat} {v : Value} {xs : List Int} (h : Sl w base v xs) :
    (v = .slice none 0 0 ∧ xs = []) ∨ ∃ g cap, v = .slice (some ⟨g, 0, none⟩) xs.length cap ∧ base ≤ g ∧ g < w.heap.size ∧ xs.length ≤ cap ∧ cap ≤ 9223372036854775807 ∧
      (∀ k, k < xs.length → w.cell? ⟨g, k, none⟩ = some (.int .i64 (xs.getD k 0))) ∧ (∀ k, w.frozen? ⟨g, k, none⟩ = false) := by
  rcases h.2 with ⟨rfl, hn⟩ | ⟨g, cap, cur, rfl, hb, hg, hc, hm, hs, ht⟩
  · exact .inl ⟨rfl, List.eq_nil_of_length_eq_zero hn⟩
  · refine .inr ⟨g, cap, rfl, hb, (Array.getElem?_eq_some_iff.1 hg).1, hc, by simpa [maxLen] using hm, fun k hk => ?_, fun k => World.ownsRow.frozenAt h k⟩
    rw [World.ownsRow.cellAt h k (by omega)]
    exact ints_get xs k hk

theorem Sl.nil (w : World) (base : Nat) : Sl w base (.slice none 0 0) [] := World.ownsRow_nil w base 3 1

theorem Sl.len {w : World} {base : Nat} {v : Value} {xs : List Int} (h : Sl w base v xs) : xs.length ≤ 9223372036854775807 := by
  rcases h.form with ⟨_, rfl⟩ | ⟨_, _, _, _, _, h1, h2, _⟩
  · simp
  · omega

/-- A slice stays where its block stays. -/
theorem Sl.kept {w w' : World} {base : Nat} {v : Value} {xs : List Int} {rows : List Nat} (h : Sl w base v xs) (hk : Kept rows w w') (hn : ∀ g, v.ownBlock = some g → ¬ g ∈ rows) : Sl w' base v xs := by
  refine ⟨h.1, ?_⟩
  rcases h.2 with hn | ⟨g, cap, cur, rfl, hb, hgg, rest⟩
  · exact .inl hn
  · refine .inr ⟨g, cap, cur, rfl, hb, ?_, rest⟩
    rw [hk.block g (Array.getElem?_eq_some_iff.1 hgg).1 (hn g rfl)]
    exact hgg

theorem Sl.stay {w w' : World} {base : Nat} {v : Value} {xs : List Int} (h : Sl w base v xs) (hk : Kept [] w w') : Sl w' base v xs := h.kept hk (by simp)

theorem Sl.mono {w : World} {base base' : Nat} {v : Value} {xs : List Int} (h : Sl w base v xs) (hb : base' ≤ base) : Sl w base' v xs := by
  refine ⟨h.1, ?_⟩
  rcases h.2 with hn | ⟨g, cap, cur, hv, hbg, rest⟩
  · exact .inl hn
  · exact .inr ⟨g, cap, cur, hv, by omega, rest⟩

theorem Sl.block {w : World} {base : Nat} {v : Value} {xs : List Int} (h : Sl w base v xs) {g : Nat} (hg : v.ownBlock = some g) : base ≤ g ∧ g < w.heap.size := World.ownsRow.lt h g hg


/-- The same world but for what has been drawn. -/
def Qt (w w' : World) : Prop := ∃ n, w' = w.drewN n
theorem Qt.refl (w : World) : Qt w w := ⟨0, rfl⟩
theorem Qt.heap {w w' : World} (h : Qt w w') : w'.heap = w.heap := by obtain ⟨n, rfl⟩ := h; rfl
theorem Qt.trans {a b c : World} (h : Qt a b) (k : Qt b c) : Qt a c := by
  obtain ⟨n, rfl⟩ := h
  obtain ⟨m, rfl⟩ := k
  exact ⟨n + m, by simp [World.drewN, Nat.add_assoc]⟩
theorem Qt.draw {a b : World} (h : Qt a b) (n : Nat) : Qt a (b.drewN n) := h.trans ⟨n, rfl⟩
theorem Qt.cell {w w' : World} (h : Qt w w') (a : Addr) : w'.cell? a = w.cell? a := by simp [World.cell?, h.heap]
theorem Qt.frozen {w w' : World} (h : Qt w w') (a : Addr) : w'.frozen? a = w.frozen? a := by simp [World.frozen?, h.heap]
theorem Qt.kept {w w' : World} (h : Qt w w') : Kept [] w w' := by
  obtain ⟨n, rfl⟩ := h
  exact ⟨rfl, rfl, rfl, Nat.le_refl _, fun _ _ _ => rfl⟩
theorem Qt.sl {w w' : World} {base : Nat} {v : Value} {xs : List Int} (h : Qt w w') (hs : Sl w base v xs) : Sl w' base v xs := hs.stay h.kept

/-- A call that only reads, inside a statement whose order is open. -/
theorem quietL {P : Program} {f : FuncId} {args : Array Value} {w : World} {n : Nat} {v : Value}
    (h : Calls P f args (w.drewN n) fun e w' => e = .returned v ∧ w.drewN n = w') : Calls P f args (w.drewN n) fun e w' => e = .returned v ∧ ∃ m, w' = w.drewN m :=
  h.mono fun _ _ hc => ⟨hc.1, n, hc.2.symm⟩

theorem quietQ {P : Program} {f : FuncId} {args : Array Value} {w : World} {n : Nat} {v : Value}
    (h : Calls P f args (w.drewN n) fun e w' => e = .returned v ∧ Qt (w.drewN n) w') : Calls P f args (w.drewN n) fun e w' => e = .returned v ∧ ∃ m, w' = w.drewN m :=
  h.mono fun _ _ hc => ⟨hc.1, by obtain ⟨m, hm⟩ := hc.2; exact ⟨n + m, by rw [hm]; simp [World.drewN, Nat.add_assoc]⟩⟩

/-- A slice in one form, nil or not: where there is an element, there is a block. -/
theorem Sl.any {w : World} {base : Nat} {v : Value} {xs : List Int} (h : Sl w base v xs) :
    ∃ (a : Option Addr) (cap : Nat), v = .slice a xs.length cap ∧ xs.length ≤ cap ∧ xs.length ≤ 9223372036854775807 ∧
      (∀ k, k < xs.length → ∃ g, a = some ⟨g, 0, none⟩ ∧ base ≤ g ∧ g < w.heap.size ∧ w.cell? ⟨g, k, none⟩ = some (.int .i64 (xs.getD k 0)) ∧ w.frozen? ⟨g, k, none⟩ = false) := by
  rcases h.form with ⟨rfl, rfl⟩ | ⟨g, cap, rfl, hb, hg, hc, hm, hcell, hfr⟩
  · exact ⟨none, 0, rfl, Nat.le_refl _, by simp, fun k hk => by simp at hk⟩
  · exact ⟨_, cap, rfl, hc, by omega, fun k hk => ⟨g, rfl, hb, hg, hcell k hk, hfr k⟩⟩

/-- Two lists that agree up to k. -/
def sameTo (xs ys : List Int) (k : Nat) : Prop := ∀ i, i < k → xs.getD i 0 = ys.getD i 0

theorem sameTo_succ {xs ys : List Int} {k : Nat} (h : sameTo xs ys k) (h1 : xs.getD k 0 = ys.getD k 0) : sameTo xs ys (k + 1) := by
  intro j hj
  by_cases e : j = k
  · subst e; exact h1
  · exact h j (by omega)

theorem sameTo_all {xs ys : List Int} (h : sameTo xs ys xs.length) (hl : xs.length = ys.length) : xs = ys := by
  apply List.ext_getElem hl
  intro i h1 h2
  have := h i h1
  simpa [List.getD_eq_getElem?_getD, List.getElem?_eq_getElem h1, List.getElem?_eq_getElem h2] using this

theorem ints_set (xs : List Int) (k : Nat) (x : Int) : (ints xs).set k (.int .i64 x) = ints (xs.set k x) := by
  simp [ints, List.map_set]

/-- A store into a slice. -/
theorem Sl.set {w : World} {base g cap n : Nat} {xs : List Int} (h : Sl w base (.slice (some ⟨g, 0, none⟩) n cap) xs) (hn : n = xs.length) (k : Nat) (x : Int) :
    Sl (w.setCell ⟨g, k, none⟩ (.int .i64 x)) base (.slice (some ⟨g, 0, none⟩) n cap) (xs.set k x) := by
  subst hn
  have := (World.ownsRow.stored h k (.int .i64 x)).1
  unfold Sl
  rw [List.length_set, ← ints_set]
  exact this

/-- A slice written out in the text. -/
theorem Sl.lit (w : World) (xs : List Int) (hl : xs.length ≤ 1000) : Sl (w.alloc (.cells (ints xs).toArray 3)) w.heap.size (.slice (some ⟨w.heap.size, 0, none⟩) xs.length xs.length) xs := by
  have := World.ownsRow_lit (base := w.heap.size) (e := 3) (size := 1) w (ints xs).toArray xs.length (Nat.le_refl _) (by simp only [maxLen]; omega) (by simp [ints])
  unfold Sl
  exact this

theorem Sl.shape {w : World} {base n : Nat} {v : Value} {xs : List Int} (h : Sl w base v xs) (hn : xs.length = n) (hp : 0 < n) :
    ∃ g cap, v = .slice (some ⟨g, 0, none⟩) n cap ∧ base ≤ g ∧ g < w.heap.size := by
  subst hn
  obtain ⟨a, cap, rfl, _, _, hc⟩ := h.any
  obtain ⟨g, rfl, h1, h2, _⟩ := hc 0 hp
  exact ⟨g, cap, rfl, h1, h2⟩

theorem Sl.at {w : World} {base g n cap : Nat} {xs : List Int} (h : Sl w base (.slice (some ⟨g, 0, none⟩) n cap) xs) (k : Nat) (hk : k < xs.length) :
    w.cell? ⟨g, k, none⟩ = some (.int .i64 (xs.getD k 0)) ∧ w.frozen? ⟨g, k, none⟩ = false := by
  obtain ⟨a, cap', e, _, _, hc⟩ := h.any
  obtain ⟨g', rfl, _, _, h1, h2⟩ := hc k hk
  simp at e
  obtain ⟨rfl, _⟩ := e
  exact ⟨h1, h2⟩

theorem Sl.same_len {w : World} {base n cap : Nat} {a : Option Addr} {xs : List Int} (h : Sl w base (.slice a n cap) xs) : n = xs.length := by
  obtain ⟨a', cap', e, _⟩ := h.any
  simp at e
  exact e.2.1

/-- A slice of whole numbers that came in from outside. -/
def Arg (w : World) (v : Value) (xs : List Int) : Prop :=
  ∃ (a : Option Addr) (cap : Nat), v = .slice a xs.length cap ∧ xs.length ≤ 9223372036854775807 ∧
    ∀ k, k < xs.length → ∃ b off, a = some ⟨b, off, none⟩ ∧ b < w.heap.size ∧ w.cell? ⟨b, off + k, none⟩ = some (.int .i64 (xs.getD k 0))

theorem Arg.stay {w w' : World} {v : Value} {xs : List Int} (h : Arg w v xs) (hk : Kept [] w w') : Arg w' v xs := by
  obtain ⟨a, cap, rfl, hm, hc⟩ := h
  refine ⟨a, cap, rfl, hm, fun k hkl => ?_⟩
  obtain ⟨b, off, rfl, hb, hcell⟩ := hc k hkl
  exact ⟨b, off, rfl, Nat.lt_of_lt_of_le hb hk.size, (hk.cell (p := ⟨b, off + k, none⟩) hb (by simp)).trans hcell⟩

/-- The numbers of a slice that came in, as the statement hands them over. -/
theorem arg_of {w : World} {a : Option Addr} {len cap : Nat} {zs : List Int}
    (h : (a = none ∧ len = 0 ∧ cap = 0 ∧ zs = []) ∨ ∃ x, a = some x ∧ len ≤ cap ∧ cap ≤ maxLen ∧ zs.length = cap ∧ (∀ i, i < zs.length → w.cell? (x.add i) = some (.int .i64 (zs.getD i 0))) ∧ ∀ n ∈ zs, (Lit.int .i64 n).wf = true) :
    Arg w (.slice a len cap) (zs.take len) := by
  rcases h with ⟨rfl, rfl, rfl, rfl⟩ | ⟨x, rfl, hl, hm, hz, hcell, _⟩
  · exact ⟨none, 0, rfl, by simp, fun k hk => by simp at hk⟩
  · have hlen : (zs.take len).length = len := by simp; omega
    refine ⟨some x, cap, by rw [hlen], by rw [hlen]; unfold maxLen at hm; omega, fun k hk => ?_⟩
    rw [hlen] at hk
    have h00 := hcell 0 (by omega)
    have hkk := hcell k (by omega)
    obtain ⟨b, off, spot⟩ := x
    have hspot : spot = none := by simpa [Addr.add] using World.cell?_spot h00
    subst hspot
    have e : (⟨b, off, none⟩ : Addr).add k = ⟨b, off + k, none⟩ := by unfold Addr.add; split <;> simp_all
    rw [e] at hkk
    refine ⟨b, off, rfl, World.block_lt_of_cell? w _ hkk, ?_⟩
    rw [hkk]
    have : (zs.take len).getD k 0 = zs.getD k 0 := by simp [List.getD_eq_getElem?_getD, hk]
    rw [this]

/-- Numbers that mark the cells of a list: k, k + 1, .. -/
def marks (k : Int) (n : Nat) : List Int := (List.range n).map fun i => k + (i : Nat)
theorem marks_length (k : Int) (n : Nat) : (marks k n).length = n := by simp [marks]
theorem marks_get (k : Int) (n i : Nat) (h : i < n) : (marks k n).getD i 0 = k + i := by
  simp [marks, List.getD_eq_getElem?_getD, h]

/-- Marked up to i. -/
def markTo (k : Int) (xs : List Int) (i : Nat) : List Int := marks k i ++ xs.drop i
theorem markTo_length (k : Int) (xs : List Int) (i : Nat) (h : i ≤ xs.length) : (markTo k xs i).length = xs.length := by simp [markTo, marks_length]; omega
theorem markTo_set (k : Int) (xs : List Int) (i : Nat) (h : i < xs.length) : (markTo k xs i).set i (k + i) = markTo k xs (i + 1) := by
  unfold markTo
  rw [List.set_append_right _ _ (by simp [marks_length])]
  rw [marks_length, Nat.sub_self, List.drop_eq_getElem_cons h, List.set_cons_zero]
  simp [marks, List.range_succ]
theorem markTo_end (k : Int) (xs : List Int) : markTo k xs xs.length = marks k xs.length := by simp [markTo]

/-- Copied up to i, zeros behind. -/
def copyTo (xs : List Int) (i : Nat) : List Int := xs.take i ++ List.replicate (xs.length - i) 0
theorem copyTo_length (xs : List Int) (i : Nat) (h : i ≤ xs.length) : (copyTo xs i).length = xs.length := by simp [copyTo]; omega
theorem copyTo_set (xs : List Int) (i : Nat) (h : i < xs.length) : (copyTo xs i).set i (xs.getD i 0) = copyTo xs (i + 1) := by
  unfold copyTo
  have hl : (xs.take i).length = i := by simp; omega
  have e : xs.length - i = (xs.length - (i + 1)) + 1 := by omega
  rw [List.set_append_right _ _ (by omega), hl, Nat.sub_self, e, List.replicate_succ, List.set_cons_zero, List.take_succ_eq_append_getElem h, List.append_assoc]
  simp [List.getD_eq_getElem?_getD, h]
theorem copyTo_end (xs : List Int) : copyTo xs xs.length = xs := by simp [copyTo]

theorem apart {v u : Value} {B : Nat} (h1 : ∀ g, v.ownBlock = some g → g < B) (h2 : ∀ g, u.ownBlock = some g → B ≤ g) : ∀ g, v.ownBlock = some g → ¬ g ∈ u.ownBlock.toList := by
  intro g hg hm
  have := h1 g hg
  have := h2 g (by simpa using hm)
  omega
theorem apart' {v u : Value} {B : Nat} (h1 : ∀ g, v.ownBlock = some g → g < B) (h2 : ∀ g, u.ownBlock = some g → B ≤ g) : ∀ g, u.ownBlock = some g → ¬ g ∈ v.ownBlock.toList := by
  intro g hg hm
  have := h2 g hg
  have := h1 g (by simpa using hm)
  omega
theorem Kept.own {w a b : World} {v : Value} (h : Kept [] w a) (k : Kept v.ownBlock.toList a b) (hv : ∀ g, v.ownBlock = some g → w.heap.size ≤ g) : Kept [] w b :=
  h.trans k fun x hx => .inr (hv x (by simpa using hx))

theorem dec_of {p : Prop} [Decidable p] (h : p) : decide p = true := by simp [h]
theorem dec_not {p : Prop} [Decidable p] (h : ¬ p) : decide p = false := by simp [h]

theorem Sl.val {w : World} {base : Nat} {v : Value} {xs ys : List Int} {x y : Int} (h : Sl w base v (xs ++ [x])) (e : x = y) (hy : ys = xs ++ [y]) : Sl w base v ys := by
  rw [hy, ← e]
  exact h

/-- A net in memory: nonempty. -/
theorem Sl.net {w : World} {base : Nat} {v : Value} {ns : List Nat} (h : Sl w base v (Nt.nats ns)) (hp : 0 < ns.length) :
    ∃ g cap, v = .slice (some ⟨g, 0, none⟩) ns.length cap ∧ base ≤ g ∧ g < w.heap.size ∧ ns.length ≤ cap ∧
      (∀ k, k < ns.length → w.cell? ⟨g, k, none⟩ = some (.int .i64 ((ns.getD k 0 : Nat) : Int))) := by
  rcases h.form with ⟨_, hn⟩ | ⟨g, cap, rfl, hb, hg, hc, _, hcell, _⟩
  · have e := Nt.nats_length ns; rw [hn] at e; simp at e; omega
  · rw [Nt.nats_length] at *
    exact ⟨g, cap, rfl, hb, hg, hc, fun k hk => by rw [hcell k hk, Nt.nats_get]⟩

end Go.Proofs.YtnajdbnacdnnlaaGreatDoor

namespace Go.Proofs.YtnajdbnacdnnlaaGreatDoor
open Go.RowKit

theorem bits_and64 (x y : Int) : bits .and .i64 x y = IntKind.i64.wrap ((BitVec.ofInt 64 x &&& BitVec.ofInt 64 y).toNat : Int) := rfl
theorem bits_or64 (x y : Int) : bits .or .i64 x y = IntKind.i64.wrap ((BitVec.ofInt 64 x ||| BitVec.ofInt 64 y).toNat : Int) := rfl
theorem bits_xor64 (x y : Int) : bits .xor .i64 x y = IntKind.i64.wrap ((BitVec.ofInt 64 x ^^^ BitVec.ofInt 64 y).toNat : Int) := rfl
theorem bits_andNot64 (x y : Int) : bits .andNot .i64 x y = IntKind.i64.wrap ((BitVec.ofInt 64 x &&& ~~~BitVec.ofInt 64 y).toNat : Int) := rfl

theorem ofInt_nat (a : Nat) (h : a < 4611686018427387904) : (BitVec.ofInt 64 (a : Int)).toNat = a := by
  rw [BitVec.toNat_ofInt]; omega

theorem wrap_nat (a : Nat) (h : a < 4611686018427387904) : IntKind.i64.wrap (a : Int) = (a : Int) := by
  rw [IntKind.wrap_i64]; omega

theorem bits_and_one (x : Int) : bits .and .i64 x 1 = x % 2 := by
  have e : (1 : BitVec 64).toNat = 1 := rfl
  have e1 : BitVec.ofInt 64 1 = (1 : BitVec 64) := by decide
  rw [bits_and64, BitVec.toNat_and, e1, e, Nat.and_one_is_mod, BitVec.toNat_ofInt]
  have h : ((x % ((2 ^ 64 : Nat) : Int)).toNat % 2 : Nat) = (x % 2).toNat := by omega
  rw [h]
  have h2 : (((x % 2).toNat : Nat) : Int) = x % 2 := by omega
  rw [h2, IntKind.wrap_i64]
  omega

theorem bits_or_nat (a b : Nat) (ha : a < 4611686018427387904) (hb : b < 4611686018427387904) : bits .or .i64 (a : Int) (b : Int) = ((a ||| b : Nat) : Int) := by
  rw [bits_or64, BitVec.toNat_or, ofInt_nat a ha, ofInt_nat b hb]
  exact wrap_nat _ (Nat.or_lt_two_pow (n := 62) ha hb)

theorem bits_xor_nat (a b : Nat) (ha : a < 4611686018427387904) (hb : b < 4611686018427387904) : bits .xor .i64 (a : Int) (b : Int) = ((a ^^^ b : Nat) : Int) := by
  rw [bits_xor64, BitVec.toNat_xor, ofInt_nat a ha, ofInt_nat b hb]
  exact wrap_nat _ (Nat.xor_lt_two_pow (n := 62) ha hb)

theorem bits_and_nat (a b : Nat) (ha : a < 4611686018427387904) (hb : b < 4611686018427387904) : bits .and .i64 (a : Int) (b : Int) = ((a &&& b : Nat) : Int) := by
  rw [bits_and64, BitVec.toNat_and, ofInt_nat a ha, ofInt_nat b hb]
  exact wrap_nat _ (Nat.lt_of_le_of_lt Nat.and_le_left ha)

theorem bits_andNot_nat (a b : Nat) (ha : a < 4611686018427387904) (hb : b < 4611686018427387904) : bits .andNot .i64 (a : Int) (b : Int) = ((Nt.less a b : Nat) : Int) := by
  have e : (BitVec.ofInt 64 (a : Int) &&& ~~~BitVec.ofInt 64 (b : Int)).toNat = Nt.less a b := by
    apply Nat.eq_of_testBit_eq
    intro i
    rw [Nt.testBit_less, ← BitVec.getLsbD, BitVec.getLsbD_and, BitVec.getLsbD_not, BitVec.getLsbD, BitVec.getLsbD, ofInt_nat a ha, ofInt_nat b hb]
    by_cases hi : i < 64
    · simp [hi]
    · have : a.testBit i = false := Nat.testBit_lt_two_pow (Nat.lt_of_lt_of_le ha (Nat.pow_le_pow_right (n := 2) (i := 62) (by omega) (by omega)))
      simp [this]
  rw [bits_andNot64, e]
  exact wrap_nat _ (Nt.less_lt (m := 62) ha)

theorem pow_int_le (n : Int) (h0 : 0 ≤ n) (h : n ≤ 61) : (0 : Int) < 2 ^ n.toNat ∧ (2 : Int) ^ n.toNat ≤ 2305843009213693952 := by
  have h1 : (2 : Nat) ^ n.toNat ≤ 2 ^ 61 := Nat.pow_le_pow_right (by omega) (by omega)
  have h2 : (0 : Nat) < 2 ^ n.toNat := Nat.two_pow_pos _
  have e : ((2 ^ n.toNat : Nat) : Int) = (2 : Int) ^ n.toNat := Int.natCast_pow 2 n.toNat
  rw [← e]
  generalize 2 ^ n.toNat = m at *
  omega

theorem wrap_pow (n : Int) (h0 : 0 ≤ n) (h : n ≤ 61) : wrap64 (2 ^ n.toNat) = 2 ^ n.toNat := by
  have := pow_int_le n h0 h
  exact IntWalk.wrap64_in _ (by omega)

theorem wrap_pow_nat (n : Nat) (h : n ≤ 61) : IntKind.i64.wrap (2 ^ n) = 2 ^ n := by
  have := wrap_pow n (by omega) (by omega)
  rw [Int.toNat_natCast] at this
  exact (IntWalk.i64_left _).trans this

theorem wrap_pow_pred (n : Nat) (h : n ≤ 61) : IntKind.i64.wrap (2 ^ n - 1) = 2 ^ n - 1 := by
  have := pow_int_le n (by omega) (by omega)
  rw [Int.toNat_natCast] at this
  exact IntWalk.i64_in _ (by omega)

theorem shr_nonneg (x j : Nat) : (0 : Int) ≤ (x : Int) / 2 ^ j := by
  exact Int.ediv_nonneg (by omega) (Int.le_of_lt (Int.pow_pos (by omega)))

theorem shr_bit (x j : Nat) : (x : Int) / 2 ^ j % 2 = if x.testBit j then 1 else 0 := by
  have e : ((x : Int) / 2 ^ j % 2) = ((x / 2 ^ j % 2 : Nat) : Int) := by simp
  rw [e, Nat.testBit_eq_decide_div_mod_eq]
  by_cases h : x / 2 ^ j % 2 = 1
  · simp [h]
  · have : x / 2 ^ j % 2 = 0 := by omega
    simp [this]

theorem or_shl (x b : Nat) (hx : x < 64) (hb : b ≤ 6) : bits .or .i64 (x : Int) (wrap64 (2 ^ b)) = ((x ||| 2 ^ b : Nat) : Int) := by
  have h := wrap_pow b (by omega) (by omega)
  rw [Int.toNat_natCast] at h
  have h2 : (2 : Nat) ^ b ≤ 2 ^ 6 := Nat.pow_le_pow_right (by omega) hb
  have e : (2 : Int) ^ b = ((2 ^ b : Nat) : Int) := (Int.natCast_pow 2 b).symm
  rw [h, e]
  exact bits_or_nat _ _ (by omega) (by omega)

theorem or_zero_shl (b : Nat) (hb : b ≤ 6) : bits .or .i64 0 (wrap64 (2 ^ b)) = ((2 ^ b : Nat) : Int) :=
  (or_shl 0 b (by omega) hb).trans (by rw [Nat.zero_or])

theorem or_small {x b : Nat} (hx : x < 64) (hb : b < 6) : x ||| 2 ^ b < 64 :=
  Nat.or_lt_two_pow (n := 6) hx (Nat.pow_lt_pow_right (by omega) hb)

theorem and_one_bit (s : Int) (k : Nat) : (bits .and .i64 (s / 2 ^ k) 1 == 1) = Nt.bit s k := by
  rw [bits_and_one]; rfl

end Go.Proofs.YtnajdbnacdnnlaaGreatDoor

namespace Go.Proofs.YtnajdbnacdnnlaaGreatDoor
open Go.RowKit

theorem info_int : (Tryz.prog.info? 3).map (fun i => (i.zero, i.size, i.bytes)) = some (some (.int .i64 0), 1, 8) := by kernel_rfl

/-- 'append(out, x)' of one number. -/
theorem app_int {ops : Array Oper} {rest : List Oper} {o : Oper} {a : Act} {Q : Exit → Act → World → Prop} {w0 : World} (x : Int) (hgd : o.guard = none) (s y : Operand)
    (ho : o.op = .call { callee := .builtin .append, args := #[s, y], argTypes := #[28, 28] })
    (base : Nat) (v : Value) (xs : List Int) (hown : Sl w0 base v xs) (hs : a.eval s = v) (hx : a.eval y = .slice (some ⟨w0.heap.size, 0, none⟩) 1 1)
    (hlen : xs.length ≤ 1000000) (hbase : base ≤ w0.heap.size)
    (h : ∀ v' w', Sl w' base v' (xs ++ [x]) → Kept v.ownBlock.toList w0 w' → wpList Tryz.prog ops Q rest (a.put o.dst v') w') :
    wpList Tryz.prog ops Q (o :: rest) a (w0.alloc (.cells #[.int .i64 x] 3)) := by
  obtain ⟨i0, hi, hz0, hz1, hz2⟩ := info_parts info_int
  refine wpList_append_own _ hgd s y _ ho base 3 i0 (.int .i64 0) 1 8 Tryz.underlying28 hi hz0 hz1 hz2 rfl (by decide) v xs.length (ints xs) hs (World.ownsRow.alloc hown _)
    ⟨w0.heap.size, 0, none⟩ 1 1 [.int .i64 x] hx rfl (cell_one_new _ _ _) (by intro u hu; simp at hu; subst hu; rfl) (by unfold maxLen; omega) (by omega) (by simp; omega) ?_
  intro v' w' h1 h2 _
  refine h v' w' ?_ ?_
  · unfold Sl
    rw [List.length_append, ints_append]
    exact h1
  · refine (Kept.refl _ _).alloc _ |>.grown h2 fun k hk => .inl (by rw [hk]; simp)

/-- 'make([]int, n)'. -/
theorem make_int {ops : Array Oper} {rest : List Oper} {o : Oper} {a : Act} {Q : Exit → Act → World → Prop} (w : World) (n : Nat)
    (hg : o.guard = none) (l c : Operand) (hop : o.op = Op.makeSlice 28 l c) (hl : a.eval l = .int .i64 n) (hc : a.eval c = .int .i64 n) (hn : n ≤ 2000000)
    (h : ∀ w', Sl w' w.heap.size (.slice (some ⟨w.heap.size, 0, none⟩) n n) (List.replicate n 0) → Kept [] w w' → w.heap.size < w'.heap.size →
      wpList Tryz.prog ops Q rest (a.put o.dst (.slice (some ⟨w.heap.size, 0, none⟩) n n)) w') : wpList Tryz.prog ops Q (o :: rest) a w := by
  obtain ⟨i0, hi, hz0, hz1, hz2⟩ := info_parts info_int
  refine wpList_make_full w hg l c _ hop w.heap.size 3 i0 (.int .i64 0) 1 Tryz.underlying28 hi hz0 hz1 .i64 .i64 n n n hl hc rfl rfl (by rw [hz2]; omega) (by unfold maxLen; omega) (Nat.le_refl _) ?_
  intro w' h1 h2
  have hs : Sl w' w.heap.size (.slice (some ⟨w.heap.size, 0, none⟩) n n) (List.replicate n 0) := by
    unfold Sl
    have e : ints (List.replicate n 0) = (madeCells (Value.int .i64 0).cells (n * 1)).toList := by
      rw [show (Value.int IntKind.i64 0).cells = #[Value.int .i64 0] from rfl, toList_madeCells_one]
      simp [ints]
    rw [List.length_replicate, e]
    exact h1
  exact h w' hs ((Kept.refl _ _).grown h2 (by simp)) (hs.block (g := w.heap.size) rfl).2
/-- 'append(out, x)' of one number, inside a statement whose order is open. -/
theorem step_app_int {ops : Array Oper} {o : Oper} {a : Act} {K : Act → World → Prop} {Q : Exit → Act → World → Prop} {E : Prop} {W : World} (x : Int) (hgd : o.guard = none) (s y : Operand)
    (ho : o.op = .call { callee := .builtin .append, args := #[s, y], argTypes := #[28, 28] })
    (base : Nat) (v : Value) (xs : List Int) (hown : Sl W base v xs) (hs : a.eval s = v) (b : Nat) (hx : a.eval y = .slice (some ⟨b, 0, none⟩) 1 1) (hcell : W.cell? ⟨b, 0, none⟩ = some (.int .i64 x))
    (hlen : xs.length ≤ 1000000) (hbase : base ≤ W.heap.size)
    (h : ∀ v' w', Sl w' base v' (xs ++ [x]) → Kept v.ownBlock.toList W w' → K (a.put o.dst v') w') :
    if Region.wanted o (yielded ops a.tmps) = true then Oper.wp Tryz.prog o a W K Q else E := by
  have hw : Region.wanted o (yielded ops a.tmps) = true := by simp [Region.wanted, hgd]
  rw [if_pos hw]
  obtain ⟨i0, hi, hz0, hz1, hz2⟩ := info_parts info_int
  refine wp_append_own W s y _ ho base 3 i0 (.int .i64 0) 1 8 Tryz.underlying28 hi hz0 hz1 hz2 rfl (by decide) v xs.length (ints xs) hs hown
    ⟨b, 0, none⟩ 1 1 [.int .i64 x] hx rfl ?_ (by intro u hu; simp at hu; subst hu; rfl) (by unfold maxLen; omega) (by omega) hbase ?_
  · intro j u hj
    match j, hj with
    | 0, hj => simp at hj; subst hj; simpa [Addr.add] using hcell
  · intro v' w' h1 h2 _
    refine h v' w' ?_ ?_
    · unfold Sl
      rw [List.length_append, ints_append]
      exact h1
    · exact (Kept.refl _ _).grown h2 fun k hk => .inl (by rw [hk]; simp)
end Go.Proofs.YtnajdbnacdnnlaaGreatDoor

namespace Go.Proofs.YtnajdbnacdnnlaaGreatDoor
open Go.RowKit

set_option maxHeartbeats 400000 in
set_option maxRecDepth 100000 in
theorem hasNode_any (s k : Int) (w : World) (h0 : 0 ≤ k) (h1 : k ≤ 62) :
    Calls Tryz.prog 171 #[.int .i64 s, .int .i64 k] w fun e w' => e = .returned (.bool (Nt.bit s k.toNat)) ∧ w = w' := by
  go_enter Tryz.func171, Tryz.ntmps171
  go_wp2
  go_ret
  exact ⟨by simp only [← and_one_bit]; rfl, rfl⟩

set_option maxHeartbeats 400000 in
set_option maxRecDepth 100000 in
theorem l1In_any (n lo hi : Int) (w : World) :
    Calls Tryz.prog 151 #[.int .i64 n, .int .i64 lo, .int .i64 hi] w fun e w' => e = .returned (.bool (decide (lo ≤ n ∧ n ≤ hi))) ∧ w = w' := by
  by_cases a : lo ≤ n <;> by_cases b : n ≤ hi
  all_goals
    go_enter Tryz.func151, Tryz.ntmps151
    go_wp2
    go_ret
    exact ⟨by simp [a, b], rfl⟩

set_option maxHeartbeats 400000 in
set_option maxRecDepth 100000 in
theorem setOk_any (n s : Int) (w : World) (h0 : 0 ≤ n) (h1 : n ≤ 6) :
    Calls Tryz.prog 121 #[.int .i64 n, .int .i64 s] w fun e w' => e = .returned (.bool (decide (0 ≤ s ∧ s < 2 ^ n.toNat))) ∧ w = w' := by
  have hp := wrap_pow n h0 (by omega)
  have HP := Lib.hid hp
  clear hp
  by_cases a : 0 ≤ s
  all_goals
    go_enter Tryz.func121, Tryz.ntmps121
    go_wp2
    go_ret
    exact ⟨by have e := HP.out; first | (simp [a, e]; done) | (simp; omega), rfl⟩

theorem hasNode_int (s : Int) (k : Nat) (w : World) (h1 : k ≤ 62) :
    Calls Tryz.prog 171 #[.int .i64 s, .int .i64 k] w fun e w' => e = .returned (.bool (Nt.bit s k)) ∧ w = w' :=
  (hasNode_any s k w (by omega) (by omega)).mono fun e w' ⟨he, hw⟩ => ⟨by rw [he, Int.toNat_natCast], hw⟩

theorem hasNode_nat (s k : Nat) (w : World) (h1 : k ≤ 62) :
    Calls Tryz.prog 171 #[.int .i64 s, .int .i64 k] w fun e w' => e = .returned (.bool (s.testBit k)) ∧ w = w' :=
  (hasNode_any s k w (by omega) (by omega)).mono fun e w' ⟨he, hw⟩ => ⟨by rw [he, Int.toNat_natCast, Nt.bit_nat], hw⟩

end Go.Proofs.YtnajdbnacdnnlaaGreatDoor

namespace Go.Proofs.YtnajdbnacdnnlaaGreatDoor
open Go.RowKit

/-- 'append(out, ys...)'. -/
theorem app_sl {ops : Array Oper} {rest : List Oper} {o : Oper} {a : Act} {Q : Exit → Act → World → Prop} {w0 : World} (hgd : o.guard = none) (s y : Operand)
    (ho : o.op = .call { callee := .builtin .append, args := #[s, y], argTypes := #[28, 28] })
    (base : Nat) (v : Value) (xs : List Int) (hown : Sl w0 base v xs) (hs : a.eval s = v) (base' : Nat) (u : Value) (ys : List Int) (hy : Sl w0 base' u ys) (hne : 0 < ys.length) (hx : a.eval y = u)
    (hlen : xs.length + ys.length ≤ 1000000) (hbase : base ≤ w0.heap.size)
    (h : ∀ v' w', Sl w' base v' (xs ++ ys) → Kept v.ownBlock.toList w0 w' → wpList Tryz.prog ops Q rest (a.put o.dst v') w') :
    wpList Tryz.prog ops Q (o :: rest) a w0 := by
  obtain ⟨i0, hi, hz0, hz1, hz2⟩ := info_parts info_int
  obtain ⟨g, cap, rfl, _, _⟩ := hy.shape rfl hne
  refine wpList_append_own _ hgd s y _ ho base 3 i0 (.int .i64 0) 1 8 Tryz.underlying28 hi hz0 hz1 hz2 rfl (by decide) v xs.length (ints xs) hs hown
    ⟨g, 0, none⟩ ys.length cap (ints ys) hx (by simp [ints]) ?_ (ints_oneCell _ _) (by unfold maxLen; omega) (by omega) hbase ?_
  · intro j z hz
    have hj : j < ys.length := by
      have := (List.getElem?_eq_some_iff.1 hz).1
      simpa [ints] using this
    rw [ints_get ys j hj] at hz
    have hc := (hy.at j hj).1
    have e : (⟨g, 0, none⟩ : Addr).add j = ⟨g, j, none⟩ := by unfold Addr.add; split <;> simp_all
    rw [e, hc, hz]
  · intro v' w' h1 h2 _
    refine h v' w' ?_ ?_
    · unfold Sl
      rw [List.length_append, ints_append]
      exact h1
    · exact (Kept.refl _ _).grown h2 fun k hk => .inl (by rw [hk]; simp)

/-- 'make([]int, 0, n)'. -/
theorem make0_int {ops : Array Oper} {rest : List Oper} {o : Oper} {a : Act} {Q : Exit → Act → World → Prop} (w : World) (n : Nat)
    (hg : o.guard = none) (l c : Operand) (hop : o.op = Op.makeSlice 28 l c) (hl : a.eval l = .int .i64 0) (C : Int) (hc : a.eval c = .int .i64 C) (hC : C = (n : Int)) (hn : n ≤ 2000000)
    (h : ∀ w', Sl w' w.heap.size (.slice (some ⟨w.heap.size, 0, none⟩) 0 n) [] → Kept [] w w' → w.heap.size < w'.heap.size →
      wpList Tryz.prog ops Q rest (a.put o.dst (.slice (some ⟨w.heap.size, 0, none⟩) 0 n)) w') : wpList Tryz.prog ops Q (o :: rest) a w := by
  obtain ⟨i0, hi, hz0, hz1, hz2⟩ := info_parts info_int
  refine wpList_make_own w hg l c _ hop w.heap.size 3 i0 (.int .i64 0) 1 Tryz.underlying28 hi hz0 hz1 .i64 .i64 C n hl hc hC (by rw [hz2]; omega) (by unfold maxLen; omega) (Nat.le_refl _) ?_
  intro w' h1 h2
  have hs : Sl w' w.heap.size (.slice (some ⟨w.heap.size, 0, none⟩) 0 n) [] := h1
  exact h w' hs ((Kept.refl _ _).grown h2 (by simp)) (hs.block (g := w.heap.size) rfl).2

/-- 'make([]int, n)' behind a guard that lets it run. -/
theorem make_int_g {ops : Array Oper} {rest : List Oper} {o : Oper} {a : Act} {Q : Exit → Act → World → Prop} (w : World) (n : Nat)
    (hw : Region.wanted o (yielded ops a.tmps) = true) (l c : Operand) (hop : o.op = Op.makeSlice 28 l c) (hl : a.eval l = .int .i64 n) (hc : a.eval c = .int .i64 n) (hn : n ≤ 2000000)
    (h : ∀ w', Sl w' w.heap.size (.slice (some ⟨w.heap.size, 0, none⟩) n n) (List.replicate n 0) → Kept [] w w' → w.heap.size < w'.heap.size →
      wpList Tryz.prog ops Q rest (a.put o.dst (.slice (some ⟨w.heap.size, 0, none⟩) n n)) w') : wpList Tryz.prog ops Q (o :: rest) a w := by
  obtain ⟨i0, hi, hz0, hz1, hz2⟩ := info_parts info_int
  obtain ⟨w', hrun, h1, h2⟩ := run_make_full (P := Tryz.prog) w w.heap.size 28 3 i0 (.int .i64 0) 1 Tryz.underlying28 hi hz0 hz1 .i64 .i64 n (by rw [hz2]; omega) (by unfold maxLen; omega) (Nat.le_refl _)
  have hs : Sl w' w.heap.size (.slice (some ⟨w.heap.size, 0, none⟩) n n) (List.replicate n 0) := by
    unfold Sl
    have e : ints (List.replicate n 0) = (madeCells (Value.int .i64 0).cells (n * 1)).toList := by
      rw [show (Value.int IntKind.i64 0).cells = #[Value.int .i64 0] from rfl, toList_madeCells_one]
      simp [ints]
    rw [List.length_replicate, e]
    exact h1
  unfold wpList
  rw [if_pos hw]
  left
  unfold Oper.wp
  simp [execOp, hop, hl, hc, hrun, Result.andThen]
  exact h w' hs ((Kept.refl _ _).grown h2 (by simp)) (hs.block (g := w.heap.size) rfl).2
end Go.Proofs.YtnajdbnacdnnlaaGreatDoor

namespace Go.Proofs.YtnajdbnacdnnlaaGreatDoor
open Go.RowKit

theorem Sl.empty3 (w : World) : Sl (w.alloc (.cells #[] 3)) w.heap.size (.slice (some ⟨w.heap.size, 0, none⟩) 0 0) [] := Sl.lit w [] (by simp)

theorem nats_zeros (n : Nat) : Nt.nats (List.replicate n 0) = List.replicate n 0 := by simp [Nt.nats]

/-- A slice of natural numbers in memory: where it lies, and its cells. -/
theorem Sl.row {w : World} {base n : Nat} {v : Value} {ks : List Nat} (h : Sl w base v (Nt.nats ks)) (hn : ks.length = n) (hp : 0 < n) :
    ∃ g cap, v = .slice (some ⟨g, 0, none⟩) n cap ∧ g < w.heap.size ∧ (∀ k, k < n → w.cell? ⟨g, k, none⟩ = some (.int .i64 ((ks.getD k 0 : Nat) : Int))) := by
  obtain ⟨g, cap, rfl, _, hg⟩ := h.shape (n := n) (by rw [Nt.nats_length]; exact hn) hp
  exact ⟨g, cap, rfl, hg, fun k hk => ((h.at k (by rw [Nt.nats_length]; omega)).1).trans (by rw [Nt.nats_get])⟩

theorem put_zero (n : Nat) (os : List Nat) (f : Nat → Nat) : Nt.nats (Nt.putTo n os f 0) = List.replicate n 0 := nats_zeros n

theorem i64_le {a : Int} (h : (Lit.int .i64 a).wf = true) : a ≤ 9223372036854775807 := by
  simp only [Lit.wf, IntKind.min, IntKind.max, IntKind.signed, IntKind.bits, Bool.and_eq_true] at h
  simp at h
  omega

theorem tmod_nat (q c : Nat) : (q : Int).tmod (c : Int) = ((q % c : Nat) : Int) := by
  rw [Int.tmod_eq_emod_of_nonneg (by omega)]; simp
theorem tdiv_nat (q c : Nat) : (q : Int).tdiv (c : Int) = ((q / c : Nat) : Int) := by
  rw [Int.tdiv_eq_ediv_of_nonneg (by omega)]; simp

end Go.Proofs.YtnajdbnacdnnlaaGreatDoor
