/-
  Walks: what the laws draw.
  Walks: a net and a set drawn.
  Walks: a net and a node drawn; two nets drawn.
  Walks: an order drawn.
  Walks: a net and an order drawn.
-/
import Derived.Test.YtaacehdfpoiljaaDoorDA
import Derived.Deep.RegionWith
import Derived.Test.YtaacehdfpoiljaaDoorKA
namespace Go.Proofs.YtaacehdfpoiljaaDoor
open Go.RowKit

/-- A list of at most six numbers, and nothing else has turned. -/
def DrawnNet (w : World) (e : Ending) (w' : World) : Prop :=
  ∃ u xs, e = .returned u ∧ Sl w' w.heap.size u xs ∧ xs.length ≤ 6 ∧ Kept [] w w'

/-- A small number is drawn. -/
def DrawnInt (lo hi : Int) (w : World) (e : Ending) (w' : World) : Prop :=
  ∃ x : Int, e = .returned (.int .i64 x) ∧ lo ≤ x ∧ x ≤ hi ∧ Kept [] w w'

end Go.Proofs.YtaacehdfpoiljaaDoor

namespace Go.Proofs.YtaacehdfpoiljaaDoor
open Go.RowKit

/-- A reader, and nothing else has turned since w0. -/
def RdK (w0 w : World) (B R P : Nat) : Prop := Rd w B R P ∧ Kept [R] w0 w

theorem pick_of {w0 w : World} {B R P : Nat} (hr : RdK w0 w B R P) (m : Int) (hm : m ≤ 1000000) (hP : P ≤ 100000) :
    Calls Tryd.prog 62 #[.pointer (some ⟨R, 0, none⟩), .int .i64 m] w fun e w' => ∃ x : Int, e = .returned (.int .i64 x) ∧ 0 ≤ x ∧ (x = 0 ∨ x < m) ∧ RdK w0 w' B R (P + 1) :=
  (pick_any B R P hP m hm w hr.1).mono fun _ _ h => by
    obtain ⟨x, h1, h2, h3, h4, h5⟩ := h
    exact ⟨x, h1, h2, h3, h4, hr.2.trans h5 (by simp)⟩

/-- A list of at most six numbers, and a number. -/
def DrawsTwo (w : World) (B R P : Nat) (e : Ending) (w' : World) : Prop :=
  ∃ u xs, ∃ x : Int, e = .returned (.tuple #[u, .int .i64 x]) ∧ Sl w' w.heap.size u xs ∧ xs.length ≤ 6 ∧ Rd w' B R (P + 30) ∧ Kept [R] w w'

/-- A list of at most six numbers and a number, and nothing else has turned. -/
def DrawnTwo (w : World) (e : Ending) (w' : World) : Prop :=
  ∃ u xs, ∃ x : Int, e = .returned (.tuple #[u, .int .i64 x]) ∧ Sl w' w.heap.size u xs ∧ xs.length ≤ 6 ∧ Kept [] w w'

end Go.Proofs.YtaacehdfpoiljaaDoor

namespace Go.Proofs.YtaacehdfpoiljaaDoor
open Go.RowKit

/-- A list of at most six numbers and a number, and nothing else has turned. -/
def DrawnIx (w : World) (e : Ending) (w' : World) : Prop :=
  ∃ u xs, ∃ x : Int, e = .returned (.tuple #[u, .int .i64 x]) ∧ Sl w' w.heap.size u xs ∧ xs.length ≤ 6 ∧ Kept [] w w'

theorem tdiv39 {z : Int} (h0 : 0 ≤ z) (h : z ≤ 40) : 0 ≤ z.tdiv 39 ∧ z.tdiv 39 ≤ 1 := by
  rw [Int.tdiv_eq_ediv_of_nonneg h0]
  omega

/-- Two lists of numbers, and nothing else has turned. -/
def DrawnPair (w : World) (e : Ending) (w' : World) : Prop :=
  ∃ u xs, ∃ v ys, e = .returned (.tuple #[u, v]) ∧ Sl w' w.heap.size u xs ∧ Sl w' w.heap.size v ys ∧ xs.length ≤ 6 ∧ Kept [] w w'

end Go.Proofs.YtaacehdfpoiljaaDoor

namespace Go.Proofs.YtaacehdfpoiljaaDoor
open Go.RowKit

/-- 'append(out, ys...)', wherever ys lies. -/
theorem app_cut {ops : Array Oper} {rest : List Oper} {o : Oper} {a : Act} {Q : Exit → Act → World → Prop} {w0 : World} (hgd : o.guard = none) (s y : Operand)
    (ho : o.op = .call { callee := .builtin .append, args := #[s, y], argTypes := #[23, 23] })
    (base : Nat) (v : Value) (xs : List Int) (hown : Sl w0 base v xs) (hs : a.eval s = v) (b off m c : Nat) (ys : List Int) (hyl : ys.length = m) (hx : a.eval y = .slice (some ⟨b, off, none⟩) m c)
    (hcell : ∀ j, j < m → w0.cell? ⟨b, off + j, none⟩ = some (.int .i64 (ys.getD j 0)))
    (hlen : xs.length + m ≤ 1000000) (hbase : base ≤ w0.heap.size)
    (h : ∀ v' w', Sl w' base v' (xs ++ ys) → Kept v.ownBlock.toList w0 w' → wpList Tryd.prog ops Q rest (a.put o.dst v') w') :
    wpList Tryd.prog ops Q (o :: rest) a w0 := by
  obtain ⟨i0, hi, hz0, hz1, hz2⟩ := info_parts info_int
  subst hyl
  refine wpList_append_own _ hgd s y _ ho base 3 i0 (.int .i64 0) 1 8 Tryd.underlying23 hi hz0 hz1 hz2 rfl (by decide) v xs.length (ints xs) hs hown
    ⟨b, off, none⟩ ys.length c (ints ys) hx (by simp [ints]) ?_ (ints_oneCell _ _) (by unfold maxLen; omega) (by omega) hbase ?_
  · intro j z hz
    have hj : j < ys.length := by
      have := (List.getElem?_eq_some_iff.1 hz).1
      simpa [ints] using this
    rw [ints_get ys j hj] at hz
    have e : (⟨b, off, none⟩ : Addr).add j = ⟨b, off + j, none⟩ := by unfold Addr.add; split <;> simp_all
    rw [e, hcell j hj, hz]
  · intro v' w' h1 h2 _
    refine h v' w' ?_ ?_
    · unfold Sl
      rw [List.length_append, ints_append]
      exact h1
    · exact (Kept.refl _ _).grown h2 fun k hk => .inl (by rw [hk]; simp)

theorem Sl.caps {w : World} {base n cap : Nat} {a : Option Addr} {xs : List Int} (h : Sl w base (.slice a n cap) xs) : n ≤ cap ∧ cap ≤ 9223372036854775807 := by
  rcases h.form with ⟨e, _⟩ | ⟨g, c, e, _, _, h1, h2, _⟩
  · simp at e; omega
  · simp at e; obtain ⟨_, rfl, rfl⟩ := e; exact ⟨h1, h2⟩

/-- A list of numbers is drawn, as long as asked, or longer by one. -/
def DrawsOrder (w : World) (B R P many : Nat) (e : Ending) (w' : World) : Prop :=
  ∃ u xs, e = .returned u ∧ Sl w' w.heap.size u xs ∧ xs.length ≤ many + 1 ∧ Rd w' B R (P + many + 1) ∧ Kept [R] w w'

theorem take_get (xs : List Int) {j n : Nat} (h : j < n) : (xs.take n).getD j 0 = xs.getD j 0 := by
  simp [List.getD_eq_getElem?_getD, h]
theorem drop_get (xs : List Int) (j n : Nat) : (xs.drop n).getD j 0 = xs.getD (n + j) 0 := by
  simp [List.getD_eq_getElem?_getD]

end Go.Proofs.YtaacehdfpoiljaaDoor

namespace Go.Proofs.YtaacehdfpoiljaaDoor
open Go.RowKit

end Go.Proofs.YtaacehdfpoiljaaDoor
