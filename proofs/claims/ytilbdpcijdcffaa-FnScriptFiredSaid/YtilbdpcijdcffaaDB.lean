/-
  Walks: what the laws draw.
  Walks: a net and a set drawn.
  Walks: a net and a node drawn; two nets drawn.
  Walks: an order drawn.
  Walks: a net and an order drawn.
-/
import Derived.Test.YtilbdpcijdcffaaDA
import Derived.Deep.RegionWith
import Derived.Test.YtilbdpcijdcffaaKA
namespace Go.Proofs.Ytilbdpcijdcffaa
open Go.RowKit

/-- A list of at most six numbers, and nothing else has turned. -/
def DrawnNet (w : World) (e : Ending) (w' : World) : Prop :=
  ∃ u xs, e = .returned u ∧ Sl w' w.heap.size u xs ∧ xs.length ≤ 6 ∧ Kept [] w w'

/-- A small number is drawn. -/
def DrawnInt (lo hi : Int) (w : World) (e : Ending) (w' : World) : Prop :=
  ∃ x : Int, e = .returned (.int .i64 x) ∧ lo ≤ x ∧ x ≤ hi ∧ Kept [] w w'

end Go.Proofs.Ytilbdpcijdcffaa

namespace Go.Proofs.Ytilbdpcijdcffaa
open Go.RowKit

/-- A reader, and nothing else has turned since w0. -/
def RdK (w0 w : World) (B R P : Nat) : Prop := Rd w B R P ∧ Kept [R] w0 w

theorem pick_of {w0 w : World} {B R P : Nat} (hr : RdK w0 w B R P) (m : Int) (hm : m ≤ 1000000) (hP : P ≤ 100000) :
    Calls Try.prog 36 #[.pointer (some ⟨R, 0, none⟩), .int .i64 m] w fun e w' => ∃ x : Int, e = .returned (.int .i64 x) ∧ 0 ≤ x ∧ (x = 0 ∨ x < m) ∧ RdK w0 w' B R (P + 1) :=
  (pick_any B R P hP m hm w hr.1).mono fun _ _ h => by
    obtain ⟨x, h1, h2, h3, h4, h5⟩ := h
    exact ⟨x, h1, h2, h3, h4, hr.2.trans h5 (by simp)⟩

/-- A list of at most six numbers, and a number. -/
def DrawsTwo (w : World) (B R P : Nat) (e : Ending) (w' : World) : Prop :=
  ∃ u xs, ∃ x : Int, e = .returned (.tuple #[u, .int .i64 x]) ∧ Sl w' w.heap.size u xs ∧ xs.length ≤ 6 ∧ Rd w' B R (P + 30) ∧ Kept [R] w w'

set_option maxHeartbeats 2000000 in
set_option maxRecDepth 100000 in
theorem set_any (B R P : Nat) (hP : P ≤ 80000) (m : Int) (hm : m ≤ 1000) (hm0 : 0 ≤ m) (w : World) (hr : Rd w B R P) :
    Calls Try.prog 62 #[.pointer (some ⟨R, 0, none⟩), .int .i64 m] w (DrawsTwo w B R P) := by
  have HR := Lib.hid hr
  have hlt := hr.lt
  clear hr
  go_enter Try.func62, Try.ntmps62
  go_wp2_with fail
  refine (net_any B R P (by omega) m hm hm0 _ HR.out).mono ?_
  rintro e w1 ⟨u, xs, rfl, hs, hl, hr1, hk1⟩
  obtain ⟨b, cap1, rfl, _, _, _⟩ := hs.any
  have HS := Lib.hid hs
  have HK := Lib.hid hk1
  have q0 : RdK w1 w1.drew B R (P + 20) := ⟨hr1.kept (Kept.refl [] w1).drew (by simp), (Kept.refl _ _).drew⟩
  have e1 : wrap64 (2 ^ xs.length) ≤ 1000000 := by
    have h := wrap_pow xs.length (by omega) (by omega)
    rw [Int.toNat_natCast] at h
    have h2 : (2 : Nat) ^ xs.length ≤ 2 ^ 6 := Nat.pow_le_pow_right (by omega) hl
    have h3 : (2 : Int) ^ xs.length = ((2 ^ xs.length : Nat) : Int) := (Int.natCast_pow 2 _).symm
    rw [h, h3]
    omega
  have e2 : IntKind.i64.wrap (2 ^ xs.length) ≤ 1000000 := by rw [IntWalk.i64_left]; exact e1
  clear hs hk1 HR hr1
  go_wp2_with fail
  go_region_with ((go_at_call 36; refine (pick_of (by assumption) _ (by first | assumption | omega) (by omega)).mono ?_; rintro e w' ⟨x, rfl, hx0, hx, hr'⟩))
  have HR' := Lib.hid hr'
  clear hr' hx q0 e1 e2
  go_wp2
  go_ret2
  exact ⟨_, xs, _, rfl, HS.out.kept HR'.out.2 (fun g hg hm => by have := (HS.out.block hg).1; simp at hm; omega), hl, HR'.out.1.mono (by omega), HK.out.trans HR'.out.2 (by simp)⟩

/-- A list of at most six numbers and a number, and nothing else has turned. -/
def DrawnTwo (w : World) (e : Ending) (w' : World) : Prop :=
  ∃ u xs, ∃ x : Int, e = .returned (.tuple #[u, .int .i64 x]) ∧ Sl w' w.heap.size u xs ∧ xs.length ≤ 6 ∧ Kept [] w w'

set_option maxHeartbeats 400000 in
set_option maxRecDepth 100000 in
theorem drawNearOf_any (w : World) (v : Value) (ha : ArgB w v) : Calls Try.prog 30 #[v] w (DrawnTwo w) := by
  have HA := Lib.hid ha
  obtain ⟨a, n, cap, rfl, _, _, _⟩ := ha
  go_enter Try.func30, Try.ntmps30
  go_wp2_with fail
  refine (open_any _ _ HA.out).mono ?_
  rintro e w1 ⟨rfl, hr, hk⟩
  have HR := Lib.hid hr
  have HK := Lib.hid hk
  clear hr hk
  go_wp2_with fail
  refine (set_any _ _ 0 (by omega) 12 (by omega) (by omega) _ HR.out).mono ?_
  rintro e w2 ⟨u, xs, x, rfl, hs, hl, _, hk2⟩
  have HS := Lib.hid hs
  have HL := Lib.hid hl
  have HK2 := Lib.hid (HK.out.trans hk2 (fun x hx => by right; simp at hx; omega))
  have hz := HK.out.size
  clear hs hl hk2
  go_wp2
  go_ret2
  exact ⟨u, xs, x, rfl, HS.out.mono hz, HL.out, HK2.out⟩

end Go.Proofs.Ytilbdpcijdcffaa

namespace Go.Proofs.Ytilbdpcijdcffaa
open Go.RowKit

/-- A list of at most six numbers and a number, and nothing else has turned. -/
def DrawnIx (w : World) (e : Ending) (w' : World) : Prop :=
  ∃ u xs, ∃ x : Int, e = .returned (.tuple #[u, .int .i64 x]) ∧ Sl w' w.heap.size u xs ∧ xs.length ≤ 6 ∧ Kept [] w w'

theorem tdiv39 {z : Int} (h0 : 0 ≤ z) (h : z ≤ 40) : 0 ≤ z.tdiv 39 ∧ z.tdiv 39 ≤ 1 := by
  rw [Int.tdiv_eq_ediv_of_nonneg h0]
  omega

/-- Two lists of numbers, and nothing else has turned. -/
def DrawnPair (w : World) (e : Ending) (w' : World) : Prop :=
  ∃ u xs, ∃ v ys, e = .returned (.tuple #[u, v]) ∧ Sl w' w.heap.size u xs ∧ Sl w' w.heap.size v ys ∧ xs.length ≤ 6 ∧ Kept [] w w'

end Go.Proofs.Ytilbdpcijdcffaa

namespace Go.Proofs.Ytilbdpcijdcffaa
open Go.RowKit

/-- 'append(out, ys...)', wherever ys lies. -/
theorem app_cut {ops : Array Oper} {rest : List Oper} {o : Oper} {a : Act} {Q : Exit → Act → World → Prop} {w0 : World} (hgd : o.guard = none) (s y : Operand)
    (ho : o.op = .call { callee := .builtin .append, args := #[s, y], argTypes := #[29, 29] })
    (base : Nat) (v : Value) (xs : List Int) (hown : Sl w0 base v xs) (hs : a.eval s = v) (b off m c : Nat) (ys : List Int) (hyl : ys.length = m) (hx : a.eval y = .slice (some ⟨b, off, none⟩) m c)
    (hcell : ∀ j, j < m → w0.cell? ⟨b, off + j, none⟩ = some (.int .i64 (ys.getD j 0)))
    (hlen : xs.length + m ≤ 1000000) (hbase : base ≤ w0.heap.size)
    (h : ∀ v' w', Sl w' base v' (xs ++ ys) → Kept v.ownBlock.toList w0 w' → wpList Try.prog ops Q rest (a.put o.dst v') w') :
    wpList Try.prog ops Q (o :: rest) a w0 := by
  obtain ⟨i0, hi, hz0, hz1, hz2⟩ := info_parts info_int
  subst hyl
  refine wpList_append_own _ hgd s y _ ho base 3 i0 (.int .i64 0) 1 8 Try.underlying29 hi hz0 hz1 hz2 rfl (by decide) v xs.length (ints xs) hs hown
    ⟨b, off, none⟩ ys.length c (ints ys) hx (by simp [ints]) ?_ (ints_oneCell _ _) (by unfold maxLen; omega) (by omega) hbase ?_
  · intro j z hz
    have hj : j < ys.length := by
      have := (List.getElem?_eq_some_iff.1 hz).1
      simpa [ints] using this
    rw [ints_get ys j hj] at hz
    have e : (⟨b, off, none⟩ : Addr).add j = ⟨b, off + j, none⟩ := by unfold Addr.add; split <;> simp_all
    rw [e, hcell j hj, hz]
  · intro v' w' h1 h2 _
    refine h v' w' ?_ ?_
    · unfold Sl
      rw [List.length_append, ints_append]
      exact h1
    · exact (Kept.refl _ _).grown h2 fun k hk => .inl (by rw [hk]; simp)

theorem Sl.caps {w : World} {base n cap : Nat} {a : Option Addr} {xs : List Int} (h : Sl w base (.slice a n cap) xs) : n ≤ cap ∧ cap ≤ 9223372036854775807 := by
  rcases h.form with ⟨e, _⟩ | ⟨g, c, e, _, _, h1, h2, _⟩
  · simp at e; omega
  · simp at e; obtain ⟨_, rfl, rfl⟩ := e; exact ⟨h1, h2⟩

/-- A list of numbers is drawn, as long as asked, or longer by one. -/
def DrawsOrder (w : World) (B R P many : Nat) (e : Ending) (w' : World) : Prop :=
  ∃ u xs, e = .returned u ∧ Sl w' w.heap.size u xs ∧ xs.length ≤ many + 1 ∧ Rd w' B R (P + many + 1) ∧ Kept [R] w w'

theorem take_get (xs : List Int) {j n : Nat} (h : j < n) : (xs.take n).getD j 0 = xs.getD j 0 := by
  simp [List.getD_eq_getElem?_getD, h]
theorem drop_get (xs : List Int) (j n : Nat) : (xs.drop n).getD j 0 = xs.getD (n + j) 0 := by
  simp [List.getD_eq_getElem?_getD]

end Go.Proofs.Ytilbdpcijdcffaa

namespace Go.Proofs.Ytilbdpcijdcffaa
open Go.RowKit

end Go.Proofs.Ytilbdpcijdcffaa
