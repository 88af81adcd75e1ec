/-
  Walks: the reader of a code.
  Walks: a reader opened; chances.
  Walks: a net drawn.
-/
import Derived.Test.YtllbdhfckdljgaaKA
import Derived.Test.YtllbdhfckdljgaaNB
import Derived.Deep.DeepCutAuto
import Derived.Deep.CutBlock
namespace Go.Proofs.Ytllbdhfckdljgaa
open Go.RowKit

/-- A reader: a block with a slice of bytes, older than B, and a place of at most P. -/
def Rd (w : World) (B R P : Nat) : Prop :=
  B ≤ R ∧ ∃ (a : Option Addr) (n c p : Nat) (ty : TypeId), w.heap[R]? = some (.cells #[.slice a n c, .int .i64 p] ty (0, 0)) ∧ p ≤ P ∧ n ≤ 2000 ∧
    ∀ i, i < n → ∃ b off u : Nat, a = some ⟨b, off, none⟩ ∧ b < B ∧ b < w.heap.size ∧ u < 256 ∧ w.cell? ⟨b, off + i, none⟩ = some (.int .u8 u)

theorem Rd.kept {w w' : World} {B R P : Nat} {rows : List Nat} (h : Rd w B R P) (k : Kept rows w w') (hr : ∀ x, x ∈ rows → B ≤ x ∧ x ≠ R) : Rd w' B R P := by
  obtain ⟨hB, a, n, c, p, ty, hh, hp, hn, hc⟩ := h
  refine ⟨hB, a, n, c, p, ty, ?_, hp, hn, fun i hi => ?_⟩
  · rw [k.block R (Array.getElem?_eq_some_iff.1 hh).1 (fun e => (hr R e).2 rfl)]; exact hh
  · obtain ⟨b, off, u, rfl, hb, hbs, hu, hcell⟩ := hc i hi
    exact ⟨b, off, u, rfl, hb, Nat.lt_of_lt_of_le hbs k.size, hu, (k.cell (p := ⟨b, off + i, none⟩) hbs (fun e => by have := (hr _ e).1; simp at this; omega)).trans hcell⟩

theorem Rd.mono {w : World} {B R P P' : Nat} (h : Rd w B R P) (hp : P ≤ P') : Rd w B R P' := by
  obtain ⟨hB, a, n, c, p, ty, hh, hp', rest⟩ := h
  exact ⟨hB, a, n, c, p, ty, hh, by omega, rest⟩

theorem Rd.lt {w : World} {B R P : Nat} (h : Rd w B R P) : R < w.heap.size := by
  obtain ⟨_, a, n, c, p, ty, hh, _⟩ := h
  exact (Array.getElem?_eq_some_iff.1 hh).1

theorem two_cells {w : World} {R : Nat} {x y : Value} {ty : TypeId} (h : w.heap[R]? = some (.cells #[x, y] ty (0, 0))) :
    w.cell? ⟨R, 0, none⟩ = some x ∧ w.cell? ⟨R, 1, none⟩ = some y ∧ w.frozen? ⟨R, 1, none⟩ = false := by
  refine ⟨by simp [World.cell?, h], by simp [World.cell?, h], by simp [World.frozen?, h]⟩

theorem two_set {w : World} {R : Nat} {x y z : Value} {ty : TypeId} (h : w.heap[R]? = some (.cells #[x, y] ty (0, 0))) :
    (w.setCell ⟨R, 1, none⟩ z).heap[R]? = some (.cells #[x, z] ty (0, 0)) := by
  have := heap_setCell_same w R 1 #[x, y] ty z h
  simpa using this

/-- What is drawn, as far as it matters. -/
def Picks (w : World) (B R P : Nat) (m : Int) (e : Ending) (w' : World) : Prop :=
  ∃ x : Int, e = .returned (.int .i64 x) ∧ 0 ≤ x ∧ (x = 0 ∨ x < m) ∧ Rd w' B R (P + 1) ∧ Kept [R] w w'

theorem xor_nonneg {a b : Int} (ha : 0 ≤ a) (hb : 0 ≤ b) (ha2 : a < 4611686018427387904) (hb2 : b < 4611686018427387904) : 0 ≤ bits .xor .i64 a b := by
  obtain ⟨m, rfl⟩ := Int.eq_ofNat_of_zero_le ha
  obtain ⟨n, rfl⟩ := Int.eq_ofNat_of_zero_le hb
  rw [bits_xor_nat m n (by omega) (by omega)]
  omega

theorem tmod_range {y m : Int} (hy : 0 ≤ y) (hm : 1 ≤ m) : 0 ≤ y.tmod m ∧ y.tmod m < m := by
  rw [Int.tmod_eq_emod_of_nonneg hy]
  exact ⟨Int.emod_nonneg _ (by omega), Int.emod_lt_of_pos _ (by omega)⟩

set_option maxHeartbeats 2000000 in
set_option maxRecDepth 100000 in
theorem pick_any (B R P : Nat) (hP : P ≤ 100000) (m : Int) (hm : m ≤ 1000000) (w : World) (hr : Rd w B R P) :
    Calls Try.prog 57 #[.pointer (some ⟨R, 0, none⟩), .int .i64 m] w (Picks w B R P m) := by
  obtain ⟨hB, a, n, c, p, ty, hh, hp, hn, hc⟩ := hr
  obtain ⟨c0, c1, f1⟩ := two_cells hh
  have hh1 : (w.setCell ⟨R, 1, none⟩ (.int .i64 ((p : Int) + 1))).heap[R]? = some (.cells #[.slice a n c, .int .i64 ((p + 1 : Nat) : Int)] ty (0, 0)) := two_set hh
  obtain ⟨d0, d1, _⟩ := two_cells hh1
  have hk : Kept [R] w (w.setCell ⟨R, 1, none⟩ (.int .i64 ((p : Int) + 1))) := (Kept.refl _ _).setCell (.inl (by simp)) _
  have hR : R < w.heap.size := (Array.getElem?_eq_some_iff.1 hh).1
  have hc1 : ∀ i, i < n → ∃ b off u : Nat, a = some ⟨b, off, none⟩ ∧ b < B ∧ b < w.heap.size ∧ u < 256 ∧ (w.setCell ⟨R, 1, none⟩ (.int .i64 ((p : Int) + 1))).cell? ⟨b, off + i, none⟩ = some (.int .u8 u) := by
    intro i hi
    obtain ⟨b, off, u, rfl, hb, hbs, hu, hcell⟩ := hc i hi
    exact ⟨b, off, u, rfl, hb, hbs, hu, (hk.cell (p := ⟨b, off + i, none⟩) hbs (by simp; omega)).trans hcell⟩
  have HC := Lib.hid hc1
  have HK := Lib.hid hk
  have hrd : ∀ w2, Qt (w.setCell ⟨R, 1, none⟩ (.int .i64 ((p : Int) + 1))) w2 → Rd w2 B R (P + 1) := by
    intro w2 hq
    refine ⟨hB, a, n, c, p + 1, ty, by rw [hq.heap]; exact hh1, by omega, hn, fun i hi => ?_⟩
    obtain ⟨b, off, u, rfl, hb, hbs, hu, hcell⟩ := hc1 i hi
    exact ⟨b, off, u, rfl, hb, by rw [hq.heap]; simpa [World.setCell] using hbs, hu, (hq.cell _).trans hcell⟩
  have HRD := Lib.hid hrd
  have d1' : (w.setCell ⟨R, 1, none⟩ (.int .i64 ((p : Int) + 1))).cell? ⟨R, 1, none⟩ = some (.int .i64 ((p : Int) + 1)) := d1
  clear hc hc1 hk hrd hh hh1 d1
  by_cases m1 : m < 1
  · go_enter Try.func57, Try.ntmps57
    go_wp2
    go_ret
    exact ⟨0, rfl, Int.le_refl _, .inl rfl, HRD.out _ (Qt.refl _), HK.out⟩
  by_cases n0 : n = 0
  · have hn0 : ((n : Int) == 0) = true := by simp [n0]
    clear n0
    go_enter Try.func57, Try.ntmps57
    go_wp2
    go_ret
    exact ⟨0, rfl, Int.le_refl _, .inl rfl, HRD.out _ (Qt.refl _), HK.out⟩
  have hn0 : ((n : Int) == 0) = false := by simp [n0]
  by_cases hpn : p < n
  · obtain ⟨b, off, u, rfl, _, _, hu, hcell⟩ := HC.out p hpn
    have t0 : 0 ≤ (u : Int) % m := Int.emod_nonneg _ (by omega)
    have t1 : (u : Int) % m < m := Int.emod_lt_of_pos _ (by omega)
    have T0 := Lib.hid t0
    have T1 := Lib.hid t1
    clear t0 t1
    go_enter Try.func57, Try.ntmps57
    go_wp2
    go_ret
    exact ⟨(u : Int) % m, rfl, T0.out, .inr T1.out, HRD.out _ (Qt.refl _), HK.out⟩
  · have hn1 : 0 < n := by omega
    obtain ⟨q1, hq1⟩ : ∃ q, q = p % n := ⟨_, rfl⟩
    obtain ⟨q2, hq2⟩ : ∃ q, q = (p * 7 + 3) % n := ⟨_, rfl⟩
    obtain ⟨d, hd⟩ : ∃ q, q = p / n := ⟨_, rfl⟩
    have l1 : q1 < n := by rw [hq1]; exact Nat.mod_lt _ hn1
    have l2 : q2 < n := by rw [hq2]; exact Nat.mod_lt _ hn1
    have l3 : d ≤ p := by rw [hd]; exact Nat.div_le_self _ _
    have f1 : (p : Int).tmod (n : Int) = (q1 : Int) := by
      rw [hq1, Int.tmod_eq_emod_of_nonneg (by omega)]; simp
    have f2 : ((p : Int) * 7 + 3).tmod (n : Int) = (q2 : Int) := by
      have e : (p : Int) * 7 + 3 = ((p * 7 + 3 : Nat) : Int) := by omega
      rw [hq2, e, Int.tmod_eq_emod_of_nonneg (by omega)]; simp
    have f3 : (p : Int).tdiv (n : Int) = (d : Int) := by
      rw [hd, Int.tdiv_eq_ediv_of_nonneg (by omega)]; simp
    obtain ⟨b, off, u1, rfl, _, _, hu1, hcell1⟩ := HC.out q1 l1
    obtain ⟨b', off', u2, hb', _, _, hu2, hcell2⟩ := HC.out q2 l2
    simp only [Option.some.injEq, Addr.mk.injEq, and_true] at hb'
    obtain ⟨rfl, rfl⟩ := hb'
    clear hq1 hq2 hd n0
    have s1 : IntKind.i64.wrap ((p : Int) * 7) = (p : Int) * 7 := IntWalk.i64_in _ (by omega)
    have s2 : IntKind.i64.wrap ((p : Int) * 7 + 3) = (p : Int) * 7 + 3 := IntWalk.i64_in _ (by omega)
    have s3 : IntKind.i64.wrap ((u1 : Int) * 131) = (u1 : Int) * 131 := IntWalk.i64_in _ (by omega)
    have s4 : IntKind.i64.wrap ((u2 : Int) * 1117) = (u2 : Int) * 1117 := IntWalk.i64_in _ (by omega)
    have s5 : IntKind.i64.wrap ((u1 : Int) * 131 + (u2 : Int) * 1117) = (u1 : Int) * 131 + (u2 : Int) * 1117 := IntWalk.i64_in _ (by omega)
    have s6 : IntKind.i64.wrap ((p : Int) * 29) = (p : Int) * 29 := IntWalk.i64_in _ (by omega)
    have s7 : IntKind.i64.wrap ((u1 : Int) * 131 + (u2 : Int) * 1117 + (p : Int) * 29) = (u1 : Int) * 131 + (u2 : Int) * 1117 + (p : Int) * 29 := IntWalk.i64_in _ (by omega)
    have s8 : IntKind.i64.wrap ((d : Int) * 53) = (d : Int) * 53 := IntWalk.i64_in _ (by omega)
    have s9 : IntKind.i64.wrap ((u1 : Int) * 131 + (u2 : Int) * 1117 + (p : Int) * 29 + (d : Int) * 53) = (u1 : Int) * 131 + (u2 : Int) * 1117 + (p : Int) * 29 + (d : Int) * 53 := IntWalk.i64_in _ (by omega)
    have s10 : IntKind.i64.wrap (u1 : Int) = (u1 : Int) := IntWalk.i64_in _ (by omega)
    have s11 : IntKind.i64.wrap (u2 : Int) = (u2 : Int) := IntWalk.i64_in _ (by omega)
    have HY := Lib.hid (xor_nonneg (a := (u1 : Int) * 131 + (u2 : Int) * 1117 + (p : Int) * 29 + (d : Int) * 53) (b := ((u1 : Int) * 131 + (u2 : Int) * 1117 + (p : Int) * 29 + (d : Int) * 53) / 64) (by omega) (by omega) (by omega) (by omega))
    have hn0' : ¬ n = 0 := by omega
    have hge : ¬ (p : Int) < (n : Int) := by omega
    go_enter Try.func57, Try.ntmps57
    go_wp2_with fail
    go_quiet (fail)
    go_wp2
    go_ret
    have hk2 : Qt (w.setCell ⟨R, 1, none⟩ (.int .i64 ((p : Int) + 1))) ((w.setCell ⟨R, 1, none⟩ (.int .i64 ((p : Int) + 1))).drewN nq) := ⟨nq, rfl⟩
    exact ⟨_, rfl, (tmod_range HY.out (by omega)).1, .inr (tmod_range HY.out (by omega)).2, HRD.out _ hk2, HK.out.trans hk2.kept (by simp)⟩
end Go.Proofs.Ytllbdhfckdljgaa

namespace Go.Proofs.Ytllbdhfckdljgaa
open Go.RowKit

/-- Whether something happens once in a while: either. -/
def Odds (w : World) (B R P : Nat) (e : Ending) (w' : World) : Prop :=
  ∃ b : Bool, e = .returned (.bool b) ∧ Rd w' B R (P + 1) ∧ Kept [R] w w'

set_option maxHeartbeats 1000000 in
set_option maxRecDepth 100000 in
theorem odd_any (B R P : Nat) (hP : P ≤ 100000) (m : Int) (hm : m ≤ 1000000) (hm0 : 0 ≤ m) (w : World) (hr : Rd w B R P) :
    Calls Try.prog 61 #[.pointer (some ⟨R, 0, none⟩), .int .i64 m] w (Odds w B R P) := by
  have HR := Lib.hid hr
  clear hr
  by_cases m1 : 0 < m
  · go_enter Try.func61, Try.ntmps61
    go_wp2_with fail
    refine (pick_any B R P hP m hm _ HR.out).mono ?_
    rintro e w1 ⟨x, rfl, hx0, hx, hr1, hk1⟩
    have HR1 := Lib.hid hr1
    have HK1 := Lib.hid hk1
    clear hr1 hk1 hx
    go_wp2
    go_ret
    exact ⟨_, rfl, HR1.out, HK1.out⟩
  · go_enter Try.func61, Try.ntmps61
    go_wp2
    go_ret
    exact ⟨_, rfl, HR.out.mono (by omega), Kept.refl _ _⟩

/-- Bytes that came in from outside. -/
def ArgB (w : World) (v : Value) : Prop :=
  ∃ (a : Option Addr) (n cap : Nat), v = .slice a n cap ∧ n ≤ cap ∧ cap ≤ 9223372036854775807 ∧
    ∀ k, k < n → ∃ b off u : Nat, a = some ⟨b, off, none⟩ ∧ b < w.heap.size ∧ u < 256 ∧ w.cell? ⟨b, off + k, none⟩ = some (.int .u8 u)

theorem argB_of {w : World} {a : Option Addr} {len cap : Nat} {zs : List Int}
    (h : (a = none ∧ len = 0 ∧ cap = 0 ∧ zs = []) ∨ ∃ x, a = some x ∧ len ≤ cap ∧ cap ≤ maxLen ∧ zs.length = cap ∧ (∀ i, i < zs.length → w.cell? (x.add i) = some (.int .u8 (zs.getD i 0))) ∧ ∀ n ∈ zs, (Lit.int .u8 n).wf = true) :
    ArgB w (.slice a len cap) := by
  rcases h with ⟨rfl, rfl, rfl, rfl⟩ | ⟨x, rfl, hl, hm, hz, hcell, hwf⟩
  · exact ⟨none, 0, 0, rfl, Nat.le_refl _, by simp, fun k hk => by simp at hk⟩
  · refine ⟨some x, len, cap, rfl, hl, by unfold maxLen at hm; omega, fun k hk => ?_⟩
    have h00 := hcell 0 (by omega)
    have hkk := hcell k (by omega)
    obtain ⟨b, off, spot⟩ := x
    have hspot : spot = none := by simpa [Addr.add] using World.cell?_spot h00
    subst hspot
    have e : (⟨b, off, none⟩ : Addr).add k = ⟨b, off + k, none⟩ := by unfold Addr.add; split <;> simp_all
    rw [e] at hkk
    have hmem : zs.getD k 0 ∈ zs := by
      rw [List.getD_eq_getElem?_getD, List.getElem?_eq_getElem (by omega)]
      exact List.getElem_mem _
    have hw := hwf _ hmem
    simp only [Lit.wf, IntKind.min, IntKind.max, IntKind.signed, IntKind.bits, Bool.and_eq_true] at hw
    have hb : 0 ≤ zs.getD k 0 ∧ zs.getD k 0 < 256 := by
      generalize zs.getD k 0 = z at *
      simp at hw
      omega
    obtain ⟨u, hu⟩ := Int.eq_ofNat_of_zero_le hb.1
    refine ⟨b, off, u, rfl, World.block_lt_of_cell? w _ hkk, by omega, ?_⟩
    rw [hkk, hu]

/-- A reader is opened: a new block. -/
def Opened (w : World) (e : Ending) (w' : World) : Prop :=
  e = .returned (.pointer (some ⟨w.heap.size, 0, none⟩)) ∧ Rd w' w.heap.size w.heap.size 0 ∧ Kept [] w w'

set_option maxHeartbeats 1000000 in
set_option maxRecDepth 100000 in
theorem open_any (w : World) (v : Value) (ha : ArgB w v) :
    Calls Try.prog 40 #[v] w (Opened w) := by
  obtain ⟨a, n, cap, rfl, hn, hcap, hc⟩ := ha
  have HC := Lib.hid hc
  clear hc
  have hnew : ∀ (n' c' : Nat) (ty : TypeId), n' ≤ n → n' ≤ 2000 → Rd (w.alloc (.cells #[.slice a n' c', .int .i64 0] ty)) w.heap.size w.heap.size 0 := by
    intro n' c' ty h1 h2
    refine ⟨Nat.le_refl _, a, n', c', 0, ty, heap_alloc_new w _, Nat.le_refl _, h2, fun i hi => ?_⟩
    obtain ⟨b, off, u, rfl, hb, hu, hcell⟩ := HC.out i (by omega)
    exact ⟨b, off, u, rfl, hb, by simp; omega, hu, (((Kept.refl [] w).alloc _).cell (p := ⟨b, off + i, none⟩) hb (by simp)).trans hcell⟩
  have HN := Lib.hid hnew
  clear hnew
  by_cases h2 : 2000 < n
  · have h2' : (2000 : Int) < (n : Int) := by omega
    go_enter Try.func40, Try.ntmps40
    go_wp2
    go_ret
    exact ⟨rfl, HN.out 2000 _ _ (by omega) (by omega), (Kept.refl _ _).alloc _⟩
  · have h2' : ¬ (2000 : Int) < (n : Int) := by omega
    go_enter Try.func40, Try.ntmps40
    go_wp2
    go_ret
    exact ⟨rfl, HN.out n _ _ (by omega) (by omega), (Kept.refl _ _).alloc _⟩
end Go.Proofs.Ytllbdhfckdljgaa

namespace Go.Proofs.Ytllbdhfckdljgaa
open Go.RowKit

/-- A list of at most six numbers is drawn. -/
def Draws (w : World) (B R P : Nat) (e : Ending) (w' : World) : Prop :=
  ∃ u xs, e = .returned u ∧ Sl w' w.heap.size u xs ∧ xs.length ≤ 6 ∧ Rd w' B R (P + 20) ∧ Kept [R] w w'

/-- On the way: a list of n numbers, a reader. -/
def Mid (w : World) (B R Q n : Nat) (u : Value) (wx : World) : Prop :=
  ∃ xs, Sl wx w.heap.size u xs ∧ xs.length = n ∧ Rd wx B R Q ∧ Kept [R] w wx

theorem pathOf_len (n : Nat) (h : 1 ≤ n ∧ n ≤ 6) : (Nt.pathOf (n : Int)).length = n := by
  rw [pathOf_yes n h, Nt.nats_length, Nt.pathN_length]
theorem ringOf_len (n : Nat) (h : 3 ≤ n ∧ n ≤ 6) : (Nt.ringOf (n : Int)).length = n := by
  rw [ringOf_yes n h, Nt.nats_length, Nt.ringN_length]

end Go.Proofs.Ytllbdhfckdljgaa
