/-
  Walks: the reader of a code.
-/
import Derived.Test.YtahjplaidkibpaaOps
namespace Go.Proofs.Ytahjplaidkibpaa
open Go.RowKit

/-- A reader: a block with a slice of bytes, older than B, and a place of at most P. -/
def Rd (w : World) (B R P : Nat) : Prop :=
  B ≤ R ∧ ∃ (a : Option Addr) (n c p : Nat) (ty : TypeId), w.heap[R]? = some (.cells #[.slice a n c, .int .i64 p] ty (0, 0)) ∧ p ≤ P ∧ n ≤ 2000 ∧
    ∀ i, i < n → ∃ b off u : Nat, a = some ⟨b, off, none⟩ ∧ b < B ∧ b < w.heap.size ∧ u < 256 ∧ w.cell? ⟨b, off + i, none⟩ = some (.int .u8 u)

theorem Rd.kept {w w' : World} {B R P : Nat} {rows : List Nat} (h : Rd w B R P) (k : Kept rows w w') (hr : ∀ x, x ∈ rows → B ≤ x ∧ x ≠ R) : Rd w' B R P := by
  obtain ⟨hB, a, n, c, p, ty, hh, hp, hn, hc⟩ := h
  refine ⟨hB, a, n, c, p, ty, ?_, hp, hn, fun i hi => ?_⟩
  · rw [k.block R (Array.getElem?_eq_some_iff.1 hh).1 (fun e => (hr R e).2 rfl)]; exact hh
  · obtain ⟨b, off, u, rfl, hb, hbs, hu, hcell⟩ := hc i hi
    exact ⟨b, off, u, rfl, hb, Nat.lt_of_lt_of_le hbs k.size, hu, (k.cell (p := ⟨b, off + i, none⟩) hbs (fun e => by have := (hr _ e).1; simp at this; omega)).trans hcell⟩

theorem Rd.mono {w : World} {B R P P' : Nat} (h : Rd w B R P) (hp : P ≤ P') : Rd w B R P' := by
  obtain ⟨hB, a, n, c, p, ty, hh, hp', rest⟩ := h
  exact ⟨hB, a, n, c, p, ty, hh, by omega, rest⟩

theorem Rd.lt {w : World} {B R P : Nat} (h : Rd w B R P) : R < w.heap.size := by
  obtain ⟨_, a, n, c, p, ty, hh, _⟩ := h
  exact (Array.getElem?_eq_some_iff.1 hh).1

theorem two_cells {w : World} {R : Nat} {x y : Value} {ty : TypeId} (h : w.heap[R]? = some (.cells #[x, y] ty (0, 0))) :
    w.cell? ⟨R, 0, none⟩ = some x ∧ w.cell? ⟨R, 1, none⟩ = some y ∧ w.frozen? ⟨R, 1, none⟩ = false := by
  refine ⟨by simp [World.cell?, h], by simp [World.cell?, h], by simp [World.frozen?, h]⟩

theorem two_set {w : World} {R : Nat} {x y z : Value} {ty : TypeId} (h : w.heap[R]? = some (.cells #[x, y] ty (0, 0))) :
    (w.setCell ⟨R, 1, none⟩ z).heap[R]? = some (.cells #[x, z] ty (0, 0)) := by
  have := heap_setCell_same w R 1 #[x, y] ty z h
  simpa using this

/-- What is drawn, as far as it matters. -/
def Picks (w : World) (B R P : Nat) (m : Int) (e : Ending) (w' : World) : Prop :=
  ∃ x : Int, e = .returned (.int .i64 x) ∧ 0 ≤ x ∧ (x = 0 ∨ x < m) ∧ Rd w' B R (P + 1) ∧ Kept [R] w w'

theorem xor_nonneg {a b : Int} (ha : 0 ≤ a) (hb : 0 ≤ b) (ha2 : a < 4611686018427387904) (hb2 : b < 4611686018427387904) : 0 ≤ bits .xor .i64 a b := by
  obtain ⟨m, rfl⟩ := Int.eq_ofNat_of_zero_le ha
  obtain ⟨n, rfl⟩ := Int.eq_ofNat_of_zero_le hb
  rw [bits_xor_nat m n (by omega) (by omega)]
  omega

theorem tmod_range {y m : Int} (hy : 0 ≤ y) (hm : 1 ≤ m) : 0 ≤ y.tmod m ∧ y.tmod m < m := by
  rw [Int.tmod_eq_emod_of_nonneg hy]
  exact ⟨Int.emod_nonneg _ (by omega), Int.emod_lt_of_pos _ (by omega)⟩

set_option maxHeartbeats 2000000 in
theorem pick_any (B R P : Nat) (hP : P ≤ 100000) (m : Int) (hm : m ≤ 1000000) (w : World) (hr : Rd w B R P) :
    Calls Try.prog 47 #[.pointer (some ⟨R, 0, none⟩), .int .i64 m] w (Picks w B R P m) := by
  obtain ⟨hB, a, n, c, p, ty, hh, hp, hn, hc⟩ := hr
  obtain ⟨c0, c1, f1⟩ := two_cells hh
  have hh1 : (w.setCell ⟨R, 1, none⟩ (.int .i64 ((p : Int) + 1))).heap[R]? = some (.cells #[.slice a n c, .int .i64 ((p + 1 : Nat) : Int)] ty (0, 0)) := two_set hh
  obtain ⟨d0, d1, _⟩ := two_cells hh1
  have hk : Kept [R] w (w.setCell ⟨R, 1, none⟩ (.int .i64 ((p : Int) + 1))) := (Kept.refl _ _).setCell (.inl (by simp)) _
  have hR : R < w.heap.size := (Array.getElem?_eq_some_iff.1 hh).1
  have hc1 : ∀ i, i < n → ∃ b off u : Nat, a = some ⟨b, off, none⟩ ∧ b < B ∧ b < w.heap.size ∧ u < 256 ∧ (w.setCell ⟨R, 1, none⟩ (.int .i64 ((p : Int) + 1))).cell? ⟨b, off + i, none⟩ = some (.int .u8 u) := by
    intro i hi
    obtain ⟨b, off, u, rfl, hb, hbs, hu, hcell⟩ := hc i hi
    exact ⟨b, off, u, rfl, hb, hbs, hu, (hk.cell (p := ⟨b, off + i, none⟩) hbs (by simp; omega)).trans hcell⟩
  have HC := Lib.hid hc1
  have HK := Lib.hid hk
  have hrd : ∀ w2, Qt (w.setCell ⟨R, 1, none⟩ (.int .i64 ((p : Int) + 1))) w2 → Rd w2 B R (P + 1) := by
    intro w2 hq
    refine ⟨hB, a, n, c, p + 1, ty, by rw [hq.heap]; exact hh1, by omega, hn, fun i hi => ?_⟩
    obtain ⟨b, off, u, rfl, hb, hbs, hu, hcell⟩ := hc1 i hi
    exact ⟨b, off, u, rfl, hb, by rw [hq.heap]; simpa [World.setCell] using hbs, hu, (hq.cell _).trans hcell⟩
  have HRD := Lib.hid hrd
  have d1' : (w.setCell ⟨R, 1, none⟩ (.int .i64 ((p : Int) + 1))).cell? ⟨R, 1, none⟩ = some (.int .i64 ((p : Int) + 1)) := d1
  clear hc hc1 hk hrd hh hh1 d1
  by_cases m1 : m < 1
  · go_enter Try.func47, Try.ntmps47
    go_wp2
    go_ret
    exact ⟨0, rfl, Int.le_refl _, .inl rfl, HRD.out _ (Qt.refl _), HK.out⟩
  by_cases n0 : n = 0
  · have hn0 : ((n : Int) == 0) = true := by simp [n0]
    clear n0
    go_enter Try.func47, Try.ntmps47
    go_wp2
    go_ret
    exact ⟨0, rfl, Int.le_refl _, .inl rfl, HRD.out _ (Qt.refl _), HK.out⟩
  have hn0 : ((n : Int) == 0) = false := by simp [n0]
  by_cases hpn : p < n
  · obtain ⟨b, off, u, rfl, _, _, hu, hcell⟩ := HC.out p hpn
    have t0 : 0 ≤ (u : Int) % m := Int.emod_nonneg _ (by omega)
    have t1 : (u : Int) % m < m := Int.emod_lt_of_pos _ (by omega)
    have T0 := Lib.hid t0
    have T1 := Lib.hid t1
    clear t0 t1
    go_enter Try.func47, Try.ntmps47
    go_wp2
    go_ret
    exact ⟨(u : Int) % m, rfl, T0.out, .inr T1.out, HRD.out _ (Qt.refl _), HK.out⟩
  · have hn1 : 0 < n := by omega
    obtain ⟨q1, hq1⟩ : ∃ q, q = p % n := ⟨_, rfl⟩
    obtain ⟨q2, hq2⟩ : ∃ q, q = (p * 7 + 3) % n := ⟨_, rfl⟩
    obtain ⟨d, hd⟩ : ∃ q, q = p / n := ⟨_, rfl⟩
    have l1 : q1 < n := by rw [hq1]; exact Nat.mod_lt _ hn1
    have l2 : q2 < n := by rw [hq2]; exact Nat.mod_lt _ hn1
    have l3 : d ≤ p := by rw [hd]; exact Nat.div_le_self _ _
    have f1 : (p : Int).tmod (n : Int) = (q1 : Int) := by
      rw [hq1, Int.tmod_eq_emod_of_nonneg (by omega)]; simp
    have f2 : ((p : Int) * 7 + 3).tmod (n : Int) = (q2 : Int) := by
      have e : (p : Int) * 7 + 3 = ((p * 7 + 3 : Nat) : Int) := by omega
      rw [hq2, e, Int.tmod_eq_emod_of_nonneg (by omega)]; simp
    have f3 : (p : Int).tdiv (n : Int) = (d : Int) := by
      rw [hd, Int.tdiv_eq_ediv_of_nonneg (by omega)]; simp
    obtain ⟨b, off, u1, rfl, _, _, hu1, hcell1⟩ := HC.out q1 l1
    obtain ⟨b', off', u2, hb', _, _, hu2, hcell2⟩ := HC.out q2 l2
    simp only [Option.some.injEq, Addr.mk.injEq, and_true] at hb'
    obtain ⟨rfl, rfl⟩ := hb'
    clear hq1 hq2 hd n0
    have s1 : IntKind.i64.wrap ((p : Int) * 7) = (p : Int) * 7 := IntWalk.i64_in _ (by omega)
    have s2 : IntKind.i64.wrap ((p : Int) * 7 + 3) = (p : Int) * 7 + 3 := IntWalk.i64_in _ (by omega)
    have s3 : IntKind.i64.wrap ((u1 : Int) * 131) = (u1 : Int) * 131 := IntWalk.i64_in _ (by omega)
    have s4 : IntKind.i64.wrap ((u2 : Int) * 1117) = (u2 : Int) * 1117 := IntWalk.i64_in _ (by omega)
    have s5 : IntKind.i64.wrap ((u1 : Int) * 131 + (u2 : Int) * 1117) = (u1 : Int) * 131 + (u2 : Int) * 1117 := IntWalk.i64_in _ (by omega)
    have s6 : IntKind.i64.wrap ((p : Int) * 29) = (p : Int) * 29 := IntWalk.i64_in _ (by omega)
    have s7 : IntKind.i64.wrap ((u1 : Int) * 131 + (u2 : Int) * 1117 + (p : Int) * 29) = (u1 : Int) * 131 + (u2 : Int) * 1117 + (p : Int) * 29 := IntWalk.i64_in _ (by omega)
    have s8 : IntKind.i64.wrap ((d : Int) * 53) = (d : Int) * 53 := IntWalk.i64_in _ (by omega)
    have s9 : IntKind.i64.wrap ((u1 : Int) * 131 + (u2 : Int) * 1117 + (p : Int) * 29 + (d : Int) * 53) = (u1 : Int) * 131 + (u2 : Int) * 1117 + (p : Int) * 29 + (d : Int) * 53 := IntWalk.i64_in _ (by omega)
    have s10 : IntKind.i64.wrap (u1 : Int) = (u1 : Int) := IntWalk.i64_in _ (by omega)
    have s11 : IntKind.i64.wrap (u2 : Int) = (u2 : Int) := IntWalk.i64_in _ (by omega)
    have HY := Lib.hid (xor_nonneg (a := (u1 : Int) * 131 + (u2 : Int) * 1117 + (p : Int) * 29 + (d : Int) * 53) (b := ((u1 : Int) * 131 + (u2 : Int) * 1117 + (p : Int) * 29 + (d : Int) * 53) / 64) (by omega) (by omega) (by omega) (by omega))
    have hn0' : ¬ n = 0 := by omega
    have hge : ¬ (p : Int) < (n : Int) := by omega
    go_enter Try.func47, Try.ntmps47
    go_wp2_with fail
    go_quiet (fail)
    go_wp2
    go_ret
    have hk2 : Qt (w.setCell ⟨R, 1, none⟩ (.int .i64 ((p : Int) + 1))) ((w.setCell ⟨R, 1, none⟩ (.int .i64 ((p : Int) + 1))).drewN nq) := ⟨nq, rfl⟩
    exact ⟨_, rfl, (tmod_range HY.out (by omega)).1, .inr (tmod_range HY.out (by omega)).2, HRD.out _ hk2, HK.out.trans hk2.kept (by simp)⟩
end Go.Proofs.Ytahjplaidkibpaa
