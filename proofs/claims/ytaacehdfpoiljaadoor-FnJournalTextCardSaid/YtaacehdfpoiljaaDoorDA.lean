/-
  Walks: the reader of a code.
  Walks: a reader opened; chances.
  Walks: a net drawn.
-/
import Derived.Test.YtaacehdfpoiljaaDoorKA
import Derived.Test.YtaacehdfpoiljaaDoorNB
import Derived.Deep.DeepCutAuto
import Derived.Deep.CutBlock
namespace Go.Proofs.YtaacehdfpoiljaaDoor
open Go.RowKit

/-- A reader: a block with a slice of bytes, older than B, and a place of at most P. -/
def Rd (w : World) (B R P : Nat) : Prop :=
  B ≤ R ∧ ∃ (a : Option Addr) (n c p : Nat) (ty : TypeId), w.heap[R]? = some (.cells #[.slice a n c, .int .i64 p] ty (0, 0)) ∧ p ≤ P ∧ n ≤ 2000 ∧
    ∀ i, i < n → ∃ b off u : Nat, a = some ⟨b, off, none⟩ ∧ b < B ∧ b < w.heap.size ∧ u < 256 ∧ w.cell? ⟨b, off + i, none⟩ = some (.int .u8 u)

theorem Rd.kept {w w' : World} {B R P : Nat} {rows : List Nat} (h : Rd w B R P) (k : Kept rows w w') (hr : ∀ x, x ∈ rows → B ≤ x ∧ x ≠ R) : Rd w' B R P := by
  obtain ⟨hB, a, n, c, p, ty, hh, hp, hn, hc⟩ := h
  refine ⟨hB, a, n, c, p, ty, ?_, hp, hn, fun i hi => ?_⟩
  · rw [k.block R (Array.getElem?_eq_some_iff.1 hh).1 (fun e => (hr R e).2 rfl)]; exact hh
  · obtain ⟨b, off, u, rfl, hb, hbs, hu, hcell⟩ := hc i hi
    exact ⟨b, off, u, rfl, hb, Nat.lt_of_lt_of_le hbs k.size, hu, (k.cell (p := ⟨b, off + i, none⟩) hbs (fun e => by have := (hr _ e).1; simp at this; omega)).trans hcell⟩

theorem Rd.mono {w : World} {B R P P' : Nat} (h : Rd w B R P) (hp : P ≤ P') : Rd w B R P' := by
  obtain ⟨hB, a, n, c, p, ty, hh, hp', rest⟩ := h
  exact ⟨hB, a, n, c, p, ty, hh, by omega, rest⟩

theorem Rd.lt {w : World} {B R P : Nat} (h : Rd w B R P) : R < w.heap.size := by
  obtain ⟨_, a, n, c, p, ty, hh, _⟩ := h
  exact (Array.getElem?_eq_some_iff.1 hh).1

theorem two_cells {w : World} {R : Nat} {x y : Value} {ty : TypeId} (h : w.heap[R]? = some (.cells #[x, y] ty (0, 0))) :
    w.cell? ⟨R, 0, none⟩ = some x ∧ w.cell? ⟨R, 1, none⟩ = some y ∧ w.frozen? ⟨R, 1, none⟩ = false := by
  refine ⟨by simp [World.cell?, h], by simp [World.cell?, h], by simp [World.frozen?, h]⟩

theorem two_set {w : World} {R : Nat} {x y z : Value} {ty : TypeId} (h : w.heap[R]? = some (.cells #[x, y] ty (0, 0))) :
    (w.setCell ⟨R, 1, none⟩ z).heap[R]? = some (.cells #[x, z] ty (0, 0)) := by
  have := heap_setCell_same w R 1 #[x, y] ty z h
  simpa using this

/-- What is drawn, as far as it matters. -/
def Picks (w : World) (B R P : Nat) (m : Int) (e : Ending) (w' : World) : Prop :=
  ∃ x : Int, e = .returned (.int .i64 x) ∧ 0 ≤ x ∧ (x = 0 ∨ x < m) ∧ Rd w' B R (P + 1) ∧ Kept [R] w w'

theorem xor_nonneg {a b : Int} (ha : 0 ≤ a) (hb : 0 ≤ b) (ha2 : a < 4611686018427387904) (hb2 : b < 4611686018427387904) : 0 ≤ bits .xor .i64 a b := by
  obtain ⟨m, rfl⟩ := Int.eq_ofNat_of_zero_le ha
  obtain ⟨n, rfl⟩ := Int.eq_ofNat_of_zero_le hb
  rw [bits_xor_nat m n (by omega) (by omega)]
  omega

theorem tmod_range {y m : Int} (hy : 0 ≤ y) (hm : 1 ≤ m) : 0 ≤ y.tmod m ∧ y.tmod m < m := by
  rw [Int.tmod_eq_emod_of_nonneg hy]
  exact ⟨Int.emod_nonneg _ (by omega), Int.emod_lt_of_pos _ (by omega)⟩

set_option maxHeartbeats 2000000 in
set_option maxRecDepth 100000 in
theorem pick_any (B R P : Nat) (hP : P ≤ 100000) (m : Int) (hm : m ≤ 1000000) (w : World) (hr : Rd w B R P) :
    Calls Tryd.prog 62 #[.pointer (some ⟨R, 0, none⟩), .int .i64 m] w (Picks w B R P m) := by
  obtain ⟨hB, a, n, c, p, ty, hh, hp, hn, hc⟩ := hr
  obtain ⟨c0, c1, f1⟩ := two_cells hh
  have hh1 : (w.setCell ⟨R, 1, none⟩ (.int .i64 ((p : Int) + 1))).heap[R]? = some (.cells #[.slice a n c, .int .i64 ((p + 1 : Nat) : Int)] ty (0, 0)) := two_set hh
  obtain ⟨d0, d1, _⟩ := two_cells hh1
  have hk : Kept [R] w (w.setCell ⟨R, 1, none⟩ (.int .i64 ((p : Int) + 1))) := (Kept.refl _ _).setCell (.inl (by simp)) _
  have hR : R < w.heap.size := (Array.getElem?_eq_some_iff.1 hh).1
  have hc1 : ∀ i, i < n → ∃ b off u : Nat, a = some ⟨b, off, none⟩ ∧ b < B ∧ b < w.heap.size ∧ u < 256 ∧ (w.setCell ⟨R, 1, none⟩ (.int .i64 ((p : Int) + 1))).cell? ⟨b, off + i, none⟩ = some (.int .u8 u) := by
    intro i hi
    obtain ⟨b, off, u, rfl, hb, hbs, hu, hcell⟩ := hc i hi
    exact ⟨b, off, u, rfl, hb, hbs, hu, (hk.cell (p := ⟨b, off + i, none⟩) hbs (by simp; omega)).trans hcell⟩
  have HC := Lib.hid hc1
  have HK := Lib.hid hk
  have hrd : ∀ w2, Qt (w.setCell ⟨R, 1, none⟩ (.int .i64 ((p : Int) + 1))) w2 → Rd w2 B R (P + 1) := by
    intro w2 hq
    refine ⟨hB, a, n, c, p + 1, ty, by rw [hq.heap]; exact hh1, by omega, hn, fun i hi => ?_⟩
    obtain ⟨b, off, u, rfl, hb, hbs, hu, hcell⟩ := hc1 i hi
    exact ⟨b, off, u, rfl, hb, by rw [hq.heap]; simpa [World.setCell] using hbs, hu, (hq.cell _).trans hcell⟩
  have HRD := Lib.hid hrd
  have d1' : (w.setCell ⟨R, 1, none⟩ (.int .i64 ((p : Int) + 1))).cell? ⟨R, 1, none⟩ = some (.int .i64 ((p : Int) + 1)) := d1
  clear hc hc1 hk hrd hh hh1 d1
  by_cases m1 : m < 1
  · go_enter Tryd.func62, Tryd.ntmps62
    go_wp2
    go_ret
    exact ⟨0, rfl, Int.le_refl _, .inl rfl, HRD.out _ (Qt.refl _), HK.out⟩
  by_cases n0 : n = 0
  · have hn0 : ((n : Int) == 0) = true := by simp [n0]
    clear n0
    go_enter Tryd.func62, Tryd.ntmps62
    go_wp2
    go_ret
    exact ⟨0, rfl, Int.le_refl _, .inl rfl, HRD.out _ (Qt.refl _), HK.out⟩
  have hn0 : ((n : Int) == 0) = false := by simp [n0]
  by_cases hpn : p < n
  · obtain ⟨b, off, u, rfl, _, _, hu, hcell⟩ := HC.out p hpn
    have t0 : 0 ≤ (u : Int) % m := Int.emod_nonneg _ (by omega)
    have t1 : (u : Int) % m < m := Int.emod_lt_of_pos _ (by omega)
    have T0 := Lib.hid t0
    have T1 := Lib.hid t1
    clear t0 t1
    go_enter Tryd.func62, Tryd.ntmps62
    go_wp2
    go_ret
    exact ⟨(u : Int) % m, rfl, T0.out, .inr T1.out, HRD.out _ (Qt.refl _), HK.out⟩
  · have hn1 : 0 < n := by omega
    obtain ⟨q1, hq1⟩ : ∃ q, q = p % n := ⟨_, rfl⟩
    obtain ⟨q2, hq2⟩ : ∃ q, q = (p * 7 + 3) % n := ⟨_, rfl⟩
    obtain ⟨d, hd⟩ : ∃ q, q = p / n := ⟨_, rfl⟩
    have l1 : q1 < n := by rw [hq1]; exact Nat.mod_lt _ hn1
    have l2 : q2 < n := by rw [hq2]; exact Nat.mod_lt _ hn1
    have l3 : d ≤ p := by rw [hd]; exact Nat.div_le_self _ _
    have f1 : (p : Int).tmod (n : Int) = (q1 : Int) := by
      rw [hq1, Int.tmod_eq_emod_of_nonneg (by omega)]; simp
    have f2 : ((p : Int) * 7 + 3).tmod (n : Int) = (q2 : Int) := by
      have e : (p : Int) * 7 + 3 = ((p * 7 + 3 : Nat) : Int) := by omega
      rw [hq2, e, Int.tmod_eq_emod_of_nonneg (by omega)]; simp
    have f3 : (p : Int).tdiv (n : Int) = (d : Int) := by
      rw [hd, Int.tdiv_eq_ediv_of_nonneg (by omega)]; simp
    obtain ⟨b, off, u1, rfl, _, _, hu1, hcell1⟩ := HC.out q1 l1
    obtain ⟨b', off', u2, hb', _, _, hu2, hcell2⟩ := HC.out q2 l2
    simp only [Option.some.injEq, Addr.mk.injEq, and_true] at hb'
    obtain ⟨rfl, rfl⟩ := hb'
    clear hq1 hq2 hd n0
    have s1 : IntKind.i64.wrap ((p : Int) * 7) = (p : Int) * 7 := IntWalk.i64_in _ (by omega)
    have s2 : IntKind.i64.wrap ((p : Int) * 7 + 3) = (p : Int) * 7 + 3 := IntWalk.i64_in _ (by omega)
    have s3 : IntKind.i64.wrap ((u1 : Int) * 131) = (u1 : Int) * 131 := IntWalk.i64_in _ (by omega)
    have s4 : IntKind.i64.wrap ((u2 : Int) * 1117) = (u2 : Int) * 1117 := IntWalk.i64_in _ (by omega)
    have s5 : IntKind.i64.wrap ((u1 : Int) * 131 + (u2 : Int) * 1117) = (u1 : Int) * 131 + (u2 : Int) * 1117 := IntWalk.i64_in _ (by omega)
    have s6 : IntKind.i64.wrap ((p : Int) * 29) = (p : Int) * 29 := IntWalk.i64_in _ (by omega)
    have s7 : IntKind.i64.wrap ((u1 : Int) * 131 + (u2 : Int) * 1117 + (p : Int) * 29) = (u1 : Int) * 131 + (u2 : Int) * 1117 + (p : Int) * 29 := IntWalk.i64_in _ (by omega)
    have s8 : IntKind.i64.wrap ((d : Int) * 53) = (d : Int) * 53 := IntWalk.i64_in _ (by omega)
    have s9 : IntKind.i64.wrap ((u1 : Int) * 131 + (u2 : Int) * 1117 + (p : Int) * 29 + (d : Int) * 53) = (u1 : Int) * 131 + (u2 : Int) * 1117 + (p : Int) * 29 + (d : Int) * 53 := IntWalk.i64_in _ (by omega)
    have s10 : IntKind.i64.wrap (u1 : Int) = (u1 : Int) := IntWalk.i64_in _ (by omega)
    have s11 : IntKind.i64.wrap (u2 : Int) = (u2 : Int) := IntWalk.i64_in _ (by omega)
    have HY := Lib.hid (xor_nonneg (a := (u1 : Int) * 131 + (u2 : Int) * 1117 + (p : Int) * 29 + (d : Int) * 53) (b := ((u1 : Int) * 131 + (u2 : Int) * 1117 + (p : Int) * 29 + (d : Int) * 53) / 64) (by omega) (by omega) (by omega) (by omega))
    have hn0' : ¬ n = 0 := by omega
    have hge : ¬ (p : Int) < (n : Int) := by omega
    go_enter Tryd.func62, Tryd.ntmps62
    go_wp2_with fail
    go_quiet (fail)
    go_wp2
    go_ret
    have hk2 : Qt (w.setCell ⟨R, 1, none⟩ (.int .i64 ((p : Int) + 1))) ((w.setCell ⟨R, 1, none⟩ (.int .i64 ((p : Int) + 1))).drewN nq) := ⟨nq, rfl⟩
    exact ⟨_, rfl, (tmod_range HY.out (by omega)).1, .inr (tmod_range HY.out (by omega)).2, HRD.out _ hk2, HK.out.trans hk2.kept (by simp)⟩
end Go.Proofs.YtaacehdfpoiljaaDoor

namespace Go.Proofs.YtaacehdfpoiljaaDoor
open Go.RowKit

/-- Whether something happens once in a while: either. -/
def Odds (w : World) (B R P : Nat) (e : Ending) (w' : World) : Prop :=
  ∃ b : Bool, e = .returned (.bool b) ∧ Rd w' B R (P + 1) ∧ Kept [R] w w'

set_option maxHeartbeats 1000000 in
set_option maxRecDepth 100000 in
theorem odd_any (B R P : Nat) (hP : P ≤ 100000) (m : Int) (hm : m ≤ 1000000) (hm0 : 0 ≤ m) (w : World) (hr : Rd w B R P) :
    Calls Tryd.prog 74 #[.pointer (some ⟨R, 0, none⟩), .int .i64 m] w (Odds w B R P) := by
  have HR := Lib.hid hr
  clear hr
  by_cases m1 : 0 < m
  · go_enter Tryd.func74, Tryd.ntmps74
    go_wp2_with fail
    refine (pick_any B R P hP m hm _ HR.out).mono ?_
    rintro e w1 ⟨x, rfl, hx0, hx, hr1, hk1⟩
    have HR1 := Lib.hid hr1
    have HK1 := Lib.hid hk1
    clear hr1 hk1 hx
    go_wp2
    go_ret
    exact ⟨_, rfl, HR1.out, HK1.out⟩
  · go_enter Tryd.func74, Tryd.ntmps74
    go_wp2
    go_ret
    exact ⟨_, rfl, HR.out.mono (by omega), Kept.refl _ _⟩

/-- Bytes that came in from outside. -/
def ArgB (w : World) (v : Value) : Prop :=
  ∃ (a : Option Addr) (n cap : Nat), v = .slice a n cap ∧ n ≤ cap ∧ cap ≤ 9223372036854775807 ∧
    ∀ k, k < n → ∃ b off u : Nat, a = some ⟨b, off, none⟩ ∧ b < w.heap.size ∧ u < 256 ∧ w.cell? ⟨b, off + k, none⟩ = some (.int .u8 u)

theorem argB_of {w : World} {a : Option Addr} {len cap : Nat} {zs : List Int}
    (h : (a = none ∧ len = 0 ∧ cap = 0 ∧ zs = []) ∨ ∃ x, a = some x ∧ len ≤ cap ∧ cap ≤ maxLen ∧ zs.length = cap ∧ (∀ i, i < zs.length → w.cell? (x.add i) = some (.int .u8 (zs.getD i 0))) ∧ ∀ n ∈ zs, (Lit.int .u8 n).wf = true) :
    ArgB w (.slice a len cap) := by
  rcases h with ⟨rfl, rfl, rfl, rfl⟩ | ⟨x, rfl, hl, hm, hz, hcell, hwf⟩
  · exact ⟨none, 0, 0, rfl, Nat.le_refl _, by simp, fun k hk => by simp at hk⟩
  · refine ⟨some x, len, cap, rfl, hl, by unfold maxLen at hm; omega, fun k hk => ?_⟩
    have h00 := hcell 0 (by omega)
    have hkk := hcell k (by omega)
    obtain ⟨b, off, spot⟩ := x
    have hspot : spot = none := by simpa [Addr.add] using World.cell?_spot h00
    subst hspot
    have e : (⟨b, off, none⟩ : Addr).add k = ⟨b, off + k, none⟩ := by unfold Addr.add; split <;> simp_all
    rw [e] at hkk
    have hmem : zs.getD k 0 ∈ zs := by
      rw [List.getD_eq_getElem?_getD, List.getElem?_eq_getElem (by omega)]
      exact List.getElem_mem _
    have hw := hwf _ hmem
    simp only [Lit.wf, IntKind.min, IntKind.max, IntKind.signed, IntKind.bits, Bool.and_eq_true] at hw
    have hb : 0 ≤ zs.getD k 0 ∧ zs.getD k 0 < 256 := by
      generalize zs.getD k 0 = z at *
      simp at hw
      omega
    obtain ⟨u, hu⟩ := Int.eq_ofNat_of_zero_le hb.1
    refine ⟨b, off, u, rfl, World.block_lt_of_cell? w _ hkk, by omega, ?_⟩
    rw [hkk, hu]

/-- A reader is opened: a new block. -/
def Opened (w : World) (e : Ending) (w' : World) : Prop :=
  e = .returned (.pointer (some ⟨w.heap.size, 0, none⟩)) ∧ Rd w' w.heap.size w.heap.size 0 ∧ Kept [] w w'

set_option maxHeartbeats 1000000 in
set_option maxRecDepth 100000 in
theorem open_any (w : World) (v : Value) (ha : ArgB w v) :
    Calls Tryd.prog 48 #[v] w (Opened w) := by
  obtain ⟨a, n, cap, rfl, hn, hcap, hc⟩ := ha
  have HC := Lib.hid hc
  clear hc
  have hnew : ∀ (n' c' : Nat) (ty : TypeId), n' ≤ n → n' ≤ 2000 → Rd (w.alloc (.cells #[.slice a n' c', .int .i64 0] ty)) w.heap.size w.heap.size 0 := by
    intro n' c' ty h1 h2
    refine ⟨Nat.le_refl _, a, n', c', 0, ty, heap_alloc_new w _, Nat.le_refl _, h2, fun i hi => ?_⟩
    obtain ⟨b, off, u, rfl, hb, hu, hcell⟩ := HC.out i (by omega)
    exact ⟨b, off, u, rfl, hb, by simp; omega, hu, (((Kept.refl [] w).alloc _).cell (p := ⟨b, off + i, none⟩) hb (by simp)).trans hcell⟩
  have HN := Lib.hid hnew
  clear hnew
  by_cases h2 : 2000 < n
  · have h2' : (2000 : Int) < (n : Int) := by omega
    go_enter Tryd.func48, Tryd.ntmps48
    go_wp2
    go_ret
    exact ⟨rfl, HN.out 2000 _ _ (by omega) (by omega), (Kept.refl _ _).alloc _⟩
  · have h2' : ¬ (2000 : Int) < (n : Int) := by omega
    go_enter Tryd.func48, Tryd.ntmps48
    go_wp2
    go_ret
    exact ⟨rfl, HN.out n _ _ (by omega) (by omega), (Kept.refl _ _).alloc _⟩
end Go.Proofs.YtaacehdfpoiljaaDoor

namespace Go.Proofs.YtaacehdfpoiljaaDoor
open Go.RowKit

/-- A list of at most six numbers is drawn. -/
def Draws (w : World) (B R P : Nat) (e : Ending) (w' : World) : Prop :=
  ∃ u xs, e = .returned u ∧ Sl w' w.heap.size u xs ∧ xs.length ≤ 6 ∧ Rd w' B R (P + 20) ∧ Kept [R] w w'

/-- On the way: a list of n numbers, a reader. -/
def Mid (w : World) (B R Q n : Nat) (u : Value) (wx : World) : Prop :=
  ∃ xs, Sl wx w.heap.size u xs ∧ xs.length = n ∧ Rd wx B R Q ∧ Kept [R] w wx

theorem pathOf_len (n : Nat) (h : 1 ≤ n ∧ n ≤ 6) : (Nt.pathOf (n : Int)).length = n := by
  rw [pathOf_yes n h, Nt.nats_length, Nt.pathN_length]
theorem ringOf_len (n : Nat) (h : 3 ≤ n ∧ n ≤ 6) : (Nt.ringOf (n : Int)).length = n := by
  rw [ringOf_yes n h, Nt.nats_length, Nt.ringN_length]

set_option maxHeartbeats 4000000 in
set_option maxRecDepth 100000 in
theorem net_any (B R P : Nat) (hP : P ≤ 90000) (m : Int) (hm : m ≤ 1000) (hm0 : 0 ≤ m) (w : World) (hr : Rd w B R P) :
    Calls Tryd.prog 80 #[.pointer (some ⟨R, 0, none⟩), .int .i64 m] w (Draws w B R P) := by
  have HR := Lib.hid hr
  have hlt := hr.lt
  have hBR := hr.1
  clear hr
  go_enter Tryd.func80, Tryd.ntmps80
  go_wp2_with fail
  (with_reducible refine (pick_any B R P (by omega) 6 (by omega) _ HR.out).mono ?_)
  rintro e w1 ⟨x, rfl, hx0, hx, hr1, hk1⟩
  have hx6 : x < 6 := by omega
  obtain ⟨n0, rfl⟩ := Int.eq_ofNat_of_zero_le hx0
  obtain ⟨n, hn⟩ : ∃ n : Nat, n = n0 + 1 := ⟨_, rfl⟩
  have b0 : n0 ≤ 5 := by omega
  have n1 : 1 ≤ n := by omega
  have n6 : n ≤ 6 := by omega
  have HE : Hid ((1 : Int) + (n0 : Int) = (n : Int)) := Lib.hid (by omega)
  have HR1 := Lib.hid hr1
  have HK1 := Lib.hid hk1
  clear hr1 hk1 hx hx0 hx6 HR hn
  go_wp2_with fail
  rw [HE.out]
  clear HE
  (with_reducible refine (sPath_any (n : Int) _).mono ?_)
  rintro e w2 ⟨u2, rfl, hs2, hk2⟩
  have HS2 := Lib.hid hs2
  have HR2 := Lib.hid (HR1.out.kept hk2 (by simp))
  have HK2 := Lib.hid (HK1.out.trans hk2 (by simp))
  have HL2 := Lib.hid (pathOf_len n ⟨n1, n6⟩)
  have hz1 := HK1.out.size
  clear hs2 hk2
  go_wp2_with fail
  (with_reducible refine (pick_any B R (P + 1) (by omega) 4 (by omega) _ HR2.out).mono ?_)
  rintro e w3 ⟨y, rfl, hy0, hy, hr3, hk3⟩
  have HR3 := Lib.hid hr3
  have HK3 := Lib.hid (HK2.out.trans hk3 (by simp))
  have HS3 := Lib.hid ((HS2.out.mono hz1).kept hk3 (fun g hg hm => by have := (HS2.out.block hg).1; simp at hm; omega))
  have hz3 := HK3.out.size
  clear hr3 hk3 hy0 hy HS2 HR1 HR2 HK1 HK2
  go_upto_block 0 with (fail)
  go_cut [6] (Mid w B R (P + 2) n)
  case first =>
    by_cases y0 : y = 0
    · subst y0
      by_cases n3 : (3 : Int) ≤ (n : Int)
      · go_wp2_with fail
        (with_reducible refine (sRing_any (n : Int) _).mono ?_)
        rintro e w4 ⟨u4, rfl, hs4, hk4⟩
        have HS4 := Lib.hid (hs4.mono hz3)
        have HK4 := Lib.hid (HK3.out.trans hk4 (by simp))
        have HR4 := Lib.hid (HR3.out.kept hk4 (by simp))
        clear hs4 hk4
        go_wp2_with fail
        go_meet
        exact ⟨_, HS4.out, ringOf_len n ⟨by omega, n6⟩, HR4.out, HK4.out⟩
      · go_wp2_with fail
        go_meet
        exact ⟨_, HS3.out, HL2.out, HR3.out, HK3.out⟩
    · have y0' : (y == 0) = false := by simpa using y0
      by_cases y1 : y = 1
      · subst y1
        clear y0 y0'
        go_wp2_with (at_make; refine make_int _ n rfl _ _ rfl rfl rfl ?_ ?_)
        · omega
        · intro w4 hs4 hk4 _
          have HS4 := Lib.hid (hs4.mono hz3)
          have HK4 := Lib.hid (HK3.out.trans hk4 (by simp))
          have HR4 := Lib.hid (HR3.out.kept hk4 (by simp))
          clear hs4 hk4
          go_wp2_with fail
          go_meet
          exact ⟨_, HS4.out, by simp, HR4.out, HK4.out⟩
      · have y1' : (y == 1) = false := by simpa using y1
        clear y0 y1
        go_wp2_with fail
        go_meet
        exact ⟨_, HS3.out, HL2.out, HR3.out, HK3.out⟩
  case rest =>
    clear HS3 HK3 HR3 HL2
    obtain ⟨xs, hs5, hl5, hr5, hk5⟩ := hcut
    obtain ⟨g, cap, hu5, hg5, _⟩ := hs5.shape hl5 n1
    subst hu5
    have hgR : g ≠ R := by omega
    have HS5 := Lib.hid hs5
    have HL5 := Lib.hid hl5
    have HR5 := Lib.hid hr5
    have HK5 := Lib.hid hk5
    clear hs5 hl5 hr5 hk5
    go_wp2_with fail
    (with_reducible refine (pick_any B R (P + 2) (by omega) 6 (by omega) _ HR5.out).mono ?_)
    rintro e w6 ⟨k0, rfl, hk0, hk6, hr6, hk6'⟩
    have hb0 : k0 ≤ 5 := by omega
    obtain ⟨j0, rfl⟩ := Int.eq_ofNat_of_zero_le hk0
    have HR6 := Lib.hid hr6
    have HK6 := Lib.hid (HK5.out.trans hk6' (by simp))
    have HS6 := Lib.hid (HS5.out.kept hk6' (fun g hg hm => by have := (HS5.out.block hg).1; simp at hm; omega))
    clear hr6 hk6' hk6 hk0 HS5 HR5 HK5
    go_wp2_with fail
    go_loopw [7, 8, 9] (fun q _ _ wr => ∃ (j : Nat) (ys : List Int), j ≤ 5 ∧ q = .int .i64 j ∧ Sl wr w.heap.size (.slice (some ⟨g, 0, none⟩) n cap) ys ∧ ys.length = n ∧ Rd wr B R (P + 3 + 2 * (5 - j)) ∧ Kept [R] w wr) (fun q _ _ _ => (intOf q).toNat)
    case atStart => exact ⟨j0, xs, by omega, rfl, HS6.out, HL5.out, HR6.out.mono (by omega), HK6.out⟩
    case round =>
      clear HS6 HR6 HK6 HL5
      obtain ⟨j, ys, hj, rfl, hsl, hly, hrd, hkept⟩ := hrel
      have HSL := Lib.hid hsl
      have HLY := Lib.hid hly
      have HR7 := Lib.hid hrd
      have HK7 := Lib.hid hkept
      clear hsl hly hrd hkept
      by_cases hj0 : 0 < j
      · go_wp2_with fail
        (with_reducible refine (pick_any B R (P + 3 + 2 * (5 - j)) (by omega) (n : Int) (by omega) _ HR7.out).mono ?_)
        rintro e w8 ⟨x, rfl, hx0, hx, hr8, hk8⟩
        obtain ⟨i1, rfl⟩ := Int.eq_ofNat_of_zero_le hx0
        have hi1 : i1 < n := by omega
        have HR8 := Lib.hid hr8
        have HK8 := Lib.hid (HK7.out.trans hk8 (by simp))
        have HS8 := Lib.hid (HSL.out.kept hk8 (fun g' hg' hm => by simp [Value.ownBlock] at hg'; simp at hm; omega))
        clear hr8 hk8 hx hx0 HR7 HK7 HSL
        go_wp2_with fail
        (with_reducible refine (pick_any B R (P + 3 + 2 * (5 - j) + 1) (by omega) (n : Int) (by omega) _ HR8.out).mono ?_)
        rintro e w9 ⟨x, rfl, hx0, hx, hr9, hk9⟩
        obtain ⟨i2, rfl⟩ := Int.eq_ofNat_of_zero_le hx0
        have hi2 : i2 < n := by omega
        have HR9 := Lib.hid hr9
        have HK9 := Lib.hid (HK8.out.trans hk9 (by simp))
        have HS9 := Lib.hid (HS8.out.kept hk9 (fun g' hg' hm => by simp [Value.ownBlock] at hg'; simp at hm; omega))
        clear hr9 hk9 hx hx0 HR8 HK8 HS8
        by_cases h12 : i1 = i2
        · have hne : ((i1 : Int) != (i2 : Int)) = false := by simp [h12]
          have H12 := Lib.hid h12
          clear h12
          go_wp2
          go_roundw
          case rel => exact ⟨j - 1, ys, by omega, by go_num, HS9.out, HLY.out, HR9.out.mono (by omega), HK9.out⟩
          case measure => simp [intOf]; omega
        · have hne : ((i1 : Int) != (i2 : Int)) = true := by simp; omega
          have H12 := Lib.hid h12
          clear h12
          obtain ⟨c1, f1⟩ := HS9.out.at i1 (by rw [HLY.out]; exact hi1)
          have hs10 : ∀ z : Int, Sl (w9.setCell ⟨g, i1, none⟩ (.int .i64 z)).drew w.heap.size (.slice (some ⟨g, 0, none⟩) n cap) (ys.set i1 z) := fun z => HS9.out.set HLY.out.symm i1 z
          have hk10 : ∀ z : Int, Kept [g] w9 (w9.setCell ⟨g, i1, none⟩ (.int .i64 z)).drew := fun z => ((Kept.refl _ _).setCell (.inl (by simp)) _).drew
          have HS10 := Lib.hid hs10
          have HK10 := Lib.hid hk10
          clear hs10 hk10
          generalize ys.getD i1 0 = v1 at *
          go_wp2_with fail
          go_region
          clear c1 f1
          have hs11 := HS10.out (bits .or .i64 v1 (wrap64 (2 ^ i2)))
          have hk11 := HK10.out (bits .or .i64 v1 (wrap64 (2 ^ i2)))
          generalize (w9.setCell ⟨g, i1, none⟩ (.int .i64 (bits .or .i64 v1 (wrap64 (2 ^ i2))))).drew = w11 at *
          generalize bits .or .i64 v1 (wrap64 (2 ^ i2)) = v2 at *
          obtain ⟨c2, f2⟩ := hs11.at i2 (by rw [List.length_set, HLY.out]; exact hi2)
          have HS11 := Lib.hid hs11
          have HK11 := Lib.hid (HK9.out.trans hk11 (fun x hx => by right; simp at hx; omega))
          have HR11 := Lib.hid (HR9.out.kept hk11 (fun x hx => by simp at hx; omega))
          have hs12 : ∀ z : Int, Sl (w11.setCell ⟨g, i2, none⟩ (.int .i64 z)).drew w.heap.size (.slice (some ⟨g, 0, none⟩) n cap) ((ys.set i1 v2).set i2 z) := fun z => HS11.out.set (by rw [List.length_set, HLY.out]) i2 z
          have hk12 : ∀ z : Int, Kept [g] w11 (w11.setCell ⟨g, i2, none⟩ (.int .i64 z)).drew := fun z => ((Kept.refl _ _).setCell (.inl (by simp)) _).drew
          have HS12 := Lib.hid hs12
          have HK12 := Lib.hid hk12
          clear hs11 hk11 hs12 hk12 HS9 HR9 HK9 HS10 HK10
          generalize (ys.set i1 v2).getD i2 0 = v3 at *
          go_wp2_with fail
          go_region
          go_wp2
          go_roundw
          case rel => exact ⟨j - 1, _, by omega, by go_num, HS12.out _, by rw [List.length_set, List.length_set, HLY.out], (HR11.out.kept (HK12.out _) (fun x hx => by simp at hx; omega)).mono (by omega), HK11.out.trans (HK12.out _) (fun x hx => by right; simp at hx; omega)⟩
          case measure => simp [intOf]; omega
      · have hj0' : j = 0 := by omega
        subst hj0'
        go_wp2_with fail
        (with_reducible refine (odd_any B R (P + 3 + 2 * (5 - 0)) (by omega) m (by omega) hm0 _ HR7.out).mono ?_)
        rintro e w8 ⟨o, rfl, hr8, hk8⟩
        have HR8 := Lib.hid hr8
        have HK8 := Lib.hid (HK7.out.trans hk8 (by simp))
        have HS8 := Lib.hid (HSL.out.kept hk8 (fun g' hg' hm => by simp [Value.ownBlock] at hg'; simp at hm; omega))
        have hz8 := HK8.out.size
        clear hr8 hk8 HR7 HK7 HSL
        cases o
        · go_wp2
          go_ret
          exact ⟨_, ys, rfl, HS8.out, by rw [HLY.out]; exact n6, HR8.out.mono (by omega), HK8.out⟩
        · go_wp2_with fail
          (with_reducible refine (pick_any B R (P + 3 + 2 * (5 - 0) + 1) (by omega) 3 (by omega) _ HR8.out).mono ?_)
          rintro e w9 ⟨z, rfl, hz0, hz, hr9, hk9⟩
          have HR9 := Lib.hid hr9
          have HK9 := Lib.hid (HK8.out.trans hk9 (by simp))
          have HS9 := Lib.hid (HS8.out.kept hk9 (fun g' hg' hm => by simp [Value.ownBlock] at hg'; simp at hm; omega))
          have hz9 := HK9.out.size
          clear hr9 hk9 HR8 HK8 HS8
          by_cases z0 : z = 0
          · subst z0
            clear hz hz0
            go_wp2
            go_ret
            exact ⟨_, [], rfl, (Sl.empty' w9).mono hz9, by simp, (HR9.out.kept ((Kept.refl [] _).alloc _) (by simp)).mono (by omega), HK9.out.alloc _⟩
          · have z0' : (z == 0) = false := by simpa using z0
            obtain ⟨c1, f1⟩ := HS9.out.at 0 (by rw [HLY.out]; exact n1)
            have hs10 : ∀ y : Int, Sl (w9.setCell ⟨g, 0, none⟩ (.int .i64 y)) w.heap.size (.slice (some ⟨g, 0, none⟩) n cap) (ys.set 0 y) := fun y => HS9.out.set HLY.out.symm 0 y
            have hk10 : ∀ y : Int, Kept [g] w9 (w9.setCell ⟨g, 0, none⟩ (.int .i64 y)) := fun y => ((Kept.refl _ _).setCell (.inl (by simp)) _)
            have HS10 := Lib.hid hs10
            have HK10 := Lib.hid hk10
            clear hs10 hk10
            generalize ys.getD 0 0 = v1 at *
            by_cases z1 : z = 1
            · subst z1
              clear hz hz0 z0 z0'
              go_wp2
              go_ret
              exact ⟨_, _, rfl, HS10.out _, by rw [List.length_set, HLY.out]; exact n6, (HR9.out.kept (HK10.out _) (fun x hx => by simp at hx; omega)).mono (by omega), HK9.out.trans (HK10.out _) (fun x hx => by right; simp at hx; omega)⟩
            · have z1' : (z == 1) = false := by simpa using z1
              clear z0 z1
              go_wp2_with fail
              go_region
              clear c1 f1
              have hs11 : Sl (w9.setCell ⟨g, 0, none⟩ (.int .i64 (bits .xor .i64 v1 (wrap64 (2 ^ (n - 1)))))).drew w.heap.size (.slice (some ⟨g, 0, none⟩) n cap) (ys.set 0 (bits .xor .i64 v1 (wrap64 (2 ^ (n - 1))))) := HS10.out _
              have hk11 := (HK10.out (bits .xor .i64 v1 (wrap64 (2 ^ (n - 1))))).drew
              generalize (w9.setCell ⟨g, 0, none⟩ (.int .i64 (bits .xor .i64 v1 (wrap64 (2 ^ (n - 1)))))).drew = w11 at *
              generalize bits .xor .i64 v1 (wrap64 (2 ^ (n - 1))) = v2 at *
              obtain ⟨c2, f2⟩ := hs11.at 0 (by rw [List.length_set, HLY.out]; exact n1)
              have HS11 := Lib.hid hs11
              have HK11 := Lib.hid (HK9.out.trans hk11 (fun x hx => by right; simp at hx; omega))
              have HR11 := Lib.hid (HR9.out.kept hk11 (fun x hx => by simp at hx; omega))
              clear hs11 hk11 HS9 HR9 HK9 HS10 HK10
              generalize (ys.set 0 v2).getD 0 0 = v3 at *
              by_cases hn1 : n = 1
              · have hn1' : ((n : Int) == 1) = true := by simp [hn1]
                have H1 := Lib.hid hn1
                clear hn1
                go_wp2
                go_ret
                exact ⟨_, _, rfl, HS11.out.set (by rw [List.length_set, HLY.out]) 0 (-1), by rw [List.length_set, List.length_set, HLY.out]; exact n6, (HR11.out.kept ((Kept.refl [g] _).setCell (.inl (by simp)) _) (fun x hx => by simp at hx; omega)).mono (by omega), HK11.out.setCell (.inr (by show w.heap.size ≤ g; omega)) _⟩
              · have hn1' : ((n : Int) == 1) = false := by simp; omega
                clear hn1
                go_wp2
                go_ret
                exact ⟨_, _, rfl, HS11.out, by rw [List.length_set, HLY.out]; exact n6, HR11.out.mono (by omega), HK11.out⟩
end Go.Proofs.YtaacehdfpoiljaaDoor
