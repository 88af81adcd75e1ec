/-
  Walks: a reader opened; chances.
-/
import Derived.Test.YtahjplaidkibpaaD1
namespace Go.Proofs.Ytahjplaidkibpaa
open Go.RowKit

/-- Whether something happens once in a while: either. -/
def Odds (w : World) (B R P : Nat) (e : Ending) (w' : World) : Prop :=
  ∃ b : Bool, e = .returned (.bool b) ∧ Rd w' B R (P + 1) ∧ Kept [R] w w'

set_option maxHeartbeats 1000000 in
theorem odd_any (B R P : Nat) (hP : P ≤ 100000) (m : Int) (hm : m ≤ 1000000) (hm0 : 0 ≤ m) (w : World) (hr : Rd w B R P) :
    Calls Try.prog 60 #[.pointer (some ⟨R, 0, none⟩), .int .i64 m] w (Odds w B R P) := by
  have HR := Lib.hid hr
  clear hr
  by_cases m1 : 0 < m
  · go_enter Try.func60, Try.ntmps60
    go_wp2_with fail
    refine (pick_any B R P hP m hm _ HR.out).mono ?_
    rintro e w1 ⟨x, rfl, hx0, hx, hr1, hk1⟩
    have HR1 := Lib.hid hr1
    have HK1 := Lib.hid hk1
    clear hr1 hk1 hx
    go_wp2
    go_ret
    exact ⟨_, rfl, HR1.out, HK1.out⟩
  · go_enter Try.func60, Try.ntmps60
    go_wp2
    go_ret
    exact ⟨_, rfl, HR.out.mono (by omega), Kept.refl _ _⟩

/-- Bytes that came in from outside. -/
def ArgB (w : World) (v : Value) : Prop :=
  ∃ (a : Option Addr) (n cap : Nat), v = .slice a n cap ∧ n ≤ cap ∧ cap ≤ 9223372036854775807 ∧
    ∀ k, k < n → ∃ b off u : Nat, a = some ⟨b, off, none⟩ ∧ b < w.heap.size ∧ u < 256 ∧ w.cell? ⟨b, off + k, none⟩ = some (.int .u8 u)

theorem argB_of {w : World} {a : Option Addr} {len cap : Nat} {zs : List Int}
    (h : (a = none ∧ len = 0 ∧ cap = 0 ∧ zs = []) ∨ ∃ x, a = some x ∧ len ≤ cap ∧ cap ≤ maxLen ∧ zs.length = cap ∧ (∀ i, i < zs.length → w.cell? (x.add i) = some (.int .u8 (zs.getD i 0))) ∧ ∀ n ∈ zs, (Lit.int .u8 n).wf = true) :
    ArgB w (.slice a len cap) := by
  rcases h with ⟨rfl, rfl, rfl, rfl⟩ | ⟨x, rfl, hl, hm, hz, hcell, hwf⟩
  · exact ⟨none, 0, 0, rfl, Nat.le_refl _, by simp, fun k hk => by simp at hk⟩
  · refine ⟨some x, len, cap, rfl, hl, by unfold maxLen at hm; omega, fun k hk => ?_⟩
    have h00 := hcell 0 (by omega)
    have hkk := hcell k (by omega)
    obtain ⟨b, off, spot⟩ := x
    have hspot : spot = none := by simpa [Addr.add] using World.cell?_spot h00
    subst hspot
    have e : (⟨b, off, none⟩ : Addr).add k = ⟨b, off + k, none⟩ := by unfold Addr.add; split <;> simp_all
    rw [e] at hkk
    have hmem : zs.getD k 0 ∈ zs := by
      rw [List.getD_eq_getElem?_getD, List.getElem?_eq_getElem (by omega)]
      exact List.getElem_mem _
    have hw := hwf _ hmem
    simp only [Lit.wf, IntKind.min, IntKind.max, IntKind.signed, IntKind.bits, Bool.and_eq_true] at hw
    have hb : 0 ≤ zs.getD k 0 ∧ zs.getD k 0 < 256 := by
      generalize zs.getD k 0 = z at *
      simp at hw
      omega
    obtain ⟨u, hu⟩ := Int.eq_ofNat_of_zero_le hb.1
    refine ⟨b, off, u, rfl, World.block_lt_of_cell? w _ hkk, by omega, ?_⟩
    rw [hkk, hu]

/-- A reader is opened: a new block. -/
def Opened (w : World) (e : Ending) (w' : World) : Prop :=
  e = .returned (.pointer (some ⟨w.heap.size, 0, none⟩)) ∧ Rd w' w.heap.size w.heap.size 0 ∧ Kept [] w w'

set_option maxHeartbeats 1000000 in
theorem open_any (w : World) (v : Value) (ha : ArgB w v) :
    Calls Try.prog 35 #[v] w (Opened w) := by
  obtain ⟨a, n, cap, rfl, hn, hcap, hc⟩ := ha
  have HC := Lib.hid hc
  clear hc
  have hnew : ∀ (n' c' : Nat) (ty : TypeId), n' ≤ n → n' ≤ 2000 → Rd (w.alloc (.cells #[.slice a n' c', .int .i64 0] ty)) w.heap.size w.heap.size 0 := by
    intro n' c' ty h1 h2
    refine ⟨Nat.le_refl _, a, n', c', 0, ty, heap_alloc_new w _, Nat.le_refl _, h2, fun i hi => ?_⟩
    obtain ⟨b, off, u, rfl, hb, hu, hcell⟩ := HC.out i (by omega)
    exact ⟨b, off, u, rfl, hb, by simp; omega, hu, (((Kept.refl [] w).alloc _).cell (p := ⟨b, off + i, none⟩) hb (by simp)).trans hcell⟩
  have HN := Lib.hid hnew
  clear hnew
  by_cases h2 : 2000 < n
  · have h2' : (2000 : Int) < (n : Int) := by omega
    go_enter Try.func35, Try.ntmps35
    go_wp2
    go_ret
    exact ⟨rfl, HN.out 2000 _ _ (by omega) (by omega), (Kept.refl _ _).alloc _⟩
  · have h2' : ¬ (2000 : Int) < (n : Int) := by omega
    go_enter Try.func35, Try.ntmps35
    go_wp2
    go_ret
    exact ⟨rfl, HN.out n _ _ (by omega) (by omega), (Kept.refl _ _).alloc _⟩
end Go.Proofs.Ytahjplaidkibpaa
