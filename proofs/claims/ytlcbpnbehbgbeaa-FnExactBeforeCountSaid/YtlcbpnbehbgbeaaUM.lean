/-
  Walks: rises, tours and climbs, by the model.
  Walks: what tours climb most, and the best ones, by the model.
-/
import Derived.Test.YtlcbpnbehbgbeaaTB
import Derived.Test.YtlcbpnbehbgbeaaTC
import Derived.StillTailTactics
namespace Go.Proofs.Ytlcbpnbehbgbeaa
open Go.RowKit

theorem rise_mod (x y : Nat) (hx : x < 3) (hy : y < 3) : ((y : Int) - (x : Int) + 3 + 1).tmod 3 = Nt.rise x y + 1 := by
  rw [Int.tmod_eq_emod_of_nonneg (by omega)]
  unfold Nt.rise
  omega

theorem goes_more {ns : List Nat} {zs : List Int} {k j p q : Nat} (hj : j + 1 = k) (hp : zs.getD j 0 = (p : Int)) (hq : zs.getD k 0 = (q : Int)) (hqn : q < ns.length) : Nt.goesB (Nt.nats ns) zs k = (ns.getD p 0).testBit q := by
  subst hj
  unfold Nt.goesB
  rw [hq, Nt.nats_length, Nt.inB_yes hqn, Nat.add_sub_cancel, hp, Int.toNat_natCast, Int.toNat_natCast, Nt.nats_get, Nt.bit_nat]
  simp
theorem goes_first {xs zs : List Int} {q : Nat} (hq : zs.getD 0 0 = (q : Int)) (hqn : q < xs.length) : Nt.goesB xs zs 0 = true := by
  unfold Nt.goesB
  rw [hq, Nt.inB_yes hqn]
  rfl
theorem goes_not {xs zs : List Int} {k : Nat} (h : Nt.inB xs.length (zs.getD k 0) = false) : Nt.goesB xs zs k = false := by
  unfold Nt.goesB
  rw [h, Bool.false_and]
theorem goes_in {xs zs : List Int} {k : Nat} (h : Nt.goesB xs zs k = true) : ∃ p : Nat, zs.getD k 0 = (p : Int) ∧ p < xs.length := by
  unfold Nt.goesB at h
  rw [Bool.and_eq_true] at h
  exact Nt.inB_ok h.1

theorem l1In_is {b : Bool} {n lo hi : Int} (h : decide (lo ≤ n ∧ n ≤ hi) = b) (w : World) :
    Calls Try.prog 84 #[.int .i64 n, .int .i64 lo, .int .i64 hi] w fun e w' => e = .returned (.bool b) ∧ w = w' :=
  (l1In_any n lo hi w).mono fun _ _ e => ⟨by rw [e.1, h], e.2⟩

set_option maxHeartbeats 400000 in
set_option maxRecDepth 100000 in
theorem l6Rise_any (x y : Nat) (hx : x < 3) (hy : y < 3) (w : World) :
    Calls Try.prog 111 #[.int .i64 (x : Int), .int .i64 (y : Int)] w fun e w' => e = .returned (.int .i64 (Nt.rise x y)) ∧ w = w' := by
  have f1 := rise_mod x y hx hy
  have h1 := @Nt.rise_lo x y
  have h2 := @Nt.rise_hi x y
  generalize Nt.rise x y = r at *
  go_enter Try.func111, Try.ntmps111
  go_wp2
  go_ret
  exact ⟨by first | rfl | go_num, rfl⟩

end Go.Proofs.Ytlcbpnbehbgbeaa

namespace Go.Proofs.Ytlcbpnbehbgbeaa
open Go.RowKit

theorem set_same (xs : List Int) (k : Nat) : xs.set k (xs.getD k 0) = xs := by
  by_cases h : k < xs.length
  · apply List.ext_getElem (by simp)
    intro i h1 h2
    by_cases e : k = i
    · subst e; simp [List.getD_eq_getElem?_getD, h]
    · simp [e]
  · rw [List.set_eq_of_length_le (by omega)]
theorem set_get (xs : List Int) {k n : Nat} (x : Int) (hn : xs.length = n) (h : k < n) : (xs.set k x).getD k 0 = x := by
  subst hn
  simp [List.getD_eq_getElem?_getD, h]
theorem turnedL_le (ns ks : List Nat) (t k : Nat) (hk : k < ks.length) : (Nt.turnedL ns ks t).getD k 0 ≤ t := by
  rw [Nt.turnedL_get _ _ _ hk]
  exact Nt.turned_le ns ks k t
/-- What a node's most is, once some neighbours have been looked at. -/
def mostTo (ns ks : List Nat) (t k j : Nat) : Int := Nt.overTo (Nt.viaK ns ks t k) (fun j => (ns.getD k 0).testBit j) ((Nt.turned ns ks k t : Nat) : Int) j
theorem mostTo_bounds (ns ks : List Nat) (t k j : Nat) : 0 ≤ mostTo ns ks t k j ∧ mostTo ns ks t k j ≤ (t : Int) + 1 := by
  unfold mostTo
  constructor
  · have := (Nt.overTo_ge (Nt.viaK ns ks t k) (fun j => (ns.getD k 0).testBit j) ((Nt.turned ns ks k t : Nat) : Int) j).1
    omega
  · have h := Nt.turned_le ns ks k t
    exact Nt.overTo_le (by omega) _ (fun i _ _ => Nt.viaK_le t k i)
theorem mostTo_end {ns ks : List Nat} (ok : Nt.Ok ns) (st : Nt.St 3 ks) (hl : ks.length = ns.length) (t : Nat) {k : Nat} (hk : k < ks.length) : mostTo ns ks t k ks.length = (((Nt.turnedL ns ks (t + 1)).getD k 0 : Nat) : Int) := by
  have h := Nt.most_turned ok st hl (t + 1) k hk
  rw [Nt.turnedL_get _ _ _ hk, ← h, Nt.mostK]
  unfold mostTo
  exact Nt.overTo_cong (Nt.most_turned ok st hl t k hk).symm _ (fun j hj => by unfold Nt.viaK; rw [Nt.most_turned ok st hl t j hj])

theorem best_take {ns ks : List Nat} {k t i : Nat} (hi : i < Nt.fewestT ns ks k t) :
    Nt.nats ((Nt.best ns ks k t).take (i + 1 + 1)) = Nt.nats ((Nt.best ns ks k t).take (i + 1)) ++ [(((Nt.best ns ks k t).getD (i + 1) 0 : Nat) : Int)] :=
  Nt.take_more _ _ (by rw [Nt.best_length]; omega)
theorem best_one (ns ks : List Nat) (k t : Nat) : (Nt.best ns ks k t).take (0 + 1) = [k] := by
  have h1 := Nt.best_length ns ks k t
  have h2 := Nt.best_head ns ks k t
  cases h : Nt.best ns ks k t with
  | nil => rw [h] at h1; simp at h1
  | cons x l => rw [h] at h2; simpa using h2
theorem best_all (ns ks : List Nat) (k t : Nat) : (Nt.best ns ks k t).take (Nt.fewestT ns ks k t + 1) = Nt.best ns ks k t := by
  rw [← Nt.best_length]; exact List.take_length
theorem take_at (tr : List Nat) {i : Nat} (_h : i < tr.length) : (Nt.nats (tr.take (i + 1))).getD i 0 = ((tr.getD i 0 : Nat) : Int) := by
  rw [Nt.nats_get, List.getD_eq_getElem?_getD, List.getElem?_take, if_pos (by omega), ← List.getD_eq_getElem?_getD]

end Go.Proofs.Ytlcbpnbehbgbeaa
