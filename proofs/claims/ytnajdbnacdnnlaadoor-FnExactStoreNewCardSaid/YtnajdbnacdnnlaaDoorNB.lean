/-
  Walks: the neighbours of a set, by the program and by the model.
  Walks: distances, by the model.
  Walks: distances, by the program; and both for all numbers.
  Walks: distances, for all numbers.
  Walks: paths and rings.
  Walks: paths and rings, by the program and by the model.
  Walks: paths and rings, by the model.
  Walks: rings, by the model.
-/
import Derived.Test.YtnajdbnacdnnlaaDoorNA
import Derived.Test.YtnajdbnacdnnlaaDoorKA
import Derived.RegionTactic
import Derived.ChangeAlike
namespace Go.Proofs.YtnajdbnacdnnlaaDoor
open Go.RowKit
open Nt (okB)

end Go.Proofs.YtnajdbnacdnnlaaDoor

namespace Go.Proofs.YtnajdbnacdnnlaaDoor
open Go.RowKit

end Go.Proofs.YtnajdbnacdnnlaaDoor

namespace Go.Proofs.YtnajdbnacdnnlaaDoor
open Go.RowKit

/-- Filled up to k. -/
def fillTo (n k : Nat) : List Int := List.replicate k (-1) ++ List.replicate (n - k) 0
theorem fillTo_length (n k : Nat) (h : k ≤ n) : (fillTo n k).length = n := by simp [fillTo]; omega
theorem fillTo_set (n k : Nat) (h : k < n) : (fillTo n k).set k (-1) = fillTo n (k + 1) := by
  unfold fillTo
  rw [List.set_append_right _ _ (by simp)]
  have e : n - k = (n - (k + 1)) + 1 := by omega
  rw [e, List.length_replicate, Nat.sub_self, List.replicate_succ, List.set_cons_zero, List.replicate_succ', List.append_assoc]
  rfl

end Go.Proofs.YtnajdbnacdnnlaaDoor

namespace Go.Proofs.YtnajdbnacdnnlaaDoor
open Go.RowKit

theorem Nt.farOf_small (xs : List Int) (set : Int) : (Nt.farOf xs set).length ≤ 2000000 := by
  unfold Nt.farOf
  split
  · rename_i h
    obtain ⟨ns, rfl, hok⟩ := Nt.okB_ok h.1
    rw [Nt.far_length, Nt.nats_toNat]
    have := hok.few
    omega
  · simp

theorem Sl.empty (w : World) : Sl (w.alloc (.cells #[] 3)) w.heap.size (.slice (some ⟨w.heap.size, 0, none⟩) 0 0) [] := Sl.lit w [] (by simp)

theorem Sl.rebase {w w0 : World} {u : Value} {xs : List Int} (h : Sl w w0.heap.size u xs) {w1 : World} (hs : w1.heap.size ≤ w0.heap.size) : Sl w w1.heap.size u xs := h.mono hs

end Go.Proofs.YtnajdbnacdnnlaaDoor

namespace Go.Proofs.YtnajdbnacdnnlaaDoor
open Go.RowKit

set_option maxHeartbeats 1000000 in
set_option maxRecDepth 100000 in
theorem addWire_any (ns : List Nat) (a b : Nat) (ha : a < ns.length) (hb : b < ns.length) (h6 : ns.length ≤ 6) (hne : a ≠ b) (hx : ns.getD a 0 < 64) (hy : ns.getD b 0 < 64) (w : World) (v : Value) (base : Nat) (hs : Sl w base v (Nt.nats ns)) :
    Calls Tryd.prog 47 #[v, .int .i64 a, .int .i64 b] w fun e w' => e = .returned (.tuple #[]) ∧ Sl w' base v (Nt.nats (Nt.wire ns a b)) ∧ Kept v.ownBlock.toList w w' := by
  obtain ⟨g, cap, rfl, hg, hgs⟩ := hs.shape (Nt.nats_length ns) (by omega)
  obtain ⟨ca, fa⟩ := hs.at a (by rw [Nt.nats_length]; exact ha)
  obtain ⟨cb, fb⟩ := hs.at b (by rw [Nt.nats_length]; exact hb)
  rw [Nt.nats_get] at ca cb
  have HS := Lib.hid hs
  generalize hxe : ns.getD a 0 = x at *
  generalize hye : ns.getD b 0 = y at *
  have HX := Lib.hid hxe
  have HY := Lib.hid hye
  have HNE := Lib.hid hne
  clear hs hxe hye hne
  have e1 := or_shl x b hx (by omega)
  have e2 := or_shl y a hy (by omega)
  have hs1 : Sl (w.setCell ⟨g, a, none⟩ (.int .i64 ((x ||| 2 ^ b : Nat) : Int))).drew base (.slice (some ⟨g, 0, none⟩) ns.length cap) (Nt.nats (ns.set a (x ||| 2 ^ b))) := by
    have h := HS.out.set (Nt.nats_length ns).symm a ((x ||| 2 ^ b : Nat) : Int)
    rw [Nt.nats_set]
    exact h
  have hk1 : Kept [g] w (w.setCell ⟨g, a, none⟩ (.int .i64 ((x ||| 2 ^ b : Nat) : Int))).drew := ((Kept.refl _ _).setCell (.inl (by simp)) _).drew
  have hyb : (ns.set a (x ||| 2 ^ b)).getD b 0 = y := by
    rw [← HY.out, List.getD_eq_getElem?_getD, List.getD_eq_getElem?_getD, List.getElem?_set_ne HNE.out]
  have HS1 := Lib.hid hs1
  have HK1 := Lib.hid hk1
  have HYB := Lib.hid hyb
  clear hs1 hk1 hyb
  go_enter Tryd.func47, Tryd.ntmps47
  go_wp2
  go_region
  clear e1
  generalize (w.setCell ⟨g, a, none⟩ (.int .i64 ((x ||| 2 ^ b : Nat) : Int))).drew = w1 at *
  obtain ⟨cb1, fb1⟩ := HS1.out.at b (by rw [Nt.nats_length]; simpa using hb)
  rw [Nt.nats_get, HYB.out] at cb1
  clear ca fa cb fb
  go_wp2
  go_region
  go_end0
  refine ⟨rfl, ?_, (HK1.out.setCell (.inl (by simp)) _).drew⟩
  have h := HS1.out.set (by rw [Nt.nats_length, List.length_set]) b ((y ||| 2 ^ a : Nat) : Int)
  unfold Nt.wire
  rw [HX.out, HYB.out, Nt.nats_set]
  exact h
end Go.Proofs.YtnajdbnacdnnlaaDoor

namespace Go.Proofs.YtnajdbnacdnnlaaDoor
open Go.RowKit

theorem pathOf_yes (n : Nat) (h : 1 ≤ n ∧ n ≤ 6) : Nt.pathOf (n : Int) = Nt.nats (Nt.pathN n) := by
  unfold Nt.pathOf
  rw [if_pos (by omega), Int.toNat_natCast]
theorem pathOf_no (n : Int) (h : ¬ (1 ≤ n ∧ n ≤ 6)) : Nt.pathOf n = [] := by
  unfold Nt.pathOf
  rw [if_neg h]
theorem ringOf_yes (n : Nat) (h : 3 ≤ n ∧ n ≤ 6) : Nt.ringOf (n : Int) = Nt.nats (Nt.ringN n) := by
  unfold Nt.ringOf
  rw [if_pos (by omega), Int.toNat_natCast]
theorem ringOf_no (n : Int) (h : ¬ (3 ≤ n ∧ n ≤ 6)) : Nt.ringOf n = [] := by
  unfold Nt.ringOf
  rw [if_neg h]

end Go.Proofs.YtnajdbnacdnnlaaDoor

namespace Go.Proofs.YtnajdbnacdnnlaaDoor
open Go.RowKit

theorem Sl.empty' (w : World) : Sl (w.alloc (.cells #[] 3)) w.heap.size (.slice (some ⟨w.heap.size, 0, none⟩) 0 0) [] := Sl.lit w [] (by simp)

theorem pow_lt64 {b : Nat} (h : b < 6) : 2 ^ b < 64 := Nat.pow_lt_pow_right (n := 6) (by omega) h

end Go.Proofs.YtnajdbnacdnnlaaDoor

namespace Go.Proofs.YtnajdbnacdnnlaaDoor
open Go.RowKit

theorem ring_bits {p q : Nat} (hp : p ≤ 5) (hq : q ≤ 5) : bits .or .i64 (IntKind.i64.wrap (2 ^ p)) (IntKind.i64.wrap (2 ^ q)) = ((2 ^ p ||| 2 ^ q : Nat) : Int) := by
  have h := or_shl (2 ^ p) q (pow_lt64 (by omega)) (by omega)
  rw [wrap_pow_nat p (by omega), IntWalk.i64_left]
  have e : (2 : Int) ^ p = ((2 ^ p : Nat) : Int) := (Int.natCast_pow 2 p).symm
  rw [e]
  exact h

end Go.Proofs.YtnajdbnacdnnlaaDoor
