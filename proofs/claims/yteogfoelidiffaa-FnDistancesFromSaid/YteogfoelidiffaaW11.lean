/-
  Walks: paths and rings.
-/
import Derived.Test.YteogfoelidiffaaOps
import Derived.RegionTactic
import Derived.ChangeAlike
namespace Go.Proofs.Yteogfoelidiffaa
open Go.RowKit

set_option maxHeartbeats 1000000 in
theorem addWire_any (ns : List Nat) (a b : Nat) (ha : a < ns.length) (hb : b < ns.length) (h6 : ns.length ≤ 6) (hne : a ≠ b) (hx : ns.getD a 0 < 64) (hy : ns.getD b 0 < 64) (w : World) (v : Value) (base : Nat) (hs : Sl w base v (Nt.nats ns)) :
    Calls Try.prog 57 #[v, .int .i64 a, .int .i64 b] w fun e w' => e = .returned (.tuple #[]) ∧ Sl w' base v (Nt.nats (Nt.wire ns a b)) ∧ Kept v.ownBlock.toList w w' := by
  obtain ⟨g, cap, rfl, hg, hgs⟩ := hs.shape (Nt.nats_length ns) (by omega)
  obtain ⟨ca, fa⟩ := hs.at a (by rw [Nt.nats_length]; exact ha)
  obtain ⟨cb, fb⟩ := hs.at b (by rw [Nt.nats_length]; exact hb)
  rw [Nt.nats_get] at ca cb
  have HS := Lib.hid hs
  generalize hxe : ns.getD a 0 = x at *
  generalize hye : ns.getD b 0 = y at *
  have HX := Lib.hid hxe
  have HY := Lib.hid hye
  have HNE := Lib.hid hne
  clear hs hxe hye hne
  have e1 := or_shl x b hx (by omega)
  have e2 := or_shl y a hy (by omega)
  have hs1 : Sl (w.setCell ⟨g, a, none⟩ (.int .i64 ((x ||| 2 ^ b : Nat) : Int))).drew base (.slice (some ⟨g, 0, none⟩) ns.length cap) (Nt.nats (ns.set a (x ||| 2 ^ b))) := by
    have h := HS.out.set (Nt.nats_length ns).symm a ((x ||| 2 ^ b : Nat) : Int)
    rw [Nt.nats_set]
    exact h
  have hk1 : Kept [g] w (w.setCell ⟨g, a, none⟩ (.int .i64 ((x ||| 2 ^ b : Nat) : Int))).drew := ((Kept.refl _ _).setCell (.inl (by simp)) _).drew
  have hyb : (ns.set a (x ||| 2 ^ b)).getD b 0 = y := by
    rw [← HY.out, List.getD_eq_getElem?_getD, List.getD_eq_getElem?_getD, List.getElem?_set_ne HNE.out]
  have HS1 := Lib.hid hs1
  have HK1 := Lib.hid hk1
  have HYB := Lib.hid hyb
  clear hs1 hk1 hyb
  go_enter Try.func57, Try.ntmps57
  go_wp2
  go_region
  clear e1
  generalize (w.setCell ⟨g, a, none⟩ (.int .i64 ((x ||| 2 ^ b : Nat) : Int))).drew = w1 at *
  obtain ⟨cb1, fb1⟩ := HS1.out.at b (by rw [Nt.nats_length]; simpa using hb)
  rw [Nt.nats_get, HYB.out] at cb1
  clear ca fa cb fb
  go_wp2
  go_region
  go_end0
  refine ⟨rfl, ?_, (HK1.out.setCell (.inl (by simp)) _).drew⟩
  have h := HS1.out.set (by rw [Nt.nats_length, List.length_set]) b ((y ||| 2 ^ a : Nat) : Int)
  unfold Nt.wire
  rw [HX.out, HYB.out, Nt.nats_set]
  exact h
end Go.Proofs.Yteogfoelidiffaa
