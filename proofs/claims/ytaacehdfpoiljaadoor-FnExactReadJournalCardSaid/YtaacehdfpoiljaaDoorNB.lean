/-
  Walks: the neighbours of a set, by the program and by the model.
  Walks: distances, by the model.
  Walks: distances, by the program; and both for all numbers.
  Walks: distances, for all numbers.
  Walks: paths and rings.
  Walks: paths and rings, by the program and by the model.
  Walks: paths and rings, by the model.
  Walks: rings, by the model.
-/
import Derived.Test.YtaacehdfpoiljaaDoorNA
import Derived.Test.YtaacehdfpoiljaaDoorKA
import Derived.RegionTactic
import Derived.ChangeAlike
namespace Go.Proofs.YtaacehdfpoiljaaDoor
open Go.RowKit
open Nt (okB)

end Go.Proofs.YtaacehdfpoiljaaDoor

namespace Go.Proofs.YtaacehdfpoiljaaDoor
open Go.RowKit

end Go.Proofs.YtaacehdfpoiljaaDoor

namespace Go.Proofs.YtaacehdfpoiljaaDoor
open Go.RowKit

/-- Filled up to k. -/
def fillTo (n k : Nat) : List Int := List.replicate k (-1) ++ List.replicate (n - k) 0
theorem fillTo_length (n k : Nat) (h : k ≤ n) : (fillTo n k).length = n := by simp [fillTo]; omega
theorem fillTo_set (n k : Nat) (h : k < n) : (fillTo n k).set k (-1) = fillTo n (k + 1) := by
  unfold fillTo
  rw [List.set_append_right _ _ (by simp)]
  have e : n - k = (n - (k + 1)) + 1 := by omega
  rw [e, List.length_replicate, Nat.sub_self, List.replicate_succ, List.set_cons_zero, List.replicate_succ', List.append_assoc]
  rfl

end Go.Proofs.YtaacehdfpoiljaaDoor

namespace Go.Proofs.YtaacehdfpoiljaaDoor
open Go.RowKit

theorem Nt.farOf_small (xs : List Int) (set : Int) : (Nt.farOf xs set).length ≤ 2000000 := by
  unfold Nt.farOf
  split
  · rename_i h
    obtain ⟨ns, rfl, hok⟩ := Nt.okB_ok h.1
    rw [Nt.far_length, Nt.nats_toNat]
    have := hok.few
    omega
  · simp

theorem Sl.empty (w : World) : Sl (w.alloc (.cells #[] 3)) w.heap.size (.slice (some ⟨w.heap.size, 0, none⟩) 0 0) [] := Sl.lit w [] (by simp)

theorem Sl.rebase {w w0 : World} {u : Value} {xs : List Int} (h : Sl w w0.heap.size u xs) {w1 : World} (hs : w1.heap.size ≤ w0.heap.size) : Sl w w1.heap.size u xs := h.mono hs

end Go.Proofs.YtaacehdfpoiljaaDoor

namespace Go.Proofs.YtaacehdfpoiljaaDoor
open Go.RowKit

set_option maxHeartbeats 1000000 in
set_option maxRecDepth 100000 in
theorem addWire_any (ns : List Nat) (a b : Nat) (ha : a < ns.length) (hb : b < ns.length) (h6 : ns.length ≤ 6) (hne : a ≠ b) (hx : ns.getD a 0 < 64) (hy : ns.getD b 0 < 64) (w : World) (v : Value) (base : Nat) (hs : Sl w base v (Nt.nats ns)) :
    Calls Tryd.prog 94 #[v, .int .i64 a, .int .i64 b] w fun e w' => e = .returned (.tuple #[]) ∧ Sl w' base v (Nt.nats (Nt.wire ns a b)) ∧ Kept v.ownBlock.toList w w' := by
  obtain ⟨g, cap, rfl, hg, hgs⟩ := hs.shape (Nt.nats_length ns) (by omega)
  obtain ⟨ca, fa⟩ := hs.at a (by rw [Nt.nats_length]; exact ha)
  obtain ⟨cb, fb⟩ := hs.at b (by rw [Nt.nats_length]; exact hb)
  rw [Nt.nats_get] at ca cb
  have HS := Lib.hid hs
  generalize hxe : ns.getD a 0 = x at *
  generalize hye : ns.getD b 0 = y at *
  have HX := Lib.hid hxe
  have HY := Lib.hid hye
  have HNE := Lib.hid hne
  clear hs hxe hye hne
  have e1 := or_shl x b hx (by omega)
  have e2 := or_shl y a hy (by omega)
  have hs1 : Sl (w.setCell ⟨g, a, none⟩ (.int .i64 ((x ||| 2 ^ b : Nat) : Int))).drew base (.slice (some ⟨g, 0, none⟩) ns.length cap) (Nt.nats (ns.set a (x ||| 2 ^ b))) := by
    have h := HS.out.set (Nt.nats_length ns).symm a ((x ||| 2 ^ b : Nat) : Int)
    rw [Nt.nats_set]
    exact h
  have hk1 : Kept [g] w (w.setCell ⟨g, a, none⟩ (.int .i64 ((x ||| 2 ^ b : Nat) : Int))).drew := ((Kept.refl _ _).setCell (.inl (by simp)) _).drew
  have hyb : (ns.set a (x ||| 2 ^ b)).getD b 0 = y := by
    rw [← HY.out, List.getD_eq_getElem?_getD, List.getD_eq_getElem?_getD, List.getElem?_set_ne HNE.out]
  have HS1 := Lib.hid hs1
  have HK1 := Lib.hid hk1
  have HYB := Lib.hid hyb
  clear hs1 hk1 hyb
  go_enter Tryd.func94, Tryd.ntmps94
  go_wp2
  go_region
  clear e1
  generalize (w.setCell ⟨g, a, none⟩ (.int .i64 ((x ||| 2 ^ b : Nat) : Int))).drew = w1 at *
  obtain ⟨cb1, fb1⟩ := HS1.out.at b (by rw [Nt.nats_length]; simpa using hb)
  rw [Nt.nats_get, HYB.out] at cb1
  clear ca fa cb fb
  go_wp2
  go_region
  go_end0
  refine ⟨rfl, ?_, (HK1.out.setCell (.inl (by simp)) _).drew⟩
  have h := HS1.out.set (by rw [Nt.nats_length, List.length_set]) b ((y ||| 2 ^ a : Nat) : Int)
  unfold Nt.wire
  rw [HX.out, HYB.out, Nt.nats_set]
  exact h
end Go.Proofs.YtaacehdfpoiljaaDoor

namespace Go.Proofs.YtaacehdfpoiljaaDoor
open Go.RowKit

theorem pathOf_yes (n : Nat) (h : 1 ≤ n ∧ n ≤ 6) : Nt.pathOf (n : Int) = Nt.nats (Nt.pathN n) := by
  unfold Nt.pathOf
  rw [if_pos (by omega), Int.toNat_natCast]
theorem pathOf_no (n : Int) (h : ¬ (1 ≤ n ∧ n ≤ 6)) : Nt.pathOf n = [] := by
  unfold Nt.pathOf
  rw [if_neg h]
theorem ringOf_yes (n : Nat) (h : 3 ≤ n ∧ n ≤ 6) : Nt.ringOf (n : Int) = Nt.nats (Nt.ringN n) := by
  unfold Nt.ringOf
  rw [if_pos (by omega), Int.toNat_natCast]
theorem ringOf_no (n : Int) (h : ¬ (3 ≤ n ∧ n ≤ 6)) : Nt.ringOf n = [] := by
  unfold Nt.ringOf
  rw [if_neg h]

end Go.Proofs.YtaacehdfpoiljaaDoor

namespace Go.Proofs.YtaacehdfpoiljaaDoor
open Go.RowKit

theorem Sl.empty' (w : World) : Sl (w.alloc (.cells #[] 3)) w.heap.size (.slice (some ⟨w.heap.size, 0, none⟩) 0 0) [] := Sl.lit w [] (by simp)

theorem pow_lt64 {b : Nat} (h : b < 6) : 2 ^ b < 64 := Nat.pow_lt_pow_right (n := 6) (by omega) h

set_option maxHeartbeats 2000000 in
set_option maxRecDepth 100000 in
theorem sPath_any (n : Int) (w : World) :
    Calls Tryd.prog 100 #[.int .i64 n] w fun e w' => ∃ u, e = .returned u ∧ Sl w' w.heap.size u (Nt.pathOf n) ∧ Kept [] w w' := by
  by_cases h1 : 1 ≤ n ∧ n ≤ 6
  · obtain ⟨m, rfl⟩ := Int.eq_ofNat_of_zero_le (show 0 ≤ n by omega)
    have m1 : 1 ≤ m := by omega
    have m6 : m ≤ 6 := by omega
    have HF := Lib.hid (pathOf_yes m ⟨m1, m6⟩)
    have hd : decide ((1 : Int) ≤ (m : Int) ∧ (m : Int) ≤ 6) = true := dec_of h1
    clear h1
    go_enter Tryd.func100, Tryd.ntmps100
    go_wp2
    go_loopw [3, 4] (fun u i wr => ∃ k : Nat, k ≤ m ∧ i = .int .i64 k ∧ Sl wr w.heap.size u (Nt.nats ((Nt.pathN m).take k)) ∧ Kept [] w wr) (fun _ i _ => m - (intOf i).toNat)
    case atStart => exact ⟨0, Nat.zero_le _, rfl, Sl.empty' w, (Kept.refl _ _).alloc _⟩
    case round =>
      obtain ⟨k, hk, rfl, hsl, hkept⟩ := hrel
      have HSL := Lib.hid hsl
      have HK := Lib.hid hkept
      have hsz := hkept.size
      clear hsl hkept
      by_cases hlt : k < m
      · have HT := Lib.hid (Nt.take_more (Nt.pathN m) k (by rw [Nt.pathN_length]; exact hlt))
        have HG := Lib.hid (Nt.pathN_get m k hlt)
        have hl : (Nt.nats ((Nt.pathN m).take k)).length ≤ 1000000 := by rw [Nt.nats_length, List.length_take]; omega
        have HL := Lib.hid hl
        clear hl
        by_cases c1 : 0 < k <;> by_cases c2 : k + 1 < m
        all_goals
          go_wp2_with (first | (go_at_call 65; refine (l1In_any _ _ _ _).mono ?_; rintro e w' ⟨rfl, rfl⟩; rw [hd]) | (at_builtin; refine app_int _ rfl _ _ rfl w.heap.size _ _ HSL.out rfl rfl HL.out (by omega) ?_; intro u' w1 hs1 hk1; have HS1 := Lib.hid hs1; have HK1 := Lib.hid hk1; clear hs1 hk1))
          go_roundw
          case rel =>
            refine ⟨k + 1, by omega, by go_num, HS1.out.val ?_ HT.out, HK.out.own HK1.out (fun g hg => (HSL.out.block hg).1)⟩
            rw [HG.out]
            clear HG HT HL HSL HK HS1 HK1
            first
            | (rw [if_pos c1, if_pos c2, or_zero_shl _ (by omega)]; exact or_shl _ _ (pow_lt64 (by omega)) (by omega))
            | (rw [if_pos c1, if_neg c2, or_zero_shl _ (by omega), Nat.or_zero])
            | (rw [if_neg c1, if_pos c2, or_zero_shl _ (by omega), Nat.zero_or])
            | (rw [if_neg c1, if_neg c2]; rfl)
          case measure => simp [intOf]; omega
      · have hk' : k = m := by omega
        subst hk'
        go_wp2_with (go_at_call 65; refine (l1In_any _ _ _ _).mono ?_; rintro e w' ⟨rfl, rfl⟩; rw [hd])
        go_ret
        refine ⟨_, rfl, ?_, HK.out⟩
        have h := HSL.out
        rw [List.take_of_length_le (by rw [Nt.pathN_length]; exact Nat.le_refl _)] at h
        rw [HF.out]
        exact h
  · have HF := Lib.hid (pathOf_no n h1)
    have hd : decide ((1 : Int) ≤ n ∧ n ≤ 6) = false := dec_not h1
    clear h1
    by_cases h0 : 0 < n
    all_goals
      go_enter Tryd.func100, Tryd.ntmps100
      go_wp2
      refine wp_loop_rounds 1 ?_
      rw [rounds_succ]
      go_wp2_with (go_at_call 65; refine (l1In_any _ _ _ _).mono ?_; rintro e w' ⟨rfl, rfl⟩; rw [hd])
      go_ret
      exact ⟨_, rfl, by rw [HF.out]; exact Sl.empty' w, (Kept.refl _ _).alloc _⟩
end Go.Proofs.YtaacehdfpoiljaaDoor

namespace Go.Proofs.YtaacehdfpoiljaaDoor
open Go.RowKit

theorem ring_bits {p q : Nat} (hp : p ≤ 5) (hq : q ≤ 5) : bits .or .i64 (IntKind.i64.wrap (2 ^ p)) (IntKind.i64.wrap (2 ^ q)) = ((2 ^ p ||| 2 ^ q : Nat) : Int) := by
  have h := or_shl (2 ^ p) q (pow_lt64 (by omega)) (by omega)
  rw [wrap_pow_nat p (by omega), IntWalk.i64_left]
  have e : (2 : Int) ^ p = ((2 ^ p : Nat) : Int) := (Int.natCast_pow 2 p).symm
  rw [e]
  exact h

set_option maxHeartbeats 2000000 in
set_option maxRecDepth 100000 in
theorem sRing_any (n : Int) (w : World) :
    Calls Tryd.prog 101 #[.int .i64 n] w fun e w' => ∃ u, e = .returned u ∧ Sl w' w.heap.size u (Nt.ringOf n) ∧ Kept [] w w' := by
  by_cases h1 : 3 ≤ n ∧ n ≤ 6
  · obtain ⟨m, rfl⟩ := Int.eq_ofNat_of_zero_le (show 0 ≤ n by omega)
    have m1 : 3 ≤ m := by omega
    have m6 : m ≤ 6 := by omega
    have HF := Lib.hid (ringOf_yes m ⟨m1, m6⟩)
    have hd : decide ((3 : Int) ≤ (m : Int) ∧ (m : Int) ≤ 6) = true := dec_of h1
    clear h1
    go_enter Tryd.func101, Tryd.ntmps101
    go_wp2
    go_loopw [3, 4] (fun u i wr => ∃ k : Nat, k ≤ m ∧ i = .int .i64 k ∧ Sl wr w.heap.size u (Nt.nats ((Nt.ringN m).take k)) ∧ Kept [] w wr) (fun _ i _ => m - (intOf i).toNat)
    case atStart => exact ⟨0, Nat.zero_le _, rfl, Sl.empty' w, (Kept.refl _ _).alloc _⟩
    case round =>
      obtain ⟨k, hk, rfl, hsl, hkept⟩ := hrel
      have HSL := Lib.hid hsl
      have HK := Lib.hid hkept
      have hsz := hkept.size
      clear hsl hkept
      by_cases hlt : k < m
      · have HT := Lib.hid (Nt.take_more (Nt.ringN m) k (by rw [Nt.ringN_length]; exact hlt))
        have HG := Lib.hid (Nt.ringN_get m k hlt)
        have hl : (Nt.nats ((Nt.ringN m).take k)).length ≤ 1000000 := by rw [Nt.nats_length, List.length_take]; omega
        have HL := Lib.hid hl
        clear hl
        go_wp2_with (go_at_call 65; refine (l1In_any _ _ _ _).mono ?_; rintro e w' ⟨rfl, rfl⟩; rw [hd])
        obtain ⟨p, hp⟩ : ∃ p : Nat, p = (k + 1) % m := ⟨_, rfl⟩
        obtain ⟨q, hq⟩ : ∃ q : Nat, q = (k + m - 1) % m := ⟨_, rfl⟩
        have b1 : ((k : Int) + 1).tmod (m : Int) = (p : Int) := by
          rw [hp, Int.tmod_eq_emod_of_nonneg (by omega)]; simp
        have b2 : ((k : Int) + (m : Int) - 1).tmod (m : Int) = (q : Int) := by
          have e : ((k : Int) + (m : Int) - 1) = ((k + m - 1 : Nat) : Int) := by omega
          rw [hq, e, Int.tmod_eq_emod_of_nonneg (by omega)]; simp
        have p5 : p ≤ 5 := by have := Nat.mod_lt (k + 1) (show 0 < m by omega); omega
        have q5 : q ≤ 5 := by have := Nat.mod_lt (k + m - 1) (show 0 < m by omega); omega
        have HP := Lib.hid hp
        have HQ := Lib.hid hq
        clear hp hq
        have a1 : IntKind.i64.wrap ((k : Int) + 1) = (k : Int) + 1 := IntWalk.i64_in _ (by omega)
        have a2 : IntKind.i64.wrap ((k : Int) + (m : Int)) = (k : Int) + (m : Int) := IntWalk.i64_in _ (by omega)
        have a3 : IntKind.i64.wrap ((k : Int) + (m : Int) - 1) = (k : Int) + (m : Int) - 1 := IntWalk.i64_in _ (by omega)
        have hm0 : ¬ m = 0 := by omega
        have hcell : ∀ x : Int, ((wr.alloc (.cells #[.int .i64 x] 3)).drew).cell? ⟨wr.heap.size, 0, none⟩ = some (.int .i64 x) := by
          intro x
          simp
        have hS : ∀ o : Obj, Sl ((wr.alloc o).drew) w.heap.size _ _ := fun o => HSL.out.stay (((Kept.refl [] wr).alloc o).drew)
        have hZ : ∀ o : Obj, w.heap.size ≤ ((wr.alloc o).drew).heap.size := fun o => Nat.le_trans hsz (((Kept.refl [] wr).alloc o).drew).size
        have HC := Lib.hid hcell
        have HS := Lib.hid hS
        have HZ := Lib.hid hZ
        clear hcell hS hZ
        go_region_law ((refine step_app_int _ rfl _ _ rfl w.heap.size _ _ (HS.out _) rfl wr.heap.size rfl (HC.out _) HL.out (HZ.out _) ?_; intro u' w1 hs1 hk1))
        all_goals
          have HS1 := Lib.hid hs1
          have HK1 := Lib.hid hk1
          clear hs1 hk1 a1 a2 a3 b1 b2
          go_wp2
          go_roundw
          case rel =>
            refine ⟨k + 1, by omega, by go_num, HS1.out.val ?_ HT.out, (((HK.out.alloc _).drew).own HK1.out (fun g hg => (HSL.out.block hg).1))⟩
            rw [HG.out, ← HP.out, ← HQ.out]
            exact ring_bits p5 q5
          case measure => simp [intOf]; omega
      · have hk' : k = m := by omega
        subst hk'
        go_wp2_with (go_at_call 65; refine (l1In_any _ _ _ _).mono ?_; rintro e w' ⟨rfl, rfl⟩; rw [hd])
        go_ret
        refine ⟨_, rfl, ?_, HK.out⟩
        have h := HSL.out
        rw [List.take_of_length_le (by rw [Nt.ringN_length]; exact Nat.le_refl _)] at h
        rw [HF.out]
        exact h
  · have HF := Lib.hid (ringOf_no n h1)
    have hd : decide ((3 : Int) ≤ n ∧ n ≤ 6) = false := dec_not h1
    clear h1
    by_cases h0 : 0 < n
    all_goals
      go_enter Tryd.func101, Tryd.ntmps101
      go_wp2
      refine wp_loop_rounds 1 ?_
      rw [rounds_succ]
      go_wp2_with (go_at_call 65; refine (l1In_any _ _ _ _).mono ?_; rintro e w' ⟨rfl, rfl⟩; rw [hd])
      go_ret
      exact ⟨_, rfl, by rw [HF.out]; exact Sl.empty' w, (Kept.refl _ _).alloc _⟩
end Go.Proofs.YtaacehdfpoiljaaDoor
