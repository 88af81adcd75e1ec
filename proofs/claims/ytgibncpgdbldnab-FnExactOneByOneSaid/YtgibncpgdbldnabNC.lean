/-
  Walks: what an order is, by the program and by the model.
  Walks: states with other names, by the program and by the model.
  Walks: nets with other names, by the program and by the model.
  Walks: nets with other names, by the program and by the model.
  Walks: parts of nets, by the program and by the model.
  Walks: parts of nets, by the model.
-/
import Derived.Test.YtgibncpgdbldnabKA
import Derived.Test.YtgibncpgdbldnabPA
import Derived.Test.YtgibncpgdbldnabNA
import Derived.StillTailTactics
import Derived.Deep.RegionWith
import Derived.Test.YtgibncpgdbldnabNB
namespace Go.Proofs.Ytgibncpgdbldnab
open Go.RowKit
open Nt (ordB ordB_iff ordB_no ordTo ordTo_succ)

theorem toNat_get (ys : List Int) (k : Nat) : (ys.map Int.toNat).getD k 0 = (ys.getD k 0).toNat := by
  simp only [List.getD_eq_getElem?_getD, List.getElem?_map]
  cases ys[k]? <;> rfl

theorem seen_some {n k m : Nat} {ys : List Int} (h : ordTo n ys k) (hb : (Nt.seenTo (ys.map Int.toNat) k).testBit m = true) : ∃ i, i < k ∧ ys.getD i 0 = (m : Int) := by
  obtain ⟨i, hi, e⟩ := (Nt.testBit_seenTo _ m k).1 hb
  rw [toNat_get] at e
  have := (h i hi).1.1
  exact ⟨i, hi, by omega⟩

theorem seen_none {k m : Nat} {ys : List Int} (hb : (Nt.seenTo (ys.map Int.toNat) k).testBit m = false) (i : Nat) (hi : i < k) : ys.getD i 0 ≠ (m : Int) := by
  intro e
  have := (Nt.testBit_seenTo (ys.map Int.toNat) m k).2 ⟨i, hi, by rw [toNat_get, e, Int.toNat_natCast]⟩
  rw [hb] at this
  cases this

theorem seen_lt {n : Nat} {ys : List Int} (h6 : n ≤ 6) : ∀ k, ordTo n ys k → Nt.seenTo (ys.map Int.toNat) k < 64
  | 0, _ => by simp [Nt.seenTo]
  | k + 1, h => by
    have ih := seen_lt h6 k fun i hi => h i (by omega)
    have h1 := (h k (by omega)).1
    rw [Nt.seenTo, toNat_get]
    exact or_small ih (by omega)

theorem seen_succ {k m : Nat} {ys : List Int} (e : ys.getD k 0 = (m : Int)) : Nt.seenTo (ys.map Int.toNat) (k + 1) = Nt.seenTo (ys.map Int.toNat) k ||| 2 ^ m := by
  rw [Nt.seenTo, toNat_get, e, Int.toNat_natCast]

set_option maxHeartbeats 1000000 in
set_option maxRecDepth 100000 in
theorem orderOk_any (n : Nat) (h6 : n ≤ 6) (ys : List Int) (w : World) (v : Value) (base : Nat) (hs : Sl w base v ys) :
    Calls Try.prog 39 #[.int .i64 (n : Int), v] w fun e w' => e = .returned (.bool (ordB n ys)) ∧ w = w' := by
  obtain ⟨a, cap, rfl, _, hm, hc⟩ := hs.any
  have HC := Lib.hid hc
  clear hc hs
  by_cases hl : ys.length = n
  · have h0 : ((ys.length : Int) != (n : Int)) = false := by simp [hl]
    have HL := Lib.hid hl
    clear hl
    go_enter Try.func39, Try.ntmps39
    go_wp2
    go_loop [5, 14] (fun s i => ∃ k : Nat, k ≤ ys.length ∧ i = .int .i64 k ∧ s = .int .i64 ((Nt.seenTo (ys.map Int.toNat) k : Nat) : Int) ∧ ordTo n ys k) (fun _ i => ys.length - (intOf i).toNat)
    case atStart => exact ⟨0, Nat.zero_le _, rfl, rfl, fun j hj => absurd hj (by omega)⟩
    case round =>
      obtain ⟨k, hk, rfl, rfl, hto⟩ := hrel
      have hs64 := seen_lt h6 k hto
      have HT := Lib.hid hto
      clear hto
      by_cases hlt : k < ys.length
      · obtain ⟨g, rfl, _, _, hcell, _⟩ := HC.out k hlt
        by_cases h3 : ys.getD k 0 < 0
        · generalize hb : ys.getD k 0 = b at *
          have HB := Lib.hid hb
          clear hb
          go_wp2
          go_ret
          exact ⟨by rw [ordB_no (fun h => by have := (h.2 k hlt).1.1; rw [HB.out] at this; omega)]; rfl, rfl⟩
        · obtain ⟨m, hm2⟩ := Int.eq_ofNat_of_zero_le (show 0 ≤ ys.getD k 0 by omega)
          have HS := Lib.hid (seen_succ hm2)
          have HB := Lib.hid hm2
          rw [hm2] at hcell
          clear h3 hm2
          by_cases h4 : m < n
          · have hn : ¬ (n : Int) ≤ (m : Int) := by omega
            have HSO := Lib.hid (fun hb => seen_some (m := m) HT.out hb)
            have HNO := Lib.hid (fun hb => seen_none (k := k) (m := m) (ys := ys) hb)
            have HE := Lib.hid (or_shl (Nt.seenTo (ys.map Int.toNat) k) m hs64 (by omega))
            generalize Nt.seenTo (ys.map Int.toNat) k = s at *
            cases hbit : s.testBit m
            · go_wp2_with (go_at_call 56; refine (hasNode_nat s m _ (by omega)).mono ?_; rintro e w' ⟨rfl, rfl⟩; rw [hbit])
              go_round
              case rel => exact ⟨k + 1, by omega, by go_num, by rw [HS.out, ← HE.out], ordTo_succ HT.out (by rw [HB.out]; omega) (by rw [HB.out]; exact HNO.out hbit)⟩
              case measure => simp [intOf]; omega
            · go_wp2_with (go_at_call 56; refine (hasNode_nat s m _ (by omega)).mono ?_; rintro e w' ⟨rfl, rfl⟩; rw [hbit])
              go_ret
              exact ⟨by rw [ordB_no (fun h => by obtain ⟨i, hi, e⟩ := HSO.out hbit; exact (h.2 k hlt).2 i hi (by rw [e, HB.out]))]; rfl, rfl⟩
          · have hn : (n : Int) ≤ (m : Int) := by omega
            go_wp2
            go_ret
            exact ⟨by rw [ordB_no (fun h => by have := (h.2 k hlt).1.2; rw [HB.out] at this; omega)]; rfl, rfl⟩
      · have hk' : k = ys.length := by omega
        subst hk'
        go_wp2
        go_ret
        exact ⟨by rw [ordB_iff.2 ⟨HL.out, HT.out⟩]; rfl, rfl⟩
  · have h0 : ((ys.length : Int) != (n : Int)) = true := by simp; omega
    have HNO := Lib.hid (ordB_no (n := n) (ys := ys) (fun h => hl h.1))
    clear hl
    go_enter Try.func39, Try.ntmps39
    go_wp2
    go_ret
    exact ⟨by rw [HNO.out]; rfl, rfl⟩

set_option maxHeartbeats 1000000 in
set_option maxRecDepth 100000 in
theorem l1Order_any (n : Nat) (h6 : n ≤ 6) (ys : List Int) (w : World) (v : Value) (base : Nat) (hs : Sl w base v ys) :
    Calls Try.prog 38 #[.int .i64 (n : Int), v] w fun e w' => e = .returned (.bool (ordB n ys)) ∧ w = w' := by
  obtain ⟨a, cap, rfl, _, hm, hc⟩ := hs.any
  have HC := Lib.hid hc
  clear hc hs
  go_enter Try.func38, Try.ntmps38
  go_wp2
  go_loop [5, 6] (fun s i => ∃ k : Nat, k ≤ ys.length ∧ i = .int .i64 k ∧ s = .int .i64 ((Nt.seenTo (ys.map Int.toNat) k : Nat) : Int) ∧ ordTo n ys k) (fun _ i => ys.length - (intOf i).toNat)
  case atStart => exact ⟨0, Nat.zero_le _, rfl, rfl, fun j hj => absurd hj (by omega)⟩
  case round =>
    obtain ⟨k, hk, rfl, rfl, hto⟩ := hrel
    have hs64 := seen_lt h6 k hto
    have HT := Lib.hid hto
    clear hto
    by_cases hlt : k < ys.length
    · obtain ⟨g, rfl, _, _, hcell, _⟩ := HC.out k hlt
      by_cases h3 : ys.getD k 0 < 0
      · generalize hb : ys.getD k 0 = b at *
        have HB := Lib.hid hb
        clear hb
        go_wp2
        go_ret
        exact ⟨by rw [ordB_no (fun h => by have := (h.2 k hlt).1.1; rw [HB.out] at this; omega)]; rfl, rfl⟩
      · obtain ⟨m, hm2⟩ := Int.eq_ofNat_of_zero_le (show 0 ≤ ys.getD k 0 by omega)
        have HS := Lib.hid (seen_succ hm2)
        have HB := Lib.hid hm2
        rw [hm2] at hcell
        clear h3 hm2
        by_cases h4 : m < n
        · have hn : ¬ (n : Int) ≤ (m : Int) := by omega
          have HSO := Lib.hid (fun hb => seen_some (m := m) HT.out hb)
          have HNO := Lib.hid (fun hb => seen_none (k := k) (m := m) (ys := ys) hb)
          have HE := Lib.hid (or_shl (Nt.seenTo (ys.map Int.toNat) k) m hs64 (by omega))
          generalize Nt.seenTo (ys.map Int.toNat) k = s at *
          have p1 := shr_nonneg s m
          have e1 := shr_bit s m
          cases hbit : s.testBit m
          · rw [hbit] at e1
            simp only [Bool.false_eq_true, if_false] at e1
            go_wp2
            go_round
            case rel => exact ⟨k + 1, by omega, by go_num, by rw [HS.out, ← HE.out], ordTo_succ HT.out (by rw [HB.out]; omega) (by rw [HB.out]; exact HNO.out hbit)⟩
            case measure => simp [intOf]; omega
          · rw [hbit] at e1
            simp only [if_true] at e1
            go_wp2
            go_ret
            exact ⟨by rw [ordB_no (fun h => by obtain ⟨i, hi, e⟩ := HSO.out hbit; exact (h.2 k hlt).2 i hi (by rw [e, HB.out]))]; rfl, rfl⟩
        · have hn : (n : Int) ≤ (m : Int) := by omega
          go_wp2
          go_ret
          exact ⟨by rw [ordB_no (fun h => by have := (h.2 k hlt).1.2; rw [HB.out] at this; omega)]; rfl, rfl⟩
    · have hk' : k = ys.length := by omega
      subst hk'
      by_cases hl : ys.length = n
      · have h0 : ((ys.length : Int) == (n : Int)) = true := by simp [hl]
        have HYES := Lib.hid (ordB_iff.2 ⟨hl, HT.out⟩)
        clear hl
        go_wp2
        go_ret
        exact ⟨by rw [HYES.out]; rfl, rfl⟩
      · have h0 : ((ys.length : Int) == (n : Int)) = false := by simp; omega
        have HNO := Lib.hid (ordB_no (n := n) (ys := ys) (fun h => hl h.1))
        clear hl
        go_wp2
        go_ret
        exact ⟨by rw [HNO.out]; rfl, rfl⟩
end Go.Proofs.Ytgibncpgdbldnab

namespace Go.Proofs.Ytgibncpgdbldnab
open Go.RowKit
open Nt (stB ordB)

end Go.Proofs.Ytgibncpgdbldnab

namespace Go.Proofs.Ytgibncpgdbldnab
open Go.RowKit
open Nt (okB ordB)

theorem nset_small {n : Nat} {os : List Nat} (h : Nt.Ord n os) (h6 : n ≤ 6) (s k : Nat) (hk : k ≤ n) : Nt.nsetTo os s k < 64 :=
  Nat.lt_of_lt_of_le (Nt.nsetTo_lt h s k hk) (Nt.pow_le h6)

end Go.Proofs.Ytgibncpgdbldnab

namespace Go.Proofs.Ytgibncpgdbldnab
open Go.RowKit
open Nt (okB ordB)

theorem okB_len {xs : List Int} (h : okB xs = true) : 1 ≤ xs.length ∧ xs.length ≤ 6 := by
  obtain ⟨ns, rfl, ok⟩ := Nt.okB_ok h
  rw [Nt.nats_length]
  exact ⟨ok.some, ok.few⟩

end Go.Proofs.Ytgibncpgdbldnab

namespace Go.Proofs.Ytgibncpgdbldnab
open Go.RowKit
open Nt (okB)

/-- Each node its own label, up to a place. -/
def ownTo (n k : Nat) : List Nat := List.range k ++ List.replicate (n - k) 0
theorem ownTo_zero (n : Nat) : ownTo n 0 = List.replicate n 0 := by simp [ownTo]
theorem ownTo_end (n : Nat) : ownTo n n = List.range n := by simp [ownTo]
theorem ownTo_length (n k : Nat) (h : k ≤ n) : (ownTo n k).length = n := by simp [ownTo]; omega
theorem ownTo_set (n k : Nat) (h : k < n) : (ownTo n k).set k k = ownTo n (k + 1) := by
  have e : n - k = (n - (k + 1)) + 1 := by omega
  unfold ownTo
  rw [List.set_append_right _ _ (by simp), List.length_range, Nat.sub_self, e, List.replicate_succ, List.set_cons_zero, List.range_succ, List.append_assoc]
  rfl

theorem labIn_length {ns : List Nat} (ok : Nt.Ok ns) {k : Nat} (hk : k < ns.length) (j : Nat) (hj : j ≤ k) : (Nt.labIn ns k (Nt.labOut ns k) j).length = ns.length :=
  (Nt.lab_in ok hk (Nt.lab_out ok k (by omega)) j hj).len

end Go.Proofs.Ytgibncpgdbldnab

namespace Go.Proofs.Ytgibncpgdbldnab
open Go.RowKit
open Nt (okB)

theorem pow_wrap {k : Nat} (h : k ≤ 6) : wrap64 (2 ^ k) = ((2 ^ k : Nat) : Int) := by
  have h := wrap_pow k (by omega) (by omega)
  rw [Int.toNat_natCast] at h
  rw [h]
  exact (Int.natCast_pow 2 k).symm

theorem dist_self {ns : List Nat} (k : Nat) : Nt.dist ns (2 ^ k) 64 k = 0 := Nt.dist_zero.2 ((Nt.bit_pow k k).2 rfl)

end Go.Proofs.Ytgibncpgdbldnab
