/-
  Walks: what an order is, by the program and by the model.
-/
import Derived.Test.YtahjplaidkibpaaW1
import Derived.Test.YtahjplaidkibpaaOps
import Derived.Test.YtahjplaidkibpaaPureO
namespace Go.Proofs.Ytahjplaidkibpaa
open Go.RowKit
open Nt (ordB ordB_iff ordB_no ordTo ordTo_succ)

theorem toNat_get (ys : List Int) (k : Nat) : (ys.map Int.toNat).getD k 0 = (ys.getD k 0).toNat := by
  simp only [List.getD_eq_getElem?_getD, List.getElem?_map]
  cases ys[k]? <;> rfl

theorem seen_some {n k m : Nat} {ys : List Int} (h : ordTo n ys k) (hb : (Nt.seenTo (ys.map Int.toNat) k).testBit m = true) : ∃ i, i < k ∧ ys.getD i 0 = (m : Int) := by
  obtain ⟨i, hi, e⟩ := (Nt.testBit_seenTo _ m k).1 hb
  rw [toNat_get] at e
  have := (h i hi).1.1
  exact ⟨i, hi, by omega⟩

theorem seen_none {k m : Nat} {ys : List Int} (hb : (Nt.seenTo (ys.map Int.toNat) k).testBit m = false) (i : Nat) (hi : i < k) : ys.getD i 0 ≠ (m : Int) := by
  intro e
  have := (Nt.testBit_seenTo (ys.map Int.toNat) m k).2 ⟨i, hi, by rw [toNat_get, e, Int.toNat_natCast]⟩
  rw [hb] at this
  cases this

theorem seen_lt {n : Nat} {ys : List Int} (h6 : n ≤ 6) : ∀ k, ordTo n ys k → Nt.seenTo (ys.map Int.toNat) k < 64
  | 0, _ => by simp [Nt.seenTo]
  | k + 1, h => by
    have ih := seen_lt h6 k fun i hi => h i (by omega)
    have h1 := (h k (by omega)).1
    rw [Nt.seenTo, toNat_get]
    exact or_small ih (by omega)

theorem seen_succ {k m : Nat} {ys : List Int} (e : ys.getD k 0 = (m : Int)) : Nt.seenTo (ys.map Int.toNat) (k + 1) = Nt.seenTo (ys.map Int.toNat) k ||| 2 ^ m := by
  rw [Nt.seenTo, toNat_get, e, Int.toNat_natCast]

set_option maxHeartbeats 1000000 in
theorem orderOk_any (n : Nat) (h6 : n ≤ 6) (ys : List Int) (w : World) (v : Value) (base : Nat) (hs : Sl w base v ys) :
    Calls Try.prog 45 #[.int .i64 (n : Int), v] w fun e w' => e = .returned (.bool (ordB n ys)) ∧ w = w' := by
  obtain ⟨a, cap, rfl, _, hm, hc⟩ := hs.any
  have HC := Lib.hid hc
  clear hc hs
  by_cases hl : ys.length = n
  · have h0 : ((ys.length : Int) != (n : Int)) = false := by simp [hl]
    have HL := Lib.hid hl
    clear hl
    go_enter Try.func45, Try.ntmps45
    go_wp2
    go_loop [5, 14] (fun s i => ∃ k : Nat, k ≤ ys.length ∧ i = .int .i64 k ∧ s = .int .i64 ((Nt.seenTo (ys.map Int.toNat) k : Nat) : Int) ∧ ordTo n ys k) (fun _ i => ys.length - (intOf i).toNat)
    case atStart => exact ⟨0, Nat.zero_le _, rfl, rfl, fun j hj => absurd hj (by omega)⟩
    case round =>
      obtain ⟨k, hk, rfl, rfl, hto⟩ := hrel
      have hs64 := seen_lt h6 k hto
      have HT := Lib.hid hto
      clear hto
      by_cases hlt : k < ys.length
      · obtain ⟨g, rfl, _, _, hcell, _⟩ := HC.out k hlt
        by_cases h3 : ys.getD k 0 < 0
        · generalize hb : ys.getD k 0 = b at *
          have HB := Lib.hid hb
          clear hb
          go_wp2
          go_ret
          exact ⟨by rw [ordB_no (fun h => by have := (h.2 k hlt).1.1; rw [HB.out] at this; omega)]; rfl, rfl⟩
        · obtain ⟨m, hm2⟩ := Int.eq_ofNat_of_zero_le (show 0 ≤ ys.getD k 0 by omega)
          have HS := Lib.hid (seen_succ hm2)
          have HB := Lib.hid hm2
          rw [hm2] at hcell
          clear h3 hm2
          by_cases h4 : m < n
          · have hn : ¬ (n : Int) ≤ (m : Int) := by omega
            have HSO := Lib.hid (fun hb => seen_some (m := m) HT.out hb)
            have HNO := Lib.hid (fun hb => seen_none (k := k) (m := m) (ys := ys) hb)
            have HE := Lib.hid (or_shl (Nt.seenTo (ys.map Int.toNat) k) m hs64 (by omega))
            generalize Nt.seenTo (ys.map Int.toNat) k = s at *
            cases hbit : s.testBit m
            · go_wp2_with (go_at_call 57; refine (hasNode_nat s m _ (by omega)).mono ?_; rintro e w' ⟨rfl, rfl⟩; rw [hbit])
              go_round
              case rel => exact ⟨k + 1, by omega, by go_num, by rw [HS.out, ← HE.out], ordTo_succ HT.out (by rw [HB.out]; omega) (by rw [HB.out]; exact HNO.out hbit)⟩
              case measure => simp [intOf]; omega
            · go_wp2_with (go_at_call 57; refine (hasNode_nat s m _ (by omega)).mono ?_; rintro e w' ⟨rfl, rfl⟩; rw [hbit])
              go_ret
              exact ⟨by rw [ordB_no (fun h => by obtain ⟨i, hi, e⟩ := HSO.out hbit; exact (h.2 k hlt).2 i hi (by rw [e, HB.out]))]; rfl, rfl⟩
          · have hn : (n : Int) ≤ (m : Int) := by omega
            go_wp2
            go_ret
            exact ⟨by rw [ordB_no (fun h => by have := (h.2 k hlt).1.2; rw [HB.out] at this; omega)]; rfl, rfl⟩
      · have hk' : k = ys.length := by omega
        subst hk'
        go_wp2
        go_ret
        exact ⟨by rw [ordB_iff.2 ⟨HL.out, HT.out⟩]; rfl, rfl⟩
  · have h0 : ((ys.length : Int) != (n : Int)) = true := by simp; omega
    have HNO := Lib.hid (ordB_no (n := n) (ys := ys) (fun h => hl h.1))
    clear hl
    go_enter Try.func45, Try.ntmps45
    go_wp2
    go_ret
    exact ⟨by rw [HNO.out]; rfl, rfl⟩

end Go.Proofs.Ytahjplaidkibpaa
