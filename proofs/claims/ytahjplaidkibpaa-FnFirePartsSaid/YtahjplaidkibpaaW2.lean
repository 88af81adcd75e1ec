/-
  Walks: the neighbours of a set.
-/
import Derived.Test.YtahjplaidkibpaaW1
namespace Go.Proofs.Ytahjplaidkibpaa
open Go.RowKit

set_option maxHeartbeats 1000000 in
theorem nearSet_any (ns : List Nat) (hok : Nt.Ok ns) (set : Nat) (w : World) (v : Value) (base : Nat) (hs : Sl w base v (Nt.nats ns)) :
    Calls Try.prog 61 #[v, .int .i64 set] w fun e w' => e = .returned (.int .i64 ((Nt.near ns set : Nat) : Int)) ∧ w = w' := by
  have hfew := hok.few
  obtain ⟨g, cap, rfl, _, _, _, hc⟩ := hs.net (by have := hok.some; omega)
  have HOK := Lib.hid hok
  have HC := Lib.hid hc
  clear hok hc hs
  go_enter Try.func61, Try.ntmps61
  go_wp2
  go_loop [5, 10] (fun a i => ∃ k : Nat, k ≤ ns.length ∧ i = .int .i64 k ∧ a = .int .i64 ((Nt.nearTo ns set k : Nat) : Int)) (fun _ i => ns.length - (intOf i).toNat)
  case atStart => exact ⟨0, Nat.zero_le _, rfl, rfl⟩
  case round =>
    obtain ⟨k, hk, rfl, rfl⟩ := hrel
    by_cases hlt : k < ns.length
    · have hcell := HC.out k hlt
      have hb1 := Nt.nearTo_small HOK.out set k hk
      have hb2 := HOK.out.get_lt k
      have HN : Hid (Nt.nearTo ns set (k + 1) = if set.testBit k then Nt.nearTo ns set k ||| ns.getD k 0 else Nt.nearTo ns set k) := rfl
      have HOR := Lib.hid (bits_or_nat (Nt.nearTo ns set k) (ns.getD k 0) (by omega) (by omega))
      generalize Nt.nearTo ns set k = x at *
      generalize ns.getD k 0 = y at *
      by_cases hb : set.testBit k = true
      · go_wp2_with (go_at_call 57; refine (hasNode_nat set k _ (by omega)).mono ?_; rintro e w' ⟨rfl, rfl⟩)
        go_round
        case rel => exact ⟨k + 1, by omega, by go_num, by rw [HN.out, if_pos hb, HOR.out]⟩
        case measure => simp [intOf]; omega
      · have hb' : set.testBit k = false := by simpa using hb
        clear hb
        go_wp2_with (go_at_call 57; refine (hasNode_nat set k _ (by omega)).mono ?_; rintro e w' ⟨rfl, rfl⟩)
        go_round
        case rel => exact ⟨k + 1, by omega, by go_num, by rw [HN.out, if_neg (by simp [hb'])]⟩
        case measure => simp [intOf]; omega
    · have hk' : k = ns.length := by omega
      subst hk'
      go_wp2
      go_ret
      exact ⟨rfl, rfl⟩
end Go.Proofs.Ytahjplaidkibpaa
