/-
  Walks: nets with other names, by the program and by the model.
-/
import Derived.Test.YtahjplaidkibpaaW5
import Derived.Test.YtahjplaidkibpaaO1
import Derived.Test.YtahjplaidkibpaaB2
import Derived.Test.YtahjplaidkibpaaPureD
import Derived.StillTailTactics
import Derived.Deep.RegionWith
namespace Go.Proofs.Ytahjplaidkibpaa
open Go.RowKit
open Nt (okB ordB)

theorem nset_small {n : Nat} {os : List Nat} (h : Nt.Ord n os) (h6 : n ≤ 6) (s k : Nat) (hk : k ≤ n) : Nt.nsetTo os s k < 64 :=
  Nat.lt_of_lt_of_le (Nt.nsetTo_lt h s k hk) (Nt.pow_le h6)

set_option maxHeartbeats 1000000 in
theorem namedSet_any (n : Nat) (h6 : n ≤ 6) (hp : 0 < n) (os : List Nat) (ho : Nt.Ord n os) (s : Nat) (w : World) (v : Value) (base : Nat) (hs : Sl w base v (Nt.nats os)) :
    Calls Try.prog 46 #[.int .i64 (s : Int), v] w fun e w' => e = .returned (.int .i64 ((Nt.nset os s : Nat) : Int)) ∧ w' = w := by
  obtain ⟨g, cap, rfl, hg, hc⟩ := hs.row ho.len hp
  have HC := Lib.hid hc
  have HO := Lib.hid ho
  have HE : Hid (Nt.nset os s = Nt.nsetTo os s n) := Lib.hid (by unfold Nt.nset; rw [ho.len])
  clear hs hc ho
  go_enter Try.func46, Try.ntmps46
  go_wp2
  go_loop [5, 10] (fun q i => ∃ k : Nat, k ≤ n ∧ i = .int .i64 k ∧ q = .int .i64 ((Nt.nsetTo os s k : Nat) : Int)) (fun _ i => n - (intOf i).toNat)
  case atStart => exact ⟨0, Nat.zero_le _, rfl, rfl⟩
  case round =>
    obtain ⟨k, hk, rfl, rfl⟩ := hrel
    by_cases hlt : k < n
    · have hck := HC.out k hlt
      have hlo := HO.out.lt k hlt
      have hsm := nset_small HO.out h6 s k hk
      have HS : Hid (Nt.nsetTo os s (k + 1) = if s.testBit k then Nt.nsetTo os s k ||| 2 ^ os.getD k 0 else Nt.nsetTo os s k) := Lib.hid rfl
      generalize Nt.nsetTo os s k = q at *
      generalize os.getD k 0 = x at *
      have HX := Lib.hid (or_shl q x hsm (by omega))
      cases hb : s.testBit k
      · go_wp2_with (go_at_call 57; refine (hasNode_nat s k _ (by omega)).mono ?_; rintro e w' ⟨rfl, rfl⟩; rw [hb])
        go_round
        case rel => exact ⟨k + 1, by omega, by go_num, by rw [HS.out, hb]; rfl⟩
        case measure => simp [intOf]; omega
      · go_wp2_with (go_at_call 57; refine (hasNode_nat s k _ (by omega)).mono ?_; rintro e w' ⟨rfl, rfl⟩; rw [hb])
        go_round
        case rel => exact ⟨k + 1, by omega, by go_num, by rw [HS.out, hb, HX.out]; rfl⟩
        case measure => simp [intOf]; omega
    · have hk' : k = n := by omega
      subst hk'
      go_wp2
      go_ret
      exact ⟨by rw [HE.out]; rfl, rfl⟩

end Go.Proofs.Ytahjplaidkibpaa
