/-
  Walks: raised states, by the program and by the model.
-/
import Derived.Test.YtahjplaidkibpaaS6
namespace Go.Proofs.Ytahjplaidkibpaa
open Go.RowKit
open Nt (stB)

theorem succ_mod (k c : Nat) : ((k : Int) + 1).tmod (c : Int) = (((k + 1) % c : Nat) : Int) := by
  have e : (k : Int) + 1 = ((k + 1 : Nat) : Int) := by omega
  rw [e]; exact tmod_nat _ _

set_option maxHeartbeats 400000 in
theorem nextKind_any (c k : Nat) (h3 : 3 ≤ c) (hk : k ≤ 1000) (w : World) :
    Calls Try.prog 64 #[.int .i64 (c : Int), .int .i64 (k : Int)] w fun e w' => e = .returned (.int .i64 (((k + 1) % c : Nat) : Int)) ∧ w = w' := by
  have f1 := succ_mod k c
  have hc0 : ¬ c = 0 := by omega
  generalize (k + 1) % c = r at *
  go_enter Try.func64, Try.ntmps64
  go_wp2
  go_ret
  exact ⟨rfl, rfl⟩

theorem raised_take (c : Nat) (ks : List Nat) (k : Nat) (h : k < ks.length) : Nt.nats ((Nt.raised c ks).take (k + 1)) = Nt.nats ((Nt.raised c ks).take k) ++ [(((ks.getD k 0 + 1) % c : Nat) : Int)] := by
  rw [Nt.take_more _ _ (by rw [Nt.raised_length]; exact h), Nt.raised_get _ _ _ h]

end Go.Proofs.Ytahjplaidkibpaa
