/-
  Walks: how many wires a net has.
-/
import Derived.Test.YtllbdhfckdljgaaNB
import Derived.Test.YtllbdhfckdljgaaW15
namespace Go.Proofs.Ytllbdhfckdljgaa
open Go.RowKit

set_option maxHeartbeats 1000000 in
set_option maxRecDepth 100000 in
theorem iWires_any (xs : List Int) (w : World) (v : Value) (base : Nat) (hs : Sl w base v xs) :
    Calls Try.prog 31 #[v] w fun e w' => e = .returned (.int .i64 (Nt.wiresOf xs)) ∧ w = w' := by
  have HS := Lib.hid hs
  by_cases ho : Nt.okB xs = true
  · obtain ⟨ns, rfl, hok⟩ := Nt.okB_ok ho
    have hfew := hok.few
    obtain ⟨g, cap, rfl, _, _, _, hc⟩ := hs.net (by have := hok.some; omega)
    have HC := Lib.hid hc
    have HOK := Lib.hid hok
    have HF := Lib.hid (Nt.wiresOf_ok hok)
    have HE := Lib.hid (Nt.ends_wires hok)
    clear hs hok hc
    go_enter Try.func31, Try.ntmps31
    go_wp2_with (go_at_call 18; refine (iNetOk_any (Nt.nats ns) _ _ base HS.out).mono ?_; rintro e w' ⟨rfl, rfl⟩)
    go_loop [3, 11] (fun a i => ∃ k : Nat, k ≤ ns.length ∧ i = .int .i64 k ∧ a = .int .i64 ((Nt.endsTo ns k : Nat) : Int)) (fun _ i => ns.length - (intOf i).toNat)
    case atStart => exact ⟨0, Nat.zero_le _, rfl, rfl⟩
    case round =>
      obtain ⟨k, hk, rfl, rfl⟩ := hrel
      have hb := Nt.sumTo_le (f := fun i => Nt.pop (ns.getD i 0)) (c := 6) k (fun i _ => Nt.popTo_le _ 6)
      have hb' : Nt.endsTo ns k ≤ 36 := by unfold Nt.endsTo; omega
      clear hb
      by_cases hlt : k < ns.length
      · have hcell := HC.out k hlt
        have hx := HOK.out.get_lt k
        have hp : Nt.pop (ns.getD k 0) ≤ 6 := Nt.popTo_le _ 6
        have HN : Hid (Nt.endsTo ns (k + 1) = Nt.endsTo ns k + Nt.pop (ns.getD k 0)) := Lib.hid rfl
        have HSZ := Lib.hid (sizeOf_any (ns.getD k 0) hx)
        generalize Nt.endsTo ns k = a at *
        generalize Nt.pop (ns.getD k 0) = q at *
        generalize ns.getD k 0 = x at *
        go_wp2_with (go_at_call 56; refine (HSZ.out _).mono ?_; rintro e w' ⟨rfl, rfl⟩)
        go_round
        case rel => exact ⟨k + 1, by omega, by go_num, by rw [HN.out]; go_num⟩
        case measure => simp [intOf]; omega
      · have hk' : k = ns.length := by omega
        subst hk'
        have HE2 : Hid (((Nt.endsTo ns ns.length : Nat) : Int) / 2 = Nt.wiresOf (Nt.nats ns)) := Lib.hid (by rw [HF.out, HE.out]; omega)
        generalize Nt.endsTo ns ns.length = a at *
        go_wp2
        go_ret
        exact ⟨by rw [← HE2.out]; rfl, rfl⟩
  · have ho' : Nt.okB xs = false := by simpa using ho
    have HF := Lib.hid (Nt.wiresOf_no ho')
    obtain ⟨a, cap, rfl, _, _, _⟩ := hs.any
    clear ho hs
    go_enter Try.func31, Try.ntmps31
    go_wp2_with (go_at_call 18; refine (iNetOk_any xs _ _ base HS.out).mono ?_; rintro e w' ⟨rfl, rfl⟩)
    go_ret
    exact ⟨by rw [HF.out]; rfl, rfl⟩

end Go.Proofs.Ytllbdhfckdljgaa
